
/- The exact law of FreeTimes holds for all arguments: impl.FreeTimes answers as its model, its answer owns its memory, and the arguments read as before. No condition. -/
import Derived.Test.YtghjfcnboocmjaaRows
import Derived.Test.YtghjfcnboocmjaaBc0
import Derived.Test.YtghjfcnboocmjaaBc19
import Derived.Test.YtghjfcnboocmjaaBc22
import Derived.Test.YtghjfcnboocmjaaBc5
import Derived.Test.YtghjfcnboocmjaaBc8
import Derived.Test.YtghjfcnboocmjaaBc6
import Derived.Test.YtghjfcnboocmjaaBc7
import Derived.Deep.RegionHeld3
import Derived.Deep.DeepCutAuto
namespace Go.Proofs.Ytghjfcnboocmjaa.exactFreeTimes
open Go.ChangeShapes Go.WideShapes Go.ChangeAt Go.RowKit
set_option maxRecDepth 100000
theorem own : ownKnob Try.prog.godebug = none := by kernel_rfl
theorem laidOut : laidOutB Try.prog = true := by kernel_rfl
set_option maxHeartbeats 16000000 in
theorem law (A0 : Option Addr) (c0 : Nat) (l0 : List BerthD) (A1 : Option Addr) (c1 : Nat) (l1 : List StayD) (a2 : Int) (w : World) (hin0 : l0.length ≤ maxLen ∧ (l0.length ≤ 1000000000 → SlBerth w (.slice A0 l0.length c0) l0) ∧ ∀ x ∈ l0, BerthD.wf x) (hin1 : l1.length ≤ maxLen ∧ (l1.length ≤ 1000000000 → SlStay w (.slice A1 l1.length c1) l1) ∧ ∀ x ∈ l1, StayD.wf x) (_ : (Lit.int .i64 a2).wf = true) :
    Calls Try.prog 7 #[.slice A0 l0.length c0, .slice A1 l1.length c1, .int .i64 a2] w fun e w' => e = .returned (.bool true) ∧ Below w.heap.size w w' := by
  obtain ⟨m0, s0, f0⟩ := hin0
  unfold maxLen at m0
  have SS0 := Lib.hid s0
  have FF0 := Lib.hid f0
  clear s0 f0
  obtain ⟨m1, s1, f1⟩ := hin1
  unfold maxLen at m1
  have SS1 := Lib.hid s1
  have FF1 := Lib.hid f1
  clear s1 f1
  have HB0 : Below w.heap.size w w := Below.refl _ _
  have BW := Lib.hid HB0
  clear HB0
  go_enter Try.func7, Try.ntmps7
  have B0 := Lib.hid (Below.refl (w).heap.size w)
  have hs0 : w.heap.size ≤ (w).heap.size := BW.out.size
  obtain ⟨r0, hr0⟩ : ∃ r0, (freeL l0 l1 a2) = r0 := ⟨_, rfl⟩
  have HR0 := Lib.hid hr0
  clear hr0
  -- left := 1 << 20
  -- left = szBerthS(aBerths, left)
  have hl1 : 0 ≤ (1048576 : Int) := by omega
  have hll1 : (1048576 : Int) ≤ 1048576 := by omega
  go_wp2_with fail
  refine (szBerthS_any A0 l0 c0 _ (by omega) (fun h => (SS0.out h).below (BW.out.trans (B0.out.mono hs0))) (fun x hx => wfszBerth (FF0.out x hx)) (1048576) hl1 hll1).mono ?_
  rintro e w1 ⟨rfl, hb1⟩
  have B1 := Lib.hid (B0.out.trans (hb1.mono B0.out.size))
  have hz1 : (w).heap.size ≤ w1.heap.size := hb1.size
  clear hb1 
  have ps1 := bulkBerth_pos l0
  by_cases neg1 : (1048576 : Int) < ((l0.length : Int) + bulkBerth l0)
  · rw [leftOf_no neg1]
    go_wp2
    go_ret
    exact ⟨rfl, BW.out.trans (B1.out.mono hs0)⟩
  rw [leftOf_yes neg1]
  have ne1 : ¬ (1048576 - ((l0.length : Int) + bulkBerth l0) : Int) < 0 := by omega
  have R0 := Lib.hid (SS0.out (by omega))
  clear SS0
  -- left = szStayS(aStays, left)
  have hl2 : 0 ≤ (1048576 - ((l0.length : Int) + bulkBerth l0) : Int) := by omega
  have hll2 : (1048576 - ((l0.length : Int) + bulkBerth l0) : Int) ≤ 1048576 := by omega
  go_wp2_with fail
  refine (szStayS_any A1 l1 c1 _ (by omega) (fun h => (SS1.out h).below (BW.out.trans (B1.out.mono hs0))) (1048576 - ((l0.length : Int) + bulkBerth l0)) hl2 hll2).mono ?_
  rintro e w2 ⟨rfl, hb2⟩
  have B2 := Lib.hid (B1.out.trans (hb2.mono B1.out.size))
  have hz2 : (w1).heap.size ≤ w2.heap.size := hb2.size
  clear hb2 
  have ps2 := bulkStay_pos l1
  by_cases neg2 : (1048576 - ((l0.length : Int) + bulkBerth l0) : Int) < ((l1.length : Int) + bulkStay l1)
  · rw [leftOf_no neg2]
    go_wp2
    go_ret
    exact ⟨rfl, BW.out.trans (B2.out.mono hs0)⟩
  rw [leftOf_yes neg2]
  have ne2 : ¬ (1048576 - ((l0.length : Int) + bulkBerth l0) - ((l1.length : Int) + bulkStay l1) : Int) < 0 := by omega
  have R1 := Lib.hid (SS1.out (by omega))
  clear SS1
  -- w0 := spec.FreeTimes(toBerthS(aBerths), toStayS(aStays), aBerth)
  go_wp2_with fail
  refine (toBerthS_any _ l0 _ (R0.out.below (BW.out.trans (B2.out.mono hs0)))).mono ?_
  rintro e w3 ⟨u3, rfl, o3, hb3⟩
  have S3 := Lib.hid (OwnBerth.sl o3 (by omega))
  have RG3 := Lib.hid (own_range o3)
  have FR3 := Lib.hid (own_freeV o3)
  obtain ⟨D3, k3, rfl⟩ := own_form o3
  have B3 := Lib.hid (B2.out.trans (hb3.mono B2.out.size))
  have hz3 : (w2).heap.size ≤ w3.heap.size := hb3.size
  clear hb3 o3
  go_wp2_with fail
  refine (toStayS_any _ l1 _ (R1.out.below (BW.out.trans (B3.out.mono hs0)))).mono ?_
  rintro e w4 ⟨u4, rfl, o4, hb4⟩
  have S4 := Lib.hid (OwnStay.sl o4 (by omega))
  have RG4 := Lib.hid (own_range o4)
  have FR4 := Lib.hid (own_freeV o4)
  obtain ⟨D4, k4, rfl⟩ := own_form o4
  have B4 := Lib.hid (B3.out.trans (hb4.mono B3.out.size))
  have t3_4 := Lib.hid (S3.out.below hb4)
  have hz4 : (w3).heap.size ≤ w4.heap.size := hb4.size
  clear hb4 o4
  have hlen : r0.length ≤ 10000000 := by rw [← HR0.out]; exact (freeL_len l0 l1 a2)
  go_wp2_with fail
  refine (specFreeTimes _ l0 _ l1 a2 _ t3_4.out S4.out FF0.out FF1.out (by omega)).mono ?_
  intro e w5 hN
  rw [HR0.out] at hN
  obtain ⟨u5, rfl, o5, hb5⟩ := hN
  have S5 := Lib.hid (OwnWindow.sl o5 (by omega))
  have RG5 := Lib.hid (own_range o5)
  have FR5 := Lib.hid (own_freeV o5)
  obtain ⟨D5, k5, rfl⟩ := own_form o5
  have B5 := Lib.hid (B4.out.trans (hb5.mono B4.out.size))
  have t3_5 := Lib.hid (t3_4.out.below hb5)
  have t4_5 := Lib.hid (S4.out.below hb5)
  have hz5 : (w4).heap.size ≤ w5.heap.size := hb5.size
  clear o5
  clear hb5 
  -- x0 := toBerthS(aBerths)
  go_wp2_with fail
  refine (toBerthS_any _ l0 _ (R0.out.below (BW.out.trans (B5.out.mono hs0)))).mono ?_
  rintro e w6 ⟨u6, rfl, o6, hb6⟩
  have S6 := Lib.hid (OwnBerth.sl o6 (by omega))
  have RG6 := Lib.hid (own_range o6)
  have FR6 := Lib.hid (own_freeV o6)
  obtain ⟨D6, k6, rfl⟩ := own_form o6
  have B6 := Lib.hid (B5.out.trans (hb6.mono B5.out.size))
  have w0_6 := Lib.hid (S5.out.below hb6)
  have w0F_6 := Lib.hid (FR5.out.below hb6)
  have hz6 : (w5).heap.size ≤ w6.heap.size := hb6.size
  clear hb6 o6
  -- x1 := toStayS(aStays)
  go_wp2_with fail
  refine (toStayS_any _ l1 _ (R1.out.below (BW.out.trans (B6.out.mono hs0)))).mono ?_
  rintro e w7 ⟨u7, rfl, o7, hb7⟩
  have S7 := Lib.hid (OwnStay.sl o7 (by omega))
  have RG7 := Lib.hid (own_range o7)
  have FR7 := Lib.hid (own_freeV o7)
  obtain ⟨D7, k7, rfl⟩ := own_form o7
  have B7 := Lib.hid (B6.out.trans (hb7.mono B6.out.size))
  have w0_7 := Lib.hid (w0_6.out.below hb7)
  have w0F_7 := Lib.hid (w0F_6.out.below hb7)
  have x0_7 := Lib.hid (S6.out.below hb7)
  have x0F_7 := Lib.hid (FR6.out.below hb7)
  have hz7 : (w6).heap.size ≤ w7.heap.size := hb7.size
  clear hb7 o7
  -- g0 := impl.FreeTimes(x0, x1, aBerth)
  go_wp2_with fail
  refine (implFreeTimes _ l0 _ l1 a2 _ x0_7.out S7.out FF0.out FF1.out (by omega)).mono ?_
  intro e w8 hN
  rw [HR0.out] at hN
  obtain ⟨u8, rfl, o8, hb8⟩ := hN
  have S8 := Lib.hid (OwnWindow.sl o8 (by omega))
  have RG8 := Lib.hid (own_range o8)
  have FR8 := Lib.hid (own_freeV o8)
  obtain ⟨D8, k8, rfl⟩ := own_form o8
  have B8 := Lib.hid (B7.out.trans (hb8.mono B7.out.size))
  have w0_8 := Lib.hid (w0_7.out.below hb8)
  have w0F_8 := Lib.hid (w0F_7.out.below hb8)
  have x0_8 := Lib.hid (x0_7.out.below hb8)
  have x0F_8 := Lib.hid (x0F_7.out.below hb8)
  have x1_8 := Lib.hid (S7.out.below hb8)
  have x1F_8 := Lib.hid (FR7.out.below hb8)
  have hz8 : (w7).heap.size ≤ w8.heap.size := hb8.size
  clear o8
  clear hb8 
  -- if !eqWindowS(g0, w0) {
  go_wp2_with fail
  refine (eqWindowS_same _ _ r0 _ S8.out w0_8.out).mono ?_
  rintro e w9 ⟨rfl, hb9⟩
  have B9 := Lib.hid (B8.out.trans (hb9.mono B8.out.size))
  have w0_9 := Lib.hid (w0_8.out.below hb9)
  have w0F_9 := Lib.hid (w0F_8.out.below hb9)
  have x0_9 := Lib.hid (x0_8.out.below hb9)
  have x0F_9 := Lib.hid (x0F_8.out.below hb9)
  have x1_9 := Lib.hid (x1_8.out.below hb9)
  have x1F_9 := Lib.hid (x1F_8.out.below hb9)
  have g0_9 := Lib.hid (S8.out.below hb9)
  have g0F_9 := Lib.hid (FR8.out.below hb9)
  have hz9 : (w8).heap.size ≤ w9.heap.size := hb9.size
  clear hb9
  -- if !eqBerthS(x0, toBerthS(aBerths)) {
  go_wp2_with fail
  refine (toBerthS_any _ l0 _ (R0.out.below (BW.out.trans (B9.out.mono hs0)))).mono ?_
  rintro e w10 ⟨u10, rfl, o10, hb10⟩
  have S10 := Lib.hid (OwnBerth.sl o10 (by omega))
  have RG10 := Lib.hid (own_range o10)
  have FR10 := Lib.hid (own_freeV o10)
  obtain ⟨D10, k10, rfl⟩ := own_form o10
  have B10 := Lib.hid (B9.out.trans (hb10.mono B9.out.size))
  have w0_10 := Lib.hid (w0_9.out.below hb10)
  have w0F_10 := Lib.hid (w0F_9.out.below hb10)
  have x0_10 := Lib.hid (x0_9.out.below hb10)
  have x0F_10 := Lib.hid (x0F_9.out.below hb10)
  have x1_10 := Lib.hid (x1_9.out.below hb10)
  have x1F_10 := Lib.hid (x1F_9.out.below hb10)
  have g0_10 := Lib.hid (g0_9.out.below hb10)
  have g0F_10 := Lib.hid (g0F_9.out.below hb10)
  have hz10 : (w9).heap.size ≤ w10.heap.size := hb10.size
  clear hb10 o10
  go_wp2_with fail
  refine (eqBerthS_same _ _ l0 _ x0_10.out S10.out).mono ?_
  rintro e w11 ⟨rfl, hb11⟩
  have B11 := Lib.hid (B10.out.trans (hb11.mono B10.out.size))
  have w0_11 := Lib.hid (w0_10.out.below hb11)
  have w0F_11 := Lib.hid (w0F_10.out.below hb11)
  have x0_11 := Lib.hid (x0_10.out.below hb11)
  have x0F_11 := Lib.hid (x0F_10.out.below hb11)
  have x1_11 := Lib.hid (x1_10.out.below hb11)
  have x1F_11 := Lib.hid (x1F_10.out.below hb11)
  have g0_11 := Lib.hid (g0_10.out.below hb11)
  have g0F_11 := Lib.hid (g0F_10.out.below hb11)
  have hz11 : (w10).heap.size ≤ w11.heap.size := hb11.size
  clear hb11
  -- if !eqStayS(x1, toStayS(aStays)) {
  go_wp2_with fail
  refine (toStayS_any _ l1 _ (R1.out.below (BW.out.trans (B11.out.mono hs0)))).mono ?_
  rintro e w12 ⟨u12, rfl, o12, hb12⟩
  have S12 := Lib.hid (OwnStay.sl o12 (by omega))
  have RG12 := Lib.hid (own_range o12)
  have FR12 := Lib.hid (own_freeV o12)
  obtain ⟨D12, k12, rfl⟩ := own_form o12
  have B12 := Lib.hid (B11.out.trans (hb12.mono B11.out.size))
  have w0_12 := Lib.hid (w0_11.out.below hb12)
  have w0F_12 := Lib.hid (w0F_11.out.below hb12)
  have x0_12 := Lib.hid (x0_11.out.below hb12)
  have x0F_12 := Lib.hid (x0F_11.out.below hb12)
  have x1_12 := Lib.hid (x1_11.out.below hb12)
  have x1F_12 := Lib.hid (x1F_11.out.below hb12)
  have g0_12 := Lib.hid (g0_11.out.below hb12)
  have g0F_12 := Lib.hid (g0F_11.out.below hb12)
  have hz12 : (w11).heap.size ≤ w12.heap.size := hb12.size
  clear hb12 o12
  go_wp2_with fail
  refine (eqStayS_same _ _ l1 _ x1_12.out S12.out).mono ?_
  rintro e w13 ⟨rfl, hb13⟩
  have B13 := Lib.hid (B12.out.trans (hb13.mono B12.out.size))
  have w0_13 := Lib.hid (w0_12.out.below hb13)
  have w0F_13 := Lib.hid (w0F_12.out.below hb13)
  have x0_13 := Lib.hid (x0_12.out.below hb13)
  have x0F_13 := Lib.hid (x0F_12.out.below hb13)
  have x1_13 := Lib.hid (x1_12.out.below hb13)
  have x1F_13 := Lib.hid (x1F_12.out.below hb13)
  have g0_13 := Lib.hid (g0_12.out.below hb13)
  have g0F_13 := Lib.hid (g0F_12.out.below hb13)
  have hz13 : (w12).heap.size ≤ w13.heap.size := hb13.size
  clear hb13
  -- k := 1
  -- k = markBerthS(x0, k)
  go_wp2_with fail
  refine (markBerthS_any _ l0 (1) _ x0_13.out (fun g hg => (x0F_13.out g hg).1) (by omega) (by omega) (by omega)).mono ?_
  rintro e w14 ⟨rfl, mm14, hg14⟩
  have ht14 := touch_grown hg14 RG6.out
  have B14 := Lib.hid (TouchR.below B13.out ht14 B13.out.size (by omega))
  have w0_14 := Lib.hid (SlOf.touch w0_13.out ht14 RG5.out (by omega))
  have w0F_14 := Lib.hid (FreeV.touch w0F_13.out ht14 RG5.out (by omega))
  have x1_14 := Lib.hid (SlOf.touch x1_13.out ht14 RG7.out (by omega))
  have x1F_14 := Lib.hid (FreeV.touch x1F_13.out ht14 RG7.out (by omega))
  have g0_14 := Lib.hid (SlOf.touch g0_13.out ht14 RG8.out (by omega))
  have g0F_14 := Lib.hid (FreeV.touch g0F_13.out ht14 RG8.out (by omega))
  have hz14 : (w13).heap.size ≤ w14.heap.size := ht14.size
  have MK_x0 := Lib.hid mm14
  clear ht14 hg14 mm14
  -- k = markStayS(x1, k)
  go_wp2_with fail
  refine (markStayS_any _ l1 (1 + (l0.length : Int) * 3) _ x1_14.out (fun g hg => (x1F_14.out g hg).1) (by omega) (by omega) (by omega)).mono ?_
  rintro e w15 ⟨rfl, mm15, hg15⟩
  have ht15 := touch_grown hg15 RG7.out
  have B15 := Lib.hid (TouchR.below B14.out ht15 B14.out.size (by omega))
  have w0_15 := Lib.hid (SlOf.touch w0_14.out ht15 RG5.out (by omega))
  have w0F_15 := Lib.hid (FreeV.touch w0F_14.out ht15 RG5.out (by omega))
  have g0_15 := Lib.hid (SlOf.touch g0_14.out ht15 RG8.out (by omega))
  have g0F_15 := Lib.hid (FreeV.touch g0F_14.out ht15 RG8.out (by omega))
  have mkx0_15 := Lib.hid (MarkedV.touch MK_x0.out ht15 RG6.out (by omega))
  have hz15 : (w14).heap.size ≤ w15.heap.size := ht15.size
  have MK_x1 := Lib.hid mm15
  clear ht15 hg15 mm15
  -- if k < 0 || !eqWindowS(g0, w0) {
  go_wp2_with fail
  refine (eqWindowS_same _ _ r0 _ g0_15.out w0_15.out).mono ?_
  rintro e w16 ⟨rfl, hb16⟩
  have B16 := Lib.hid (B15.out.trans (hb16.mono B15.out.size))
  have w0_16 := Lib.hid (w0_15.out.below hb16)
  have w0F_16 := Lib.hid (w0F_15.out.below hb16)
  have g0_16 := Lib.hid (g0_15.out.below hb16)
  have g0F_16 := Lib.hid (g0F_15.out.below hb16)
  have mkx0_16 := Lib.hid (mkx0_15.out.below hb16)
  have mkx1_16 := Lib.hid (MK_x1.out.below hb16)
  have hz16 : (w15).heap.size ≤ w16.heap.size := hb16.size
  clear hb16
  -- m := 1
  -- m = markWindowS(g0, m)
  go_wp2_with fail
  refine (markWindowSC_any _ r0 (1) _ g0_16.out (fun g hg => (g0F_16.out g hg).1) (by omega) (by omega) (by omega)).mono ?_
  rintro e w17 ⟨rfl, mm17, hg17⟩
  have ht17 := touch_grown hg17 RG8.out
  have B17 := Lib.hid (TouchR.below B16.out ht17 B16.out.size (by omega))
  have w0_17 := Lib.hid (SlOf.touch w0_16.out ht17 RG5.out (by omega))
  have w0F_17 := Lib.hid (FreeV.touch w0F_16.out ht17 RG5.out (by omega))
  have mkx0_17 := Lib.hid (MarkedV.touch mkx0_16.out ht17 RG6.out (by omega))
  have mkx1_17 := Lib.hid (MarkedV.touch mkx1_16.out ht17 RG7.out (by omega))
  have hz17 : (w16).heap.size ≤ w17.heap.size := ht17.size
  have MK_g0 := Lib.hid mm17
  clear ht17 hg17 mm17
  -- q := 1
  -- q = heldWindowS(g0, q)
  go_wp2_with fail
  refine (heldWindowSC_any _ r0.length D8 k8 rfl (1) _ MK_g0.out (by omega) (by omega) (by omega)).mono ?_
  rintro e w18 ⟨rfl, hb18⟩
  have B18 := Lib.hid (B17.out.trans (hb18.mono B17.out.size))
  have w0_18 := Lib.hid (w0_17.out.below hb18)
  have w0F_18 := Lib.hid (w0F_17.out.below hb18)
  have mkx0_18 := Lib.hid (mkx0_17.out.below hb18)
  have mkx1_18 := Lib.hid (mkx1_17.out.below hb18)
  have mkg0_18 := Lib.hid (MK_g0.out.below hb18)
  have hz18 : (w17).heap.size ≤ w18.heap.size := hb18.size
  clear hb18
  -- if q < 0 {
  -- if q != m {
  -- h0 := impl.FreeTimes(toBerthS(aBerths), toStayS(aStays), aBerth)
  go_wp2_with fail
  refine (toBerthS_any _ l0 _ (R0.out.below (BW.out.trans (B18.out.mono hs0)))).mono ?_
  rintro e w19 ⟨u19, rfl, o19, hb19⟩
  have S19 := Lib.hid (OwnBerth.sl o19 (by omega))
  have RG19 := Lib.hid (own_range o19)
  have FR19 := Lib.hid (own_freeV o19)
  obtain ⟨D19, k19, rfl⟩ := own_form o19
  have B19 := Lib.hid (B18.out.trans (hb19.mono B18.out.size))
  have w0_19 := Lib.hid (w0_18.out.below hb19)
  have w0F_19 := Lib.hid (w0F_18.out.below hb19)
  have mkx0_19 := Lib.hid (mkx0_18.out.below hb19)
  have mkx1_19 := Lib.hid (mkx1_18.out.below hb19)
  have mkg0_19 := Lib.hid (mkg0_18.out.below hb19)
  have hz19 : (w18).heap.size ≤ w19.heap.size := hb19.size
  clear hb19 o19
  go_wp2_with fail
  refine (toStayS_any _ l1 _ (R1.out.below (BW.out.trans (B19.out.mono hs0)))).mono ?_
  rintro e w20 ⟨u20, rfl, o20, hb20⟩
  have S20 := Lib.hid (OwnStay.sl o20 (by omega))
  have RG20 := Lib.hid (own_range o20)
  have FR20 := Lib.hid (own_freeV o20)
  obtain ⟨D20, k20, rfl⟩ := own_form o20
  have B20 := Lib.hid (B19.out.trans (hb20.mono B19.out.size))
  have w0_20 := Lib.hid (w0_19.out.below hb20)
  have w0F_20 := Lib.hid (w0F_19.out.below hb20)
  have mkx0_20 := Lib.hid (mkx0_19.out.below hb20)
  have mkx1_20 := Lib.hid (mkx1_19.out.below hb20)
  have mkg0_20 := Lib.hid (mkg0_19.out.below hb20)
  have t19_20 := Lib.hid (S19.out.below hb20)
  have hz20 : (w19).heap.size ≤ w20.heap.size := hb20.size
  clear hb20 o20
  go_wp2_with fail
  refine (implFreeTimes _ l0 _ l1 a2 _ t19_20.out S20.out FF0.out FF1.out (by omega)).mono ?_
  intro e w21 hN
  rw [HR0.out] at hN
  obtain ⟨u21, rfl, o21, hb21⟩ := hN
  have S21 := Lib.hid (OwnWindow.sl o21 (by omega))
  have RG21 := Lib.hid (own_range o21)
  have FR21 := Lib.hid (own_freeV o21)
  obtain ⟨D21, k21, rfl⟩ := own_form o21
  have B21 := Lib.hid (B20.out.trans (hb21.mono B20.out.size))
  have w0_21 := Lib.hid (w0_20.out.below hb21)
  have w0F_21 := Lib.hid (w0F_20.out.below hb21)
  have mkx0_21 := Lib.hid (mkx0_20.out.below hb21)
  have mkx1_21 := Lib.hid (mkx1_20.out.below hb21)
  have mkg0_21 := Lib.hid (mkg0_20.out.below hb21)
  have t19_21 := Lib.hid (t19_20.out.below hb21)
  have t20_21 := Lib.hid (S20.out.below hb21)
  have hz21 : (w20).heap.size ≤ w21.heap.size := hb21.size
  clear o21
  clear hb21 
  -- if !eqWindowS(h0, w0) {
  go_wp2_with fail
  refine (eqWindowS_same _ _ r0 _ S21.out w0_21.out).mono ?_
  rintro e w22 ⟨rfl, hb22⟩
  have B22 := Lib.hid (B21.out.trans (hb22.mono B21.out.size))
  have w0_22 := Lib.hid (w0_21.out.below hb22)
  have w0F_22 := Lib.hid (w0F_21.out.below hb22)
  have mkx0_22 := Lib.hid (mkx0_21.out.below hb22)
  have mkx1_22 := Lib.hid (mkx1_21.out.below hb22)
  have mkg0_22 := Lib.hid (mkg0_21.out.below hb22)
  have h0_22 := Lib.hid (S21.out.below hb22)
  have h0F_22 := Lib.hid (FR21.out.below hb22)
  have hz22 : (w21).heap.size ≤ w22.heap.size := hb22.size
  clear hb22
  -- q = 1
  -- q = heldWindowS(g0, q)
  go_wp2_with fail
  refine (heldWindowSC_any _ r0.length D8 k8 rfl (1) _ mkg0_22.out (by omega) (by omega) (by omega)).mono ?_
  rintro e w23 ⟨rfl, hb23⟩
  have B23 := Lib.hid (B22.out.trans (hb23.mono B22.out.size))
  have w0_23 := Lib.hid (w0_22.out.below hb23)
  have w0F_23 := Lib.hid (w0F_22.out.below hb23)
  have mkx0_23 := Lib.hid (mkx0_22.out.below hb23)
  have mkx1_23 := Lib.hid (mkx1_22.out.below hb23)
  have mkg0_23 := Lib.hid (mkg0_22.out.below hb23)
  have h0_23 := Lib.hid (h0_22.out.below hb23)
  have h0F_23 := Lib.hid (h0F_22.out.below hb23)
  have hz23 : (w22).heap.size ≤ w23.heap.size := hb23.size
  clear hb23
  -- if q < 0 {
  -- if q != m {
  -- return true
  go_wp2
  go_ret
  exact ⟨rfl, BW.out.trans (B23.out.mono hs0)⟩
set_option maxRecDepth 100000 in
theorem lifted (os : Os) (started : os.Started) (H : Type) (enc : TypeId × Value → H) :
    ReturnsInHanded {} Try.checked os 7 .any (Rows.fnExactFreeTimesSpec.pre6 enc Try.prog Try.f7 Rows.fnExactFreeTimesRow.domain false) (Rows.fnExactFreeTimesSpec.post enc Try.prog Try.f7 false true false false) := by
  refine returnsInHanded_of_change (C := Try.checked) own started (by kernel_rfl) Try.func7
    (ChangeSpec.witness6 (enc := enc) (C := Try.checked) false ⟨#[], #[.slice none 0 0, .slice none 0 0, .int .i64 0], []⟩ 8 (by kernel_rfl) (by kernel_rfl) (by kernel_rfl) (by kernel_rfl)) ?_
  intro W base args ds gs before hval0 hW _ _
  have hval : ∀ (j : Nat) t v, Try.f7.params[j]? = some t → args[j]? = some v → Value.okWide Try.prog W .any base t v := hval0
  have hW' := hW
  obtain ⟨p, q, hA0, hV, rfl, _, _⟩ := hW
  have hA : DataW.TrodAll enc Try.prog W 0 (fun _ => true) true Try.f7.params.toList args.toList ds p := hA0
  rw [Try.params7] at hA hval
  obtain ⟨v0, vs0, d0, ds0, p0, q0, hargs, rfl, rfl, h0, r0⟩ := trodAll_cons hA
  obtain ⟨v1, vs1, d1, ds1, p1, q1, rfl, rfl, rfl, h1, r1⟩ := trodAll_cons r0
  obtain ⟨v2, vs2, d2, ds2, p2, q2, rfl, rfl, rfl, h2, r2⟩ := trodAll_cons r1
  obtain ⟨rfl, rfl, rfl⟩ := trodAll_nil r2
  obtain rfl : args = #[v0, v1, v2] := by cases args; simp_all
  obtain ⟨A0, c0, l0, rfl, g0⟩ := open_berths_arg (hval 0 45 v0 rfl rfl) h0
  obtain ⟨A1, c1, l1, rfl, g1⟩ := open_stays_arg (hval 1 58 v1 rfl rfl) h1
  obtain ⟨a2, rfl, rfl, rfl, g2⟩ := open_int Try.underlying3 (hval 2 3 v2 rfl rfl) h2
  refine (law A0 c0 l0 A1 c1 l1 a2 W g0 g1 g2).mono fun e W' ⟨he, hb⟩ => ⟨_, he, ?_⟩
  exact law_post laidOut (by kernel_rfl) rfl (by kernel_rfl) Try.underlying4 rfl rfl rfl hW' hb
theorem holds : Rows.FnExactFreeTimesSaid :=
  OpenClaim.holds_of_wide 7 Try.f7 rfl rfl rfl rfl rfl rfl rfl ⟨rfl, rfl, rfl, rfl, rfl⟩ rfl rfl rfl rfl rfl (by kernel_rfl) Try.func7 (by kernel_rfl)
    (of_decide_eq_true (by kernel_rfl)) (by unfold Func.isWrapper; first | (rw [if_pos (by decide +kernel)]; kernel_rfl) | (rw [if_neg (by decide +kernel)]; exact ⟨rfl, rfl⟩))
    (fun os started H enc _ => lifted os started H enc)
end Go.Proofs.Ytghjfcnboocmjaa.exactFreeTimes
