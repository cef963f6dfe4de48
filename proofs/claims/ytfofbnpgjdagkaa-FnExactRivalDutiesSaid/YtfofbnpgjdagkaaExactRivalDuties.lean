
/- The exact law of RivalDuties holds for all arguments: impl.RivalDuties answers as its model, its answer owns its memory, and the arguments read as before. No condition. -/
import Derived.Test.YtfofbnpgjdagkaaRows
import Derived.Test.YtfofbnpgjdagkaaCv0
import Derived.Test.YtfofbnpgjdagkaaCv15
import Derived.Test.YtfofbnpgjdagkaaCv17
import Derived.Test.YtfofbnpgjdagkaaCv4
import Derived.Test.YtfofbnpgjdagkaaCv7
import Derived.Test.YtfofbnpgjdagkaaCv5
import Derived.Deep.RegionHeld3
import Derived.Deep.DeepCutAuto
namespace Go.Proofs.Ytfofbnpgjdagkaa.exactRivalDuties
open Go.ChangeShapes Go.WideShapes Go.ChangeAt Go.RowKit
set_option maxRecDepth 100000
theorem own : ownKnob Try.prog.godebug = none := by kernel_rfl
theorem laidOut : laidOutB Try.prog = true := by kernel_rfl
set_option maxHeartbeats 16000000 in
theorem law (a0 : Int) (A1 : Option Addr) (c1 : Nat) (l1 : List IntD) (A2 : Option Addr) (c2 : Nat) (l2 : List DutyD) (w : World) (_ : (Lit.int .i64 a0).wf = true) (hin1 : l1.length ≤ maxLen ∧ (l1.length ≤ 1000000000 → SlInt w (.slice A1 l1.length c1) l1) ∧ ∀ x ∈ l1, IntD.wf x) (hin2 : l2.length ≤ maxLen ∧ (l2.length ≤ 1000000000 → SlDuty w (.slice A2 l2.length c2) l2) ∧ ∀ x ∈ l2, DutyD.wf x) :
    Calls Try.prog 10 #[.int .i64 a0, .slice A1 l1.length c1, .slice A2 l2.length c2] w fun e w' => e = .returned (.bool true) ∧ Below w.heap.size w w' := by
  obtain ⟨m1, s1, f1⟩ := hin1
  unfold maxLen at m1
  have SS1 := Lib.hid s1
  have FF1 := Lib.hid f1
  clear s1 f1
  obtain ⟨m2, s2, f2⟩ := hin2
  unfold maxLen at m2
  have SS2 := Lib.hid s2
  have FF2 := Lib.hid f2
  clear s2 f2
  have HB0 : Below w.heap.size w w := Below.refl _ _
  have BW := Lib.hid HB0
  clear HB0
  go_enter Try.func10, Try.ntmps10
  have B0 := Lib.hid (Below.refl (w).heap.size w)
  have hs0 : w.heap.size ≤ (w).heap.size := BW.out.size
  obtain ⟨r0, hr0⟩ : ∃ r0, (rivalD a0 l1 l2) = r0 := ⟨_, rfl⟩
  have HR0 := Lib.hid hr0
  clear hr0
  -- if len(aMoves) > 1<<20 {
  by_cases big1 : 1048576 < l1.length
  · go_wp2
    go_ret
    exact ⟨rfl, BW.out.trans (B0.out.mono hs0)⟩
  have R1 := Lib.hid (SS1.out (by omega))
  clear SS1
  -- left := 1 << 20
  -- left = szDutyS(aList, left)
  have hl1 : 0 ≤ (1048576 : Int) := by omega
  have hll1 : (1048576 : Int) ≤ 1048576 := by omega
  go_wp2_with fail
  refine (szDutyS_any A2 l2 c2 _ (by omega) (fun h => (SS2.out h).below (BW.out.trans (B0.out.mono hs0))) (1048576) hl1 hll1).mono ?_
  rintro e w1 ⟨rfl, hb1⟩
  have B1 := Lib.hid (B0.out.trans (hb1.mono B0.out.size))
  have hz1 : (w).heap.size ≤ w1.heap.size := hb1.size
  clear hb1 
  have ps1 := bulkDuty_pos l2
  by_cases neg1 : (1048576 : Int) < ((l2.length : Int) + bulkDuty l2)
  · rw [leftOf_no neg1]
    go_wp2
    go_ret
    exact ⟨rfl, BW.out.trans (B1.out.mono hs0)⟩
  rw [leftOf_yes neg1]
  have ne1 : ¬ (1048576 - ((l2.length : Int) + bulkDuty l2) : Int) < 0 := by omega
  have R2 := Lib.hid (SS2.out (by omega))
  clear SS2
  -- w0 := spec.RivalDuties(aPause, toIntS(aMoves), toDutyS(aList))
  go_wp2_with fail
  refine (toIntS_any _ l1 _ (R1.out.below (BW.out.trans (B1.out.mono hs0)))).mono ?_
  rintro e w2 ⟨u2, rfl, o2, hb2⟩
  have S2 := Lib.hid (OwnInt.sl o2 (by omega))
  have RG2 := Lib.hid (own_range o2)
  have FR2 := Lib.hid (own_freeV o2)
  obtain ⟨D2, k2, rfl⟩ := own_form o2
  have B2 := Lib.hid (B1.out.trans (hb2.mono B1.out.size))
  have hz2 : (w1).heap.size ≤ w2.heap.size := hb2.size
  clear hb2 o2
  go_wp2_with fail
  refine (toDutyS_any _ l2 _ (R2.out.below (BW.out.trans (B2.out.mono hs0)))).mono ?_
  rintro e w3 ⟨u3, rfl, o3, hb3⟩
  have S3 := Lib.hid (OwnDuty.sl o3 (by omega))
  have RG3 := Lib.hid (own_range o3)
  have FR3 := Lib.hid (own_freeV o3)
  obtain ⟨D3, k3, rfl⟩ := own_form o3
  have B3 := Lib.hid (B2.out.trans (hb3.mono B2.out.size))
  have t2_3 := Lib.hid (S2.out.below hb3)
  have hz3 : (w2).heap.size ≤ w3.heap.size := hb3.size
  clear hb3 o3
  have hlen : r0.length ≤ 10000000 := by rw [← HR0.out]; exact (by have := rivalD_len a0 l1 l2; omega)
  go_wp2_with fail
  refine (specRivalDuties a0 _ l1 _ l2 _ t2_3.out S3.out ).mono ?_
  intro e w4 hN
  rw [HR0.out] at hN
  obtain ⟨u4, rfl, o4, hb4⟩ := hN
  have S4 := Lib.hid (OwnInt.sl o4 (by omega))
  have RG4 := Lib.hid (own_range o4)
  have FR4 := Lib.hid (own_freeV o4)
  obtain ⟨D4, k4, rfl⟩ := own_form o4
  have B4 := Lib.hid (B3.out.trans (hb4.mono B3.out.size))
  have t2_4 := Lib.hid (t2_3.out.below hb4)
  have t3_4 := Lib.hid (S3.out.below hb4)
  have hz4 : (w3).heap.size ≤ w4.heap.size := hb4.size
  clear o4
  clear hb4 
  -- x1 := toIntS(aMoves)
  go_wp2_with fail
  refine (toIntS_any _ l1 _ (R1.out.below (BW.out.trans (B4.out.mono hs0)))).mono ?_
  rintro e w5 ⟨u5, rfl, o5, hb5⟩
  have S5 := Lib.hid (OwnInt.sl o5 (by omega))
  have RG5 := Lib.hid (own_range o5)
  have FR5 := Lib.hid (own_freeV o5)
  obtain ⟨D5, k5, rfl⟩ := own_form o5
  have B5 := Lib.hid (B4.out.trans (hb5.mono B4.out.size))
  have w0_5 := Lib.hid (S4.out.below hb5)
  have w0F_5 := Lib.hid (FR4.out.below hb5)
  have hz5 : (w4).heap.size ≤ w5.heap.size := hb5.size
  clear hb5 o5
  -- x2 := toDutyS(aList)
  go_wp2_with fail
  refine (toDutyS_any _ l2 _ (R2.out.below (BW.out.trans (B5.out.mono hs0)))).mono ?_
  rintro e w6 ⟨u6, rfl, o6, hb6⟩
  have S6 := Lib.hid (OwnDuty.sl o6 (by omega))
  have RG6 := Lib.hid (own_range o6)
  have FR6 := Lib.hid (own_freeV o6)
  obtain ⟨D6, k6, rfl⟩ := own_form o6
  have B6 := Lib.hid (B5.out.trans (hb6.mono B5.out.size))
  have w0_6 := Lib.hid (w0_5.out.below hb6)
  have w0F_6 := Lib.hid (w0F_5.out.below hb6)
  have x1_6 := Lib.hid (S5.out.below hb6)
  have x1F_6 := Lib.hid (FR5.out.below hb6)
  have hz6 : (w5).heap.size ≤ w6.heap.size := hb6.size
  clear hb6 o6
  -- g0 := impl.RivalDuties(aPause, x1, x2)
  go_wp2_with fail
  refine (implRivalDuties a0 _ l1 _ l2 _ x1_6.out S6.out ).mono ?_
  intro e w7 hN
  rw [HR0.out] at hN
  obtain ⟨u7, rfl, o7, hb7⟩ := hN
  have S7 := Lib.hid (OwnInt.sl o7 (by omega))
  have RG7 := Lib.hid (own_range o7)
  have FR7 := Lib.hid (own_freeV o7)
  obtain ⟨D7, k7, rfl⟩ := own_form o7
  have B7 := Lib.hid (B6.out.trans (hb7.mono B6.out.size))
  have w0_7 := Lib.hid (w0_6.out.below hb7)
  have w0F_7 := Lib.hid (w0F_6.out.below hb7)
  have x1_7 := Lib.hid (x1_6.out.below hb7)
  have x1F_7 := Lib.hid (x1F_6.out.below hb7)
  have x2_7 := Lib.hid (S6.out.below hb7)
  have x2F_7 := Lib.hid (FR6.out.below hb7)
  have hz7 : (w6).heap.size ≤ w7.heap.size := hb7.size
  clear o7
  clear hb7 
  -- if !eqIntS(g0, w0) {
  go_wp2_with fail
  refine (eqIntS_same _ _ r0 _ S7.out w0_7.out).mono ?_
  rintro e w8 ⟨rfl, hb8⟩
  have B8 := Lib.hid (B7.out.trans (hb8.mono B7.out.size))
  have w0_8 := Lib.hid (w0_7.out.below hb8)
  have w0F_8 := Lib.hid (w0F_7.out.below hb8)
  have x1_8 := Lib.hid (x1_7.out.below hb8)
  have x1F_8 := Lib.hid (x1F_7.out.below hb8)
  have x2_8 := Lib.hid (x2_7.out.below hb8)
  have x2F_8 := Lib.hid (x2F_7.out.below hb8)
  have g0_8 := Lib.hid (S7.out.below hb8)
  have g0F_8 := Lib.hid (FR7.out.below hb8)
  have hz8 : (w7).heap.size ≤ w8.heap.size := hb8.size
  clear hb8
  -- if !eqIntS(x1, toIntS(aMoves)) {
  go_wp2_with fail
  refine (toIntS_any _ l1 _ (R1.out.below (BW.out.trans (B8.out.mono hs0)))).mono ?_
  rintro e w9 ⟨u9, rfl, o9, hb9⟩
  have S9 := Lib.hid (OwnInt.sl o9 (by omega))
  have RG9 := Lib.hid (own_range o9)
  have FR9 := Lib.hid (own_freeV o9)
  obtain ⟨D9, k9, rfl⟩ := own_form o9
  have B9 := Lib.hid (B8.out.trans (hb9.mono B8.out.size))
  have w0_9 := Lib.hid (w0_8.out.below hb9)
  have w0F_9 := Lib.hid (w0F_8.out.below hb9)
  have x1_9 := Lib.hid (x1_8.out.below hb9)
  have x1F_9 := Lib.hid (x1F_8.out.below hb9)
  have x2_9 := Lib.hid (x2_8.out.below hb9)
  have x2F_9 := Lib.hid (x2F_8.out.below hb9)
  have g0_9 := Lib.hid (g0_8.out.below hb9)
  have g0F_9 := Lib.hid (g0F_8.out.below hb9)
  have hz9 : (w8).heap.size ≤ w9.heap.size := hb9.size
  clear hb9 o9
  go_wp2_with fail
  refine (eqIntS_same _ _ l1 _ x1_9.out S9.out).mono ?_
  rintro e w10 ⟨rfl, hb10⟩
  have B10 := Lib.hid (B9.out.trans (hb10.mono B9.out.size))
  have w0_10 := Lib.hid (w0_9.out.below hb10)
  have w0F_10 := Lib.hid (w0F_9.out.below hb10)
  have x1_10 := Lib.hid (x1_9.out.below hb10)
  have x1F_10 := Lib.hid (x1F_9.out.below hb10)
  have x2_10 := Lib.hid (x2_9.out.below hb10)
  have x2F_10 := Lib.hid (x2F_9.out.below hb10)
  have g0_10 := Lib.hid (g0_9.out.below hb10)
  have g0F_10 := Lib.hid (g0F_9.out.below hb10)
  have hz10 : (w9).heap.size ≤ w10.heap.size := hb10.size
  clear hb10
  -- if !eqDutyS(x2, toDutyS(aList)) {
  go_wp2_with fail
  refine (toDutyS_any _ l2 _ (R2.out.below (BW.out.trans (B10.out.mono hs0)))).mono ?_
  rintro e w11 ⟨u11, rfl, o11, hb11⟩
  have S11 := Lib.hid (OwnDuty.sl o11 (by omega))
  have RG11 := Lib.hid (own_range o11)
  have FR11 := Lib.hid (own_freeV o11)
  obtain ⟨D11, k11, rfl⟩ := own_form o11
  have B11 := Lib.hid (B10.out.trans (hb11.mono B10.out.size))
  have w0_11 := Lib.hid (w0_10.out.below hb11)
  have w0F_11 := Lib.hid (w0F_10.out.below hb11)
  have x1_11 := Lib.hid (x1_10.out.below hb11)
  have x1F_11 := Lib.hid (x1F_10.out.below hb11)
  have x2_11 := Lib.hid (x2_10.out.below hb11)
  have x2F_11 := Lib.hid (x2F_10.out.below hb11)
  have g0_11 := Lib.hid (g0_10.out.below hb11)
  have g0F_11 := Lib.hid (g0F_10.out.below hb11)
  have hz11 : (w10).heap.size ≤ w11.heap.size := hb11.size
  clear hb11 o11
  go_wp2_with fail
  refine (eqDutyS_same _ _ l2 _ x2_11.out S11.out).mono ?_
  rintro e w12 ⟨rfl, hb12⟩
  have B12 := Lib.hid (B11.out.trans (hb12.mono B11.out.size))
  have w0_12 := Lib.hid (w0_11.out.below hb12)
  have w0F_12 := Lib.hid (w0F_11.out.below hb12)
  have x1_12 := Lib.hid (x1_11.out.below hb12)
  have x1F_12 := Lib.hid (x1F_11.out.below hb12)
  have x2_12 := Lib.hid (x2_11.out.below hb12)
  have x2F_12 := Lib.hid (x2F_11.out.below hb12)
  have g0_12 := Lib.hid (g0_11.out.below hb12)
  have g0F_12 := Lib.hid (g0F_11.out.below hb12)
  have hz12 : (w11).heap.size ≤ w12.heap.size := hb12.size
  clear hb12
  -- k := 1
  -- k = markIntS(x1, k)
  go_wp2_with fail
  refine (markIntS_any _ l1 (1) _ x1_12.out (fun g hg => (x1F_12.out g hg).1) (by omega) (by omega) (by omega)).mono ?_
  rintro e w13 ⟨rfl, mm13, hg13⟩
  have ht13 := touch_grown hg13 RG5.out
  have B13 := Lib.hid (TouchR.below B12.out ht13 B12.out.size (by omega))
  have w0_13 := Lib.hid (SlOf.touch w0_12.out ht13 RG4.out (by omega))
  have w0F_13 := Lib.hid (FreeV.touch w0F_12.out ht13 RG4.out (by omega))
  have x2_13 := Lib.hid (SlOf.touch x2_12.out ht13 RG6.out (by omega))
  have x2F_13 := Lib.hid (FreeV.touch x2F_12.out ht13 RG6.out (by omega))
  have g0_13 := Lib.hid (SlOf.touch g0_12.out ht13 RG7.out (by omega))
  have g0F_13 := Lib.hid (FreeV.touch g0F_12.out ht13 RG7.out (by omega))
  have hz13 : (w12).heap.size ≤ w13.heap.size := ht13.size
  have MK_x1 := Lib.hid mm13
  clear ht13 hg13 mm13
  -- k = markDutyS(x2, k)
  go_wp2_with fail
  refine (markDutyS_any _ l2 (1 + (l1.length : Int)) _ x2_13.out (fun g hg => (x2F_13.out g hg).1) (by omega) (by omega) (by omega)).mono ?_
  rintro e w14 ⟨rfl, mm14, hg14⟩
  have ht14 := touch_grown hg14 RG6.out
  have B14 := Lib.hid (TouchR.below B13.out ht14 B13.out.size (by omega))
  have w0_14 := Lib.hid (SlOf.touch w0_13.out ht14 RG4.out (by omega))
  have w0F_14 := Lib.hid (FreeV.touch w0F_13.out ht14 RG4.out (by omega))
  have g0_14 := Lib.hid (SlOf.touch g0_13.out ht14 RG7.out (by omega))
  have g0F_14 := Lib.hid (FreeV.touch g0F_13.out ht14 RG7.out (by omega))
  have mkx1_14 := Lib.hid (MarkedV.touch MK_x1.out ht14 RG5.out (by omega))
  have hz14 : (w13).heap.size ≤ w14.heap.size := ht14.size
  have MK_x2 := Lib.hid mm14
  clear ht14 hg14 mm14
  -- if k < 0 || !eqIntS(g0, w0) {
  go_wp2_with fail
  refine (eqIntS_same _ _ r0 _ g0_14.out w0_14.out).mono ?_
  rintro e w15 ⟨rfl, hb15⟩
  have B15 := Lib.hid (B14.out.trans (hb15.mono B14.out.size))
  have w0_15 := Lib.hid (w0_14.out.below hb15)
  have w0F_15 := Lib.hid (w0F_14.out.below hb15)
  have g0_15 := Lib.hid (g0_14.out.below hb15)
  have g0F_15 := Lib.hid (g0F_14.out.below hb15)
  have mkx1_15 := Lib.hid (mkx1_14.out.below hb15)
  have mkx2_15 := Lib.hid (MK_x2.out.below hb15)
  have hz15 : (w14).heap.size ≤ w15.heap.size := hb15.size
  clear hb15
  -- m := 1
  -- m = markIntS(g0, m)
  go_wp2_with fail
  refine (markIntS_any _ r0 (1) _ g0_15.out (fun g hg => (g0F_15.out g hg).1) (by omega) (by omega) (by omega)).mono ?_
  rintro e w16 ⟨rfl, mm16, hg16⟩
  have ht16 := touch_grown hg16 RG7.out
  have B16 := Lib.hid (TouchR.below B15.out ht16 B15.out.size (by omega))
  have w0_16 := Lib.hid (SlOf.touch w0_15.out ht16 RG4.out (by omega))
  have w0F_16 := Lib.hid (FreeV.touch w0F_15.out ht16 RG4.out (by omega))
  have mkx1_16 := Lib.hid (MarkedV.touch mkx1_15.out ht16 RG5.out (by omega))
  have mkx2_16 := Lib.hid (MarkedV.touch mkx2_15.out ht16 RG6.out (by omega))
  have hz16 : (w15).heap.size ≤ w16.heap.size := ht16.size
  have MK_g0 := Lib.hid mm16
  clear ht16 hg16 mm16
  -- q := 1
  -- q = heldIntS(g0, q)
  go_wp2_with fail
  refine (heldIntS_any _ r0.length D7 k7 rfl (1) _ MK_g0.out (by omega) (by omega) (by omega)).mono ?_
  rintro e w17 ⟨rfl, hb17⟩
  have B17 := Lib.hid (B16.out.trans (hb17.mono B16.out.size))
  have w0_17 := Lib.hid (w0_16.out.below hb17)
  have w0F_17 := Lib.hid (w0F_16.out.below hb17)
  have mkx1_17 := Lib.hid (mkx1_16.out.below hb17)
  have mkx2_17 := Lib.hid (mkx2_16.out.below hb17)
  have mkg0_17 := Lib.hid (MK_g0.out.below hb17)
  have hz17 : (w16).heap.size ≤ w17.heap.size := hb17.size
  clear hb17
  -- if q < 0 {
  -- if q != m {
  -- h0 := impl.RivalDuties(aPause, toIntS(aMoves), toDutyS(aList))
  go_wp2_with fail
  refine (toIntS_any _ l1 _ (R1.out.below (BW.out.trans (B17.out.mono hs0)))).mono ?_
  rintro e w18 ⟨u18, rfl, o18, hb18⟩
  have S18 := Lib.hid (OwnInt.sl o18 (by omega))
  have RG18 := Lib.hid (own_range o18)
  have FR18 := Lib.hid (own_freeV o18)
  obtain ⟨D18, k18, rfl⟩ := own_form o18
  have B18 := Lib.hid (B17.out.trans (hb18.mono B17.out.size))
  have w0_18 := Lib.hid (w0_17.out.below hb18)
  have w0F_18 := Lib.hid (w0F_17.out.below hb18)
  have mkx1_18 := Lib.hid (mkx1_17.out.below hb18)
  have mkx2_18 := Lib.hid (mkx2_17.out.below hb18)
  have mkg0_18 := Lib.hid (mkg0_17.out.below hb18)
  have hz18 : (w17).heap.size ≤ w18.heap.size := hb18.size
  clear hb18 o18
  go_wp2_with fail
  refine (toDutyS_any _ l2 _ (R2.out.below (BW.out.trans (B18.out.mono hs0)))).mono ?_
  rintro e w19 ⟨u19, rfl, o19, hb19⟩
  have S19 := Lib.hid (OwnDuty.sl o19 (by omega))
  have RG19 := Lib.hid (own_range o19)
  have FR19 := Lib.hid (own_freeV o19)
  obtain ⟨D19, k19, rfl⟩ := own_form o19
  have B19 := Lib.hid (B18.out.trans (hb19.mono B18.out.size))
  have w0_19 := Lib.hid (w0_18.out.below hb19)
  have w0F_19 := Lib.hid (w0F_18.out.below hb19)
  have mkx1_19 := Lib.hid (mkx1_18.out.below hb19)
  have mkx2_19 := Lib.hid (mkx2_18.out.below hb19)
  have mkg0_19 := Lib.hid (mkg0_18.out.below hb19)
  have t18_19 := Lib.hid (S18.out.below hb19)
  have hz19 : (w18).heap.size ≤ w19.heap.size := hb19.size
  clear hb19 o19
  go_wp2_with fail
  refine (implRivalDuties a0 _ l1 _ l2 _ t18_19.out S19.out ).mono ?_
  intro e w20 hN
  rw [HR0.out] at hN
  obtain ⟨u20, rfl, o20, hb20⟩ := hN
  have S20 := Lib.hid (OwnInt.sl o20 (by omega))
  have RG20 := Lib.hid (own_range o20)
  have FR20 := Lib.hid (own_freeV o20)
  obtain ⟨D20, k20, rfl⟩ := own_form o20
  have B20 := Lib.hid (B19.out.trans (hb20.mono B19.out.size))
  have w0_20 := Lib.hid (w0_19.out.below hb20)
  have w0F_20 := Lib.hid (w0F_19.out.below hb20)
  have mkx1_20 := Lib.hid (mkx1_19.out.below hb20)
  have mkx2_20 := Lib.hid (mkx2_19.out.below hb20)
  have mkg0_20 := Lib.hid (mkg0_19.out.below hb20)
  have t18_20 := Lib.hid (t18_19.out.below hb20)
  have t19_20 := Lib.hid (S19.out.below hb20)
  have hz20 : (w19).heap.size ≤ w20.heap.size := hb20.size
  clear o20
  clear hb20 
  -- if !eqIntS(h0, w0) {
  go_wp2_with fail
  refine (eqIntS_same _ _ r0 _ S20.out w0_20.out).mono ?_
  rintro e w21 ⟨rfl, hb21⟩
  have B21 := Lib.hid (B20.out.trans (hb21.mono B20.out.size))
  have w0_21 := Lib.hid (w0_20.out.below hb21)
  have w0F_21 := Lib.hid (w0F_20.out.below hb21)
  have mkx1_21 := Lib.hid (mkx1_20.out.below hb21)
  have mkx2_21 := Lib.hid (mkx2_20.out.below hb21)
  have mkg0_21 := Lib.hid (mkg0_20.out.below hb21)
  have h0_21 := Lib.hid (S20.out.below hb21)
  have h0F_21 := Lib.hid (FR20.out.below hb21)
  have hz21 : (w20).heap.size ≤ w21.heap.size := hb21.size
  clear hb21
  -- q = 1
  -- q = heldIntS(g0, q)
  go_wp2_with fail
  refine (heldIntS_any _ r0.length D7 k7 rfl (1) _ mkg0_21.out (by omega) (by omega) (by omega)).mono ?_
  rintro e w22 ⟨rfl, hb22⟩
  have B22 := Lib.hid (B21.out.trans (hb22.mono B21.out.size))
  have w0_22 := Lib.hid (w0_21.out.below hb22)
  have w0F_22 := Lib.hid (w0F_21.out.below hb22)
  have mkx1_22 := Lib.hid (mkx1_21.out.below hb22)
  have mkx2_22 := Lib.hid (mkx2_21.out.below hb22)
  have mkg0_22 := Lib.hid (mkg0_21.out.below hb22)
  have h0_22 := Lib.hid (h0_21.out.below hb22)
  have h0F_22 := Lib.hid (h0F_21.out.below hb22)
  have hz22 : (w21).heap.size ≤ w22.heap.size := hb22.size
  clear hb22
  -- if q < 0 {
  -- if q != m {
  -- return true
  go_wp2
  go_ret
  exact ⟨rfl, BW.out.trans (B22.out.mono hs0)⟩
set_option maxRecDepth 100000 in
theorem lifted (os : Os) (started : os.Started) (H : Type) (enc : TypeId × Value → H) :
    ReturnsInHanded {} Try.checked os 10 .any (Rows.fnExactRivalDutiesSpec.pre6 enc Try.prog Try.f10 Rows.fnExactRivalDutiesRow.domain false) (Rows.fnExactRivalDutiesSpec.post enc Try.prog Try.f10 false true false false) := by
  refine returnsInHanded_of_change (C := Try.checked) own started (by kernel_rfl) Try.func10
    (ChangeSpec.witness6 (enc := enc) (C := Try.checked) false ⟨#[], #[.int .i64 0, .slice none 0 0, .slice none 0 0], []⟩ 8 (by kernel_rfl) (by kernel_rfl) (by kernel_rfl) (by kernel_rfl)) ?_
  intro W base args ds gs before hval0 hW _ _
  have hval : ∀ (j : Nat) t v, Try.f10.params[j]? = some t → args[j]? = some v → Value.okWide Try.prog W .any base t v := hval0
  have hW' := hW
  obtain ⟨p, q, hA0, hV, rfl, _, _⟩ := hW
  have hA : DataW.TrodAll enc Try.prog W 0 (fun _ => true) true Try.f10.params.toList args.toList ds p := hA0
  rw [Try.params10] at hA hval
  obtain ⟨v0, vs0, d0, ds0, p0, q0, hargs, rfl, rfl, h0, r0⟩ := trodAll_cons hA
  obtain ⟨v1, vs1, d1, ds1, p1, q1, rfl, rfl, rfl, h1, r1⟩ := trodAll_cons r0
  obtain ⟨v2, vs2, d2, ds2, p2, q2, rfl, rfl, rfl, h2, r2⟩ := trodAll_cons r1
  obtain ⟨rfl, rfl, rfl⟩ := trodAll_nil r2
  obtain rfl : args = #[v0, v1, v2] := by cases args; simp_all
  obtain ⟨a0, rfl, rfl, rfl, g0⟩ := open_int Try.underlying3 (hval 0 3 v0 rfl rfl) h0
  obtain ⟨A1, c1, l1, rfl, g1⟩ := open_ints_arg (hval 1 23 v1 rfl rfl) h1
  obtain ⟨A2, c2, l2, rfl, g2⟩ := open_dutys_arg (hval 2 40 v2 rfl rfl) h2
  refine (law a0 A1 c1 l1 A2 c2 l2 W g0 g1 g2).mono fun e W' ⟨he, hb⟩ => ⟨_, he, ?_⟩
  exact law_post laidOut (by kernel_rfl) rfl (by kernel_rfl) Try.underlying4 rfl rfl rfl hW' hb
theorem holds : Rows.FnExactRivalDutiesSaid :=
  OpenClaim.holds_of_wide 10 Try.f10 rfl rfl rfl rfl rfl rfl rfl ⟨rfl, rfl, rfl, rfl, rfl⟩ rfl rfl rfl rfl rfl (by kernel_rfl) Try.func10 (by kernel_rfl)
    (of_decide_eq_true (by kernel_rfl)) (by unfold Func.isWrapper; first | (rw [if_pos (by decide +kernel)]; kernel_rfl) | (rw [if_neg (by decide +kernel)]; exact ⟨rfl, rfl⟩))
    (fun os started H enc _ => lifted os started H enc)
end Go.Proofs.Ytfofbnpgjdagkaa.exactRivalDuties
