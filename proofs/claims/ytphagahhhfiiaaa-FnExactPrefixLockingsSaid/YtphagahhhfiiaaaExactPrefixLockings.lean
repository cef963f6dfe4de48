
/- The exact law of PrefixLockings holds for all arguments: impl.PrefixLockings answers as its model, its answer owns its memory, and the arguments read as before. No condition. -/
import Derived.Test.YtphagahhhfiiaaaRows
import Derived.Test.YtphagahhhfiiaaaKit
import Derived.Test.YtphagahhhfiiaaaPrefSpec
import Derived.Test.YtphagahhhfiiaaaPrefImpl
import Derived.Test.YtphagahhhfiiaaaInts
import Derived.Test.YtphagahhhfiiaaaTouch
import Derived.Deep.RegionHeld3
import Derived.Deep.DeepCutAuto
namespace Go.Proofs.Ytphagahhhfiiaaa.exactPrefixLockings
open Go.ChangeShapes Go.WideShapes Go.ChangeAt Go.RowKit
set_option maxRecDepth 100000

theorem own : ownKnob Try.prog.godebug = none := by kernel_rfl
theorem laidOut : laidOutB Try.prog = true := by kernel_rfl

set_option maxHeartbeats 16000000 in
theorem law (d0 : ChamberD) (A1 : Option Addr) (c1 : Nat) (l1 : List IntD) (w : World) (_ : d0.wf) (hin1 : l1.length ≤ maxLen ∧ (l1.length ≤ 1000000000 → SlInt w (.slice A1 l1.length c1) l1) ∧ ∀ x ∈ l1, IntD.wf x) :
    Calls Try.prog 9 #[.agg #[.int .i64 d0.length, .int .i64 d0.lanes, .int .i64 d0.minutes], .slice A1 l1.length c1] w fun e w' => e = .returned (.bool true) ∧ Below w.heap.size w w' := by
  obtain ⟨m1, s1, f1⟩ := hin1
  unfold maxLen at m1
  have SS1 := Lib.hid s1
  have FF1 := Lib.hid f1
  clear s1 f1
  have HB0 : Below w.heap.size w (w.alloc (.cells #[.int .i64 d0.length, .int .i64 d0.lanes, .int .i64 d0.minutes] 37)) := by
    repeat (first | exact Below.refl _ _ | refine Below.alloc ?_ (by simp <;> omega) _)
  have BW := Lib.hid HB0
  clear HB0
  go_enter Try.func9, Try.ntmps9
  have B0 := Lib.hid (Below.refl ((w.alloc (.cells #[.int .i64 d0.length, .int .i64 d0.lanes, .int .i64 d0.minutes] 37))).heap.size (w.alloc (.cells #[.int .i64 d0.length, .int .i64 d0.lanes, .int .i64 d0.minutes] 37)))
  have hs0 : w.heap.size ≤ ((w.alloc (.cells #[.int .i64 d0.length, .int .i64 d0.lanes, .int .i64 d0.minutes] 37))).heap.size := BW.out.size
  have ABX0 := Lib.hid (show ((w.alloc (.cells #[.int .i64 d0.length, .int .i64 d0.lanes, .int .i64 d0.minutes] 37))).cell? ⟨w.heap.size, 0, none⟩ = some (.int .i64 d0.length) ∧ ((w.alloc (.cells #[.int .i64 d0.length, .int .i64 d0.lanes, .int .i64 d0.minutes] 37))).cell? ⟨w.heap.size, 1, none⟩ = some (.int .i64 d0.lanes) ∧ ((w.alloc (.cells #[.int .i64 d0.length, .int .i64 d0.lanes, .int .i64 d0.minutes] 37))).cell? ⟨w.heap.size, 2, none⟩ = some (.int .i64 d0.minutes) from by
    have hBk0 : Blk (w.alloc (.cells #[.int .i64 d0.length, .int .i64 d0.lanes, .int .i64 d0.minutes] 37)) (w.heap.size) #[.int .i64 d0.length, .int .i64 d0.lanes, .int .i64 d0.minutes] 37 := Blk.newAt (w := w) (by first | rfl | simp) _ _
    have hBk : Blk (w.alloc (.cells #[.int .i64 d0.length, .int .i64 d0.lanes, .int .i64 d0.minutes] 37)) (w.heap.size) #[.int .i64 d0.length, .int .i64 d0.lanes, .int .i64 d0.minutes] 37 := hBk0.below (by repeat (first | exact Below.refl _ _ | refine Below.alloc ?_ (by simp) _))
    exact ⟨hBk.cell 0, hBk.cell 1, hBk.cell 2⟩)
  obtain ⟨r0, hr0⟩ : ∃ r0, (prefL d0 l1) = r0 := ⟨_, rfl⟩
  have HR0 := Lib.hid hr0
  clear hr0
  -- if len(aLengths) > 1<<20 {
  by_cases big1 : 1048576 < l1.length
  · go_wp2
    go_ret
    exact ⟨rfl, BW.out.trans (B0.out.mono hs0)⟩
  have R1 := Lib.hid (SS1.out (by omega))
  clear SS1
  -- w0 := spec.PrefixLockings(toChamber(aK), toIntS(aLengths))
  have y0_0 : ((w.alloc (.cells #[.int .i64 d0.length, .int .i64 d0.lanes, .int .i64 d0.minutes] 37))).cell? ⟨w.heap.size, 0, none⟩ = some (.int .i64 d0.length) := cell_onV (ABX0.out.1) B0.out
  have y0_1 : ((w.alloc (.cells #[.int .i64 d0.length, .int .i64 d0.lanes, .int .i64 d0.minutes] 37))).cell? ⟨w.heap.size, 1, none⟩ = some (.int .i64 d0.lanes) := cell_onV (ABX0.out.2.1) B0.out
  have y0_2 : ((w.alloc (.cells #[.int .i64 d0.length, .int .i64 d0.lanes, .int .i64 d0.minutes] 37))).cell? ⟨w.heap.size, 2, none⟩ = some (.int .i64 d0.minutes) := cell_onV (ABX0.out.2.2) B0.out
  go_wp2_with fail
  refine (toChamber_any d0.length d0.lanes d0.minutes _).mono ?_
  rintro e w1 ⟨rfl, hb1⟩
  have B1 := Lib.hid (B0.out.trans (hb1.mono B0.out.size))
  have hz1 : ((w.alloc (.cells #[.int .i64 d0.length, .int .i64 d0.lanes, .int .i64 d0.minutes] 37))).heap.size ≤ w1.heap.size := hb1.size
  clear hb1 y0_0 y0_1 y0_2
  go_wp2_with fail
  refine (toIntS_any _ l1 _ (R1.out.below (BW.out.trans (B1.out.mono hs0)))).mono ?_
  rintro e w2 ⟨u2, rfl, o2, hb2⟩
  have S2 := Lib.hid (OwnInt.sl o2 (by omega))
  have RG2 := Lib.hid (own_range o2)
  have FR2 := Lib.hid (own_freeV o2)
  obtain ⟨D2, k2, rfl⟩ := own_form o2
  have B2 := Lib.hid (B1.out.trans (hb2.mono B1.out.size))
  have hz2 : (w1).heap.size ≤ w2.heap.size := hb2.size
  clear hb2 o2
  have hlen : r0.length ≤ 10000000 := by rw [← HR0.out]; exact (prefL_len d0 l1)
  go_wp2_with fail
  refine (specPrefixLockings d0 _ l1 _ S2.out ).mono ?_
  intro e w3 hN
  rw [HR0.out] at hN
  obtain ⟨u3, rfl, o3, hb3⟩ := hN
  have S3 := Lib.hid (OwnInt.sl o3 (by omega))
  have RG3 := Lib.hid (own_range o3)
  have FR3 := Lib.hid (own_freeV o3)
  obtain ⟨D3, k3, rfl⟩ := own_form o3
  have B3 := Lib.hid (B2.out.trans (hb3.mono B2.out.size))
  have t2_3 := Lib.hid (S2.out.below hb3)
  have hz3 : (w2).heap.size ≤ w3.heap.size := hb3.size
  clear o3
  clear hb3 
  -- x1 := toIntS(aLengths)
  go_wp2_with fail
  refine (toIntS_any _ l1 _ (R1.out.below (BW.out.trans (B3.out.mono hs0)))).mono ?_
  rintro e w4 ⟨u4, rfl, o4, hb4⟩
  have S4 := Lib.hid (OwnInt.sl o4 (by omega))
  have RG4 := Lib.hid (own_range o4)
  have FR4 := Lib.hid (own_freeV o4)
  obtain ⟨D4, k4, rfl⟩ := own_form o4
  have B4 := Lib.hid (B3.out.trans (hb4.mono B3.out.size))
  have w0_4 := Lib.hid (S3.out.below hb4)
  have w0F_4 := Lib.hid (FR3.out.below hb4)
  have hz4 : (w3).heap.size ≤ w4.heap.size := hb4.size
  clear hb4 o4
  -- g0 := impl.PrefixLockings(toChamber(aK), x1)
  have y0_0 : (w4).cell? ⟨w.heap.size, 0, none⟩ = some (.int .i64 d0.length) := cell_onV (ABX0.out.1) B4.out
  have y0_1 : (w4).cell? ⟨w.heap.size, 1, none⟩ = some (.int .i64 d0.lanes) := cell_onV (ABX0.out.2.1) B4.out
  have y0_2 : (w4).cell? ⟨w.heap.size, 2, none⟩ = some (.int .i64 d0.minutes) := cell_onV (ABX0.out.2.2) B4.out
  go_wp2_with fail
  refine (toChamber_any d0.length d0.lanes d0.minutes _).mono ?_
  rintro e w5 ⟨rfl, hb5⟩
  have B5 := Lib.hid (B4.out.trans (hb5.mono B4.out.size))
  have w0_5 := Lib.hid (w0_4.out.below hb5)
  have w0F_5 := Lib.hid (w0F_4.out.below hb5)
  have x1_5 := Lib.hid (S4.out.below hb5)
  have x1F_5 := Lib.hid (FR4.out.below hb5)
  have hz5 : (w4).heap.size ≤ w5.heap.size := hb5.size
  clear hb5 y0_0 y0_1 y0_2
  go_wp2_with fail
  refine (implPrefixLockings d0 _ l1 _ x1_5.out ).mono ?_
  intro e w6 hN
  rw [HR0.out] at hN
  obtain ⟨u6, rfl, o6, hb6⟩ := hN
  have S6 := Lib.hid (OwnInt.sl o6 (by omega))
  have RG6 := Lib.hid (own_range o6)
  have FR6 := Lib.hid (own_freeV o6)
  obtain ⟨D6, k6, rfl⟩ := own_form o6
  have B6 := Lib.hid (B5.out.trans (hb6.mono B5.out.size))
  have w0_6 := Lib.hid (w0_5.out.below hb6)
  have w0F_6 := Lib.hid (w0F_5.out.below hb6)
  have x1_6 := Lib.hid (x1_5.out.below hb6)
  have x1F_6 := Lib.hid (x1F_5.out.below hb6)
  have hz6 : (w5).heap.size ≤ w6.heap.size := hb6.size
  clear o6
  clear hb6 
  -- if !eqIntS(g0, w0) {
  go_wp2_with fail
  refine (eqIntS_same _ _ r0 _ S6.out w0_6.out).mono ?_
  rintro e w7 ⟨rfl, hb7⟩
  have B7 := Lib.hid (B6.out.trans (hb7.mono B6.out.size))
  have w0_7 := Lib.hid (w0_6.out.below hb7)
  have w0F_7 := Lib.hid (w0F_6.out.below hb7)
  have x1_7 := Lib.hid (x1_6.out.below hb7)
  have x1F_7 := Lib.hid (x1F_6.out.below hb7)
  have g0_7 := Lib.hid (S6.out.below hb7)
  have g0F_7 := Lib.hid (FR6.out.below hb7)
  have hz7 : (w6).heap.size ≤ w7.heap.size := hb7.size
  clear hb7
  -- if !eqIntS(x1, toIntS(aLengths)) {
  go_wp2_with fail
  refine (toIntS_any _ l1 _ (R1.out.below (BW.out.trans (B7.out.mono hs0)))).mono ?_
  rintro e w8 ⟨u8, rfl, o8, hb8⟩
  have S8 := Lib.hid (OwnInt.sl o8 (by omega))
  have RG8 := Lib.hid (own_range o8)
  have FR8 := Lib.hid (own_freeV o8)
  obtain ⟨D8, k8, rfl⟩ := own_form o8
  have B8 := Lib.hid (B7.out.trans (hb8.mono B7.out.size))
  have w0_8 := Lib.hid (w0_7.out.below hb8)
  have w0F_8 := Lib.hid (w0F_7.out.below hb8)
  have x1_8 := Lib.hid (x1_7.out.below hb8)
  have x1F_8 := Lib.hid (x1F_7.out.below hb8)
  have g0_8 := Lib.hid (g0_7.out.below hb8)
  have g0F_8 := Lib.hid (g0F_7.out.below hb8)
  have hz8 : (w7).heap.size ≤ w8.heap.size := hb8.size
  clear hb8 o8
  go_wp2_with fail
  refine (eqIntS_same _ _ l1 _ x1_8.out S8.out).mono ?_
  rintro e w9 ⟨rfl, hb9⟩
  have B9 := Lib.hid (B8.out.trans (hb9.mono B8.out.size))
  have w0_9 := Lib.hid (w0_8.out.below hb9)
  have w0F_9 := Lib.hid (w0F_8.out.below hb9)
  have x1_9 := Lib.hid (x1_8.out.below hb9)
  have x1F_9 := Lib.hid (x1F_8.out.below hb9)
  have g0_9 := Lib.hid (g0_8.out.below hb9)
  have g0F_9 := Lib.hid (g0F_8.out.below hb9)
  have hz9 : (w8).heap.size ≤ w9.heap.size := hb9.size
  clear hb9
  -- k := 1
  -- k = markIntS(x1, k)
  go_wp2_with fail
  refine (markIntS_any _ l1 (1) _ x1_9.out (fun g hg => (x1F_9.out g hg).1) (by omega) (by omega) (by omega)).mono ?_
  rintro e w10 ⟨rfl, mm10, hg10⟩
  have ht10 := touch_grown hg10 RG4.out
  have B10 := Lib.hid (TouchR.below B9.out ht10 B9.out.size (by omega))
  have w0_10 := Lib.hid (SlOf.touch w0_9.out ht10 RG3.out (by omega))
  have w0F_10 := Lib.hid (FreeV.touch w0F_9.out ht10 RG3.out (by omega))
  have g0_10 := Lib.hid (SlOf.touch g0_9.out ht10 RG6.out (by omega))
  have g0F_10 := Lib.hid (FreeV.touch g0F_9.out ht10 RG6.out (by omega))
  have hz10 : (w9).heap.size ≤ w10.heap.size := ht10.size
  have MK_x1 := Lib.hid mm10
  clear ht10 hg10 mm10
  -- if k < 0 || !eqIntS(g0, w0) {
  go_wp2_with fail
  refine (eqIntS_same _ _ r0 _ g0_10.out w0_10.out).mono ?_
  rintro e w11 ⟨rfl, hb11⟩
  have B11 := Lib.hid (B10.out.trans (hb11.mono B10.out.size))
  have w0_11 := Lib.hid (w0_10.out.below hb11)
  have w0F_11 := Lib.hid (w0F_10.out.below hb11)
  have g0_11 := Lib.hid (g0_10.out.below hb11)
  have g0F_11 := Lib.hid (g0F_10.out.below hb11)
  have mkx1_11 := Lib.hid (MK_x1.out.below hb11)
  have hz11 : (w10).heap.size ≤ w11.heap.size := hb11.size
  clear hb11
  -- m := 1
  -- m = markIntS(g0, m)
  go_wp2_with fail
  refine (markIntS_any _ r0 (1) _ g0_11.out (fun g hg => (g0F_11.out g hg).1) (by omega) (by omega) (by omega)).mono ?_
  rintro e w12 ⟨rfl, mm12, hg12⟩
  have ht12 := touch_grown hg12 RG6.out
  have B12 := Lib.hid (TouchR.below B11.out ht12 B11.out.size (by omega))
  have w0_12 := Lib.hid (SlOf.touch w0_11.out ht12 RG3.out (by omega))
  have w0F_12 := Lib.hid (FreeV.touch w0F_11.out ht12 RG3.out (by omega))
  have mkx1_12 := Lib.hid (MarkedV.touch mkx1_11.out ht12 RG4.out (by omega))
  have hz12 : (w11).heap.size ≤ w12.heap.size := ht12.size
  have MK_g0 := Lib.hid mm12
  clear ht12 hg12 mm12
  -- q := 1
  -- q = heldIntS(g0, q)
  go_wp2_with fail
  refine (heldIntS_any _ r0.length D6 k6 rfl (1) _ MK_g0.out (by omega) (by omega) (by omega)).mono ?_
  rintro e w13 ⟨rfl, hb13⟩
  have B13 := Lib.hid (B12.out.trans (hb13.mono B12.out.size))
  have w0_13 := Lib.hid (w0_12.out.below hb13)
  have w0F_13 := Lib.hid (w0F_12.out.below hb13)
  have mkx1_13 := Lib.hid (mkx1_12.out.below hb13)
  have mkg0_13 := Lib.hid (MK_g0.out.below hb13)
  have hz13 : (w12).heap.size ≤ w13.heap.size := hb13.size
  clear hb13
  -- if q < 0 {
  -- if q != m {
  -- h0 := impl.PrefixLockings(toChamber(aK), toIntS(aLengths))
  have y0_0 : (w13).cell? ⟨w.heap.size, 0, none⟩ = some (.int .i64 d0.length) := cell_onV (ABX0.out.1) B13.out
  have y0_1 : (w13).cell? ⟨w.heap.size, 1, none⟩ = some (.int .i64 d0.lanes) := cell_onV (ABX0.out.2.1) B13.out
  have y0_2 : (w13).cell? ⟨w.heap.size, 2, none⟩ = some (.int .i64 d0.minutes) := cell_onV (ABX0.out.2.2) B13.out
  go_wp2_with fail
  refine (toChamber_any d0.length d0.lanes d0.minutes _).mono ?_
  rintro e w14 ⟨rfl, hb14⟩
  have B14 := Lib.hid (B13.out.trans (hb14.mono B13.out.size))
  have w0_14 := Lib.hid (w0_13.out.below hb14)
  have w0F_14 := Lib.hid (w0F_13.out.below hb14)
  have mkx1_14 := Lib.hid (mkx1_13.out.below hb14)
  have mkg0_14 := Lib.hid (mkg0_13.out.below hb14)
  have hz14 : (w13).heap.size ≤ w14.heap.size := hb14.size
  clear hb14 y0_0 y0_1 y0_2
  go_wp2_with fail
  refine (toIntS_any _ l1 _ (R1.out.below (BW.out.trans (B14.out.mono hs0)))).mono ?_
  rintro e w15 ⟨u15, rfl, o15, hb15⟩
  have S15 := Lib.hid (OwnInt.sl o15 (by omega))
  have RG15 := Lib.hid (own_range o15)
  have FR15 := Lib.hid (own_freeV o15)
  obtain ⟨D15, k15, rfl⟩ := own_form o15
  have B15 := Lib.hid (B14.out.trans (hb15.mono B14.out.size))
  have w0_15 := Lib.hid (w0_14.out.below hb15)
  have w0F_15 := Lib.hid (w0F_14.out.below hb15)
  have mkx1_15 := Lib.hid (mkx1_14.out.below hb15)
  have mkg0_15 := Lib.hid (mkg0_14.out.below hb15)
  have hz15 : (w14).heap.size ≤ w15.heap.size := hb15.size
  clear hb15 o15
  go_wp2_with fail
  refine (implPrefixLockings d0 _ l1 _ S15.out ).mono ?_
  intro e w16 hN
  rw [HR0.out] at hN
  obtain ⟨u16, rfl, o16, hb16⟩ := hN
  have S16 := Lib.hid (OwnInt.sl o16 (by omega))
  have RG16 := Lib.hid (own_range o16)
  have FR16 := Lib.hid (own_freeV o16)
  obtain ⟨D16, k16, rfl⟩ := own_form o16
  have B16 := Lib.hid (B15.out.trans (hb16.mono B15.out.size))
  have w0_16 := Lib.hid (w0_15.out.below hb16)
  have w0F_16 := Lib.hid (w0F_15.out.below hb16)
  have mkx1_16 := Lib.hid (mkx1_15.out.below hb16)
  have mkg0_16 := Lib.hid (mkg0_15.out.below hb16)
  have t15_16 := Lib.hid (S15.out.below hb16)
  have hz16 : (w15).heap.size ≤ w16.heap.size := hb16.size
  clear o16
  clear hb16 
  -- if !eqIntS(h0, w0) {
  go_wp2_with fail
  refine (eqIntS_same _ _ r0 _ S16.out w0_16.out).mono ?_
  rintro e w17 ⟨rfl, hb17⟩
  have B17 := Lib.hid (B16.out.trans (hb17.mono B16.out.size))
  have w0_17 := Lib.hid (w0_16.out.below hb17)
  have w0F_17 := Lib.hid (w0F_16.out.below hb17)
  have mkx1_17 := Lib.hid (mkx1_16.out.below hb17)
  have mkg0_17 := Lib.hid (mkg0_16.out.below hb17)
  have h0_17 := Lib.hid (S16.out.below hb17)
  have h0F_17 := Lib.hid (FR16.out.below hb17)
  have hz17 : (w16).heap.size ≤ w17.heap.size := hb17.size
  clear hb17
  -- q = 1
  -- q = heldIntS(g0, q)
  go_wp2_with fail
  refine (heldIntS_any _ r0.length D6 k6 rfl (1) _ mkg0_17.out (by omega) (by omega) (by omega)).mono ?_
  rintro e w18 ⟨rfl, hb18⟩
  have B18 := Lib.hid (B17.out.trans (hb18.mono B17.out.size))
  have w0_18 := Lib.hid (w0_17.out.below hb18)
  have w0F_18 := Lib.hid (w0F_17.out.below hb18)
  have mkx1_18 := Lib.hid (mkx1_17.out.below hb18)
  have mkg0_18 := Lib.hid (mkg0_17.out.below hb18)
  have h0_18 := Lib.hid (h0_17.out.below hb18)
  have h0F_18 := Lib.hid (h0F_17.out.below hb18)
  have hz18 : (w17).heap.size ≤ w18.heap.size := hb18.size
  clear hb18
  -- if q < 0 {
  -- if q != m {
  -- return true
  go_wp2
  go_ret
  exact ⟨rfl, BW.out.trans (B18.out.mono hs0)⟩

set_option maxRecDepth 100000 in
theorem lifted (os : Os) (started : os.Started) (H : Type) (enc : TypeId × Value → H) :
    ReturnsInHanded {} Try.checked os 9 .any (Rows.fnExactPrefixLockingsSpec.pre6 enc Try.prog Try.f9 Rows.fnExactPrefixLockingsRow.domain false) (Rows.fnExactPrefixLockingsSpec.post enc Try.prog Try.f9 false true false false) := by
  refine returnsInHanded_of_change (C := Try.checked) own started (by kernel_rfl) Try.func9
    (ChangeSpec.witness6 (enc := enc) (C := Try.checked) false ⟨#[], #[.agg #[.int .i64 0, .int .i64 0, .int .i64 0], .slice none 0 0], []⟩ 8 (by kernel_rfl) (by kernel_rfl) (by kernel_rfl) (by kernel_rfl)) ?_
  intro W base args ds gs before hval0 hW _ _
  have hval : ∀ (j : Nat) t v, Try.f9.params[j]? = some t → args[j]? = some v → Value.okWide Try.prog W .any base t v := hval0
  have hW' := hW
  obtain ⟨p, q, hA0, hV, rfl, _, _⟩ := hW
  have hA : DataW.TrodAll enc Try.prog W 0 (fun _ => true) true Try.f9.params.toList args.toList ds p := hA0
  rw [Try.params9] at hA hval
  obtain ⟨v0, vs0, d0, ds0, p0, q0, hargs, rfl, rfl, h0, r0⟩ := trodAll_cons hA
  obtain ⟨v1, vs1, d1, ds1, p1, q1, rfl, rfl, rfl, h1, r1⟩ := trodAll_cons r0
  obtain ⟨rfl, rfl, rfl⟩ := trodAll_nil r1
  obtain rfl : args = #[v0, v1] := by cases args; simp_all
  obtain ⟨d0', rfl, g0⟩ := open_chamber_arg (hval 0 37 v0 rfl rfl) h0
  obtain ⟨A1, c1, l1, rfl, g1⟩ := open_ints_arg (hval 1 25 v1 rfl rfl) h1
  refine (law d0' A1 c1 l1 W g0 g1).mono fun e W' ⟨he, hb⟩ => ⟨_, he, ?_⟩
  exact law_post laidOut (by kernel_rfl) rfl (by kernel_rfl) Try.underlying4 rfl rfl rfl hW' hb

theorem holds : Rows.FnExactPrefixLockingsSaid :=
  OpenClaim.holds_of_wide 9 Try.f9 rfl rfl rfl rfl rfl rfl rfl ⟨rfl, rfl, rfl, rfl, rfl⟩ rfl rfl rfl rfl rfl (by kernel_rfl) Try.func9 (by kernel_rfl)
    (of_decide_eq_true (by kernel_rfl)) (by unfold Func.isWrapper; first | (rw [if_pos (by decide +kernel)]; kernel_rfl) | (rw [if_neg (by decide +kernel)]; exact ⟨rfl, rfl⟩))
    (fun os started H enc _ => lifted os started H enc)

end Go.Proofs.Ytphagahhhfiiaaa.exactPrefixLockings
