
/- The exact law of LeastLockings holds for all arguments: impl.LeastLockings answers as its model, and the arguments read as before. No condition. -/
import Derived.Test.YtphagahhhfiiaaaRows
import Derived.Test.YtphagahhhfiiaaaKit
import Derived.Test.YtphagahhhfiiaaaLeastSpec
import Derived.Test.YtphagahhhfiiaaaLeastImpl
import Derived.Test.YtphagahhhfiiaaaInts
import Derived.Test.YtphagahhhfiiaaaTouch
import Derived.Deep.RegionHeld3
import Derived.Deep.DeepCutAuto
namespace Go.Proofs.Ytphagahhhfiiaaa.exactLeastLockings
open Go.ChangeShapes Go.WideShapes Go.ChangeAt Go.RowKit
set_option maxRecDepth 100000

theorem own : ownKnob Try.prog.godebug = none := by kernel_rfl
theorem laidOut : laidOutB Try.prog = true := by kernel_rfl

set_option maxHeartbeats 16000000 in
theorem law (d0 : ChamberD) (A1 : Option Addr) (c1 : Nat) (l1 : List IntD) (w : World) (_ : d0.wf) (hin1 : l1.length ≤ maxLen ∧ (l1.length ≤ 1000000000 → SlInt w (.slice A1 l1.length c1) l1) ∧ ∀ x ∈ l1, IntD.wf x) :
    Calls Try.prog 10 #[.agg #[.int .i64 d0.length, .int .i64 d0.lanes, .int .i64 d0.minutes], .slice A1 l1.length c1] w fun e w' => e = .returned (.bool true) ∧ Below w.heap.size w w' := by
  obtain ⟨m1, s1, f1⟩ := hin1
  unfold maxLen at m1
  have SS1 := Lib.hid s1
  have FF1 := Lib.hid f1
  clear s1 f1
  have HB0 : Below w.heap.size w (w.alloc (.cells #[.int .i64 d0.length, .int .i64 d0.lanes, .int .i64 d0.minutes] 37)) := by
    repeat (first | exact Below.refl _ _ | refine Below.alloc ?_ (by simp <;> omega) _)
  have BW := Lib.hid HB0
  clear HB0
  go_enter Try.func10, Try.ntmps10
  have B0 := Lib.hid (Below.refl ((w.alloc (.cells #[.int .i64 d0.length, .int .i64 d0.lanes, .int .i64 d0.minutes] 37))).heap.size (w.alloc (.cells #[.int .i64 d0.length, .int .i64 d0.lanes, .int .i64 d0.minutes] 37)))
  have hs0 : w.heap.size ≤ ((w.alloc (.cells #[.int .i64 d0.length, .int .i64 d0.lanes, .int .i64 d0.minutes] 37))).heap.size := BW.out.size
  have ABX0 := Lib.hid (show ((w.alloc (.cells #[.int .i64 d0.length, .int .i64 d0.lanes, .int .i64 d0.minutes] 37))).cell? ⟨w.heap.size, 0, none⟩ = some (.int .i64 d0.length) ∧ ((w.alloc (.cells #[.int .i64 d0.length, .int .i64 d0.lanes, .int .i64 d0.minutes] 37))).cell? ⟨w.heap.size, 1, none⟩ = some (.int .i64 d0.lanes) ∧ ((w.alloc (.cells #[.int .i64 d0.length, .int .i64 d0.lanes, .int .i64 d0.minutes] 37))).cell? ⟨w.heap.size, 2, none⟩ = some (.int .i64 d0.minutes) from by
    have hBk0 : Blk (w.alloc (.cells #[.int .i64 d0.length, .int .i64 d0.lanes, .int .i64 d0.minutes] 37)) (w.heap.size) #[.int .i64 d0.length, .int .i64 d0.lanes, .int .i64 d0.minutes] 37 := Blk.newAt (w := w) (by first | rfl | simp) _ _
    have hBk : Blk (w.alloc (.cells #[.int .i64 d0.length, .int .i64 d0.lanes, .int .i64 d0.minutes] 37)) (w.heap.size) #[.int .i64 d0.length, .int .i64 d0.lanes, .int .i64 d0.minutes] 37 := hBk0.below (by repeat (first | exact Below.refl _ _ | refine Below.alloc ?_ (by simp) _))
    exact ⟨hBk.cell 0, hBk.cell 1, hBk.cell 2⟩)
  obtain ⟨r0, hr0⟩ : ∃ r0, (leastI d0 l1) = r0 := ⟨_, rfl⟩
  have HR0 := Lib.hid hr0
  clear hr0
  -- if len(aLengths) > 1<<20 {
  by_cases big1 : 1048576 < l1.length
  · go_wp2
    go_ret
    exact ⟨rfl, BW.out.trans (B0.out.mono hs0)⟩
  have R1 := Lib.hid (SS1.out (by omega))
  clear SS1
  -- w0 := spec.LeastLockings(toChamber(aK), toIntS(aLengths))
  have y0_0 : ((w.alloc (.cells #[.int .i64 d0.length, .int .i64 d0.lanes, .int .i64 d0.minutes] 37))).cell? ⟨w.heap.size, 0, none⟩ = some (.int .i64 d0.length) := cell_onV (ABX0.out.1) B0.out
  have y0_1 : ((w.alloc (.cells #[.int .i64 d0.length, .int .i64 d0.lanes, .int .i64 d0.minutes] 37))).cell? ⟨w.heap.size, 1, none⟩ = some (.int .i64 d0.lanes) := cell_onV (ABX0.out.2.1) B0.out
  have y0_2 : ((w.alloc (.cells #[.int .i64 d0.length, .int .i64 d0.lanes, .int .i64 d0.minutes] 37))).cell? ⟨w.heap.size, 2, none⟩ = some (.int .i64 d0.minutes) := cell_onV (ABX0.out.2.2) B0.out
  go_wp2_with fail
  refine (toChamber_any d0.length d0.lanes d0.minutes _).mono ?_
  rintro e w1 ⟨rfl, hb1⟩
  have B1 := Lib.hid (B0.out.trans (hb1.mono B0.out.size))
  have hz1 : ((w.alloc (.cells #[.int .i64 d0.length, .int .i64 d0.lanes, .int .i64 d0.minutes] 37))).heap.size ≤ w1.heap.size := hb1.size
  clear hb1 y0_0 y0_1 y0_2
  go_wp2_with fail
  refine (toIntS_any _ l1 _ (R1.out.below (BW.out.trans (B1.out.mono hs0)))).mono ?_
  rintro e w2 ⟨u2, rfl, o2, hb2⟩
  have S2 := Lib.hid (OwnInt.sl o2 (by omega))
  have RG2 := Lib.hid (own_range o2)
  have FR2 := Lib.hid (own_freeV o2)
  obtain ⟨D2, k2, rfl⟩ := own_form o2
  have B2 := Lib.hid (B1.out.trans (hb2.mono B1.out.size))
  have hz2 : (w1).heap.size ≤ w2.heap.size := hb2.size
  clear hb2 o2
  go_wp2_with fail
  refine (specLeastLockings d0 _ l1 _ S2.out ).mono ?_
  rw [HR0.out]
  rintro e w3 ⟨rfl, hb3⟩
  have B3 := Lib.hid (B2.out.trans (hb3.mono B2.out.size))
  have t2_3 := Lib.hid (S2.out.below hb3)
  have hz3 : (w2).heap.size ≤ w3.heap.size := hb3.size
  clear hb3 
  -- x1 := toIntS(aLengths)
  go_wp2_with fail
  refine (toIntS_any _ l1 _ (R1.out.below (BW.out.trans (B3.out.mono hs0)))).mono ?_
  rintro e w4 ⟨u4, rfl, o4, hb4⟩
  have S4 := Lib.hid (OwnInt.sl o4 (by omega))
  have RG4 := Lib.hid (own_range o4)
  have FR4 := Lib.hid (own_freeV o4)
  obtain ⟨D4, k4, rfl⟩ := own_form o4
  have B4 := Lib.hid (B3.out.trans (hb4.mono B3.out.size))
  have hz4 : (w3).heap.size ≤ w4.heap.size := hb4.size
  clear hb4 o4
  -- g0 := impl.LeastLockings(toChamber(aK), x1)
  have y0_0 : (w4).cell? ⟨w.heap.size, 0, none⟩ = some (.int .i64 d0.length) := cell_onV (ABX0.out.1) B4.out
  have y0_1 : (w4).cell? ⟨w.heap.size, 1, none⟩ = some (.int .i64 d0.lanes) := cell_onV (ABX0.out.2.1) B4.out
  have y0_2 : (w4).cell? ⟨w.heap.size, 2, none⟩ = some (.int .i64 d0.minutes) := cell_onV (ABX0.out.2.2) B4.out
  go_wp2_with fail
  refine (toChamber_any d0.length d0.lanes d0.minutes _).mono ?_
  rintro e w5 ⟨rfl, hb5⟩
  have B5 := Lib.hid (B4.out.trans (hb5.mono B4.out.size))
  have x1_5 := Lib.hid (S4.out.below hb5)
  have x1F_5 := Lib.hid (FR4.out.below hb5)
  have hz5 : (w4).heap.size ≤ w5.heap.size := hb5.size
  clear hb5 y0_0 y0_1 y0_2
  go_wp2_with fail
  refine (implLeastLockings d0 _ l1 _ x1_5.out ).mono ?_
  rw [HR0.out]
  rintro e w6 ⟨rfl, hb6⟩
  have B6 := Lib.hid (B5.out.trans (hb6.mono B5.out.size))
  have x1_6 := Lib.hid (x1_5.out.below hb6)
  have x1F_6 := Lib.hid (x1F_5.out.below hb6)
  have hz6 : (w5).heap.size ≤ w6.heap.size := hb6.size
  clear hb6 
  -- if g0 != w0 {
  -- if !eqIntS(x1, toIntS(aLengths)) {
  go_wp2_with fail
  refine (toIntS_any _ l1 _ (R1.out.below (BW.out.trans (B6.out.mono hs0)))).mono ?_
  rintro e w7 ⟨u7, rfl, o7, hb7⟩
  have S7 := Lib.hid (OwnInt.sl o7 (by omega))
  have RG7 := Lib.hid (own_range o7)
  have FR7 := Lib.hid (own_freeV o7)
  obtain ⟨D7, k7, rfl⟩ := own_form o7
  have B7 := Lib.hid (B6.out.trans (hb7.mono B6.out.size))
  have x1_7 := Lib.hid (x1_6.out.below hb7)
  have x1F_7 := Lib.hid (x1F_6.out.below hb7)
  have hz7 : (w6).heap.size ≤ w7.heap.size := hb7.size
  clear hb7 o7
  go_wp2_with fail
  refine (eqIntS_same _ _ l1 _ x1_7.out S7.out).mono ?_
  rintro e w8 ⟨rfl, hb8⟩
  have B8 := Lib.hid (B7.out.trans (hb8.mono B7.out.size))
  have x1_8 := Lib.hid (x1_7.out.below hb8)
  have x1F_8 := Lib.hid (x1F_7.out.below hb8)
  have hz8 : (w7).heap.size ≤ w8.heap.size := hb8.size
  clear hb8
  -- return true
  go_wp2
  go_ret
  exact ⟨rfl, BW.out.trans (B8.out.mono hs0)⟩

set_option maxRecDepth 100000 in
theorem lifted (os : Os) (started : os.Started) (H : Type) (enc : TypeId × Value → H) :
    ReturnsInHanded {} Try.checked os 10 .any (Rows.fnExactLeastLockingsSpec.pre6 enc Try.prog Try.f10 Rows.fnExactLeastLockingsRow.domain false) (Rows.fnExactLeastLockingsSpec.post enc Try.prog Try.f10 false true false false) := by
  refine returnsInHanded_of_change (C := Try.checked) own started (by kernel_rfl) Try.func10
    (ChangeSpec.witness6 (enc := enc) (C := Try.checked) false ⟨#[], #[.agg #[.int .i64 0, .int .i64 0, .int .i64 0], .slice none 0 0], []⟩ 8 (by kernel_rfl) (by kernel_rfl) (by kernel_rfl) (by kernel_rfl)) ?_
  intro W base args ds gs before hval0 hW _ _
  have hval : ∀ (j : Nat) t v, Try.f10.params[j]? = some t → args[j]? = some v → Value.okWide Try.prog W .any base t v := hval0
  have hW' := hW
  obtain ⟨p, q, hA0, hV, rfl, _, _⟩ := hW
  have hA : DataW.TrodAll enc Try.prog W 0 (fun _ => true) true Try.f10.params.toList args.toList ds p := hA0
  rw [Try.params10] at hA hval
  obtain ⟨v0, vs0, d0, ds0, p0, q0, hargs, rfl, rfl, h0, r0⟩ := trodAll_cons hA
  obtain ⟨v1, vs1, d1, ds1, p1, q1, rfl, rfl, rfl, h1, r1⟩ := trodAll_cons r0
  obtain ⟨rfl, rfl, rfl⟩ := trodAll_nil r1
  obtain rfl : args = #[v0, v1] := by cases args; simp_all
  obtain ⟨d0', rfl, g0⟩ := open_chamber_arg (hval 0 37 v0 rfl rfl) h0
  obtain ⟨A1, c1, l1, rfl, g1⟩ := open_ints_arg (hval 1 25 v1 rfl rfl) h1
  refine (law d0' A1 c1 l1 W g0 g1).mono fun e W' ⟨he, hb⟩ => ⟨_, he, ?_⟩
  exact law_post laidOut (by kernel_rfl) rfl (by kernel_rfl) Try.underlying4 rfl rfl rfl hW' hb

theorem holds : Rows.FnExactLeastLockingsSaid :=
  OpenClaim.holds_of_wide 10 Try.f10 rfl rfl rfl rfl rfl rfl rfl ⟨rfl, rfl, rfl, rfl, rfl⟩ rfl rfl rfl rfl rfl (by kernel_rfl) Try.func10 (by kernel_rfl)
    (of_decide_eq_true (by kernel_rfl)) (by unfold Func.isWrapper; first | (rw [if_pos (by decide +kernel)]; kernel_rfl) | (rw [if_neg (by decide +kernel)]; exact ⟨rfl, rfl⟩))
    (fun os started H enc _ => lifted os started H enc)

end Go.Proofs.Ytphagahhhfiiaaa.exactLeastLockings
