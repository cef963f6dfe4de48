
/- The exact law of ChamberOk holds for all arguments: impl.ChamberOk answers as its model, and the arguments read as before. No condition. -/
import Derived.Test.YtphagahhhfiiaaaRows
import Derived.Test.YtphagahhhfiiaaaKit
import Derived.Test.YtphagahhhfiiaaaPackSpec0
import Derived.Test.YtphagahhhfiiaaaLockImpl0
import Derived.Deep.RegionHeld3
import Derived.Deep.DeepCutAuto
namespace Go.Proofs.Ytphagahhhfiiaaa.exactChamberOk
open Go.ChangeShapes Go.WideShapes Go.ChangeAt Go.RowKit
set_option maxRecDepth 100000

theorem own : ownKnob Try.prog.godebug = none := by kernel_rfl
theorem laidOut : laidOutB Try.prog = true := by kernel_rfl

set_option maxHeartbeats 16000000 in
theorem law (d0 : ChamberD) (w : World) (_ : d0.wf) :
    Calls Try.prog 4 #[.agg #[.int .i64 d0.length, .int .i64 d0.lanes, .int .i64 d0.minutes]] w fun e w' => e = .returned (.bool true) ∧ Below w.heap.size w w' := by
  have HB0 : Below w.heap.size w (w.alloc (.cells #[.int .i64 d0.length, .int .i64 d0.lanes, .int .i64 d0.minutes] 37)) := by
    repeat (first | exact Below.refl _ _ | refine Below.alloc ?_ (by simp <;> omega) _)
  have BW := Lib.hid HB0
  clear HB0
  go_enter Try.func4, Try.ntmps4
  have B0 := Lib.hid (Below.refl ((w.alloc (.cells #[.int .i64 d0.length, .int .i64 d0.lanes, .int .i64 d0.minutes] 37))).heap.size (w.alloc (.cells #[.int .i64 d0.length, .int .i64 d0.lanes, .int .i64 d0.minutes] 37)))
  have hs0 : w.heap.size ≤ ((w.alloc (.cells #[.int .i64 d0.length, .int .i64 d0.lanes, .int .i64 d0.minutes] 37))).heap.size := BW.out.size
  have ABX0 := Lib.hid (show ((w.alloc (.cells #[.int .i64 d0.length, .int .i64 d0.lanes, .int .i64 d0.minutes] 37))).cell? ⟨w.heap.size, 0, none⟩ = some (.int .i64 d0.length) ∧ ((w.alloc (.cells #[.int .i64 d0.length, .int .i64 d0.lanes, .int .i64 d0.minutes] 37))).cell? ⟨w.heap.size, 1, none⟩ = some (.int .i64 d0.lanes) ∧ ((w.alloc (.cells #[.int .i64 d0.length, .int .i64 d0.lanes, .int .i64 d0.minutes] 37))).cell? ⟨w.heap.size, 2, none⟩ = some (.int .i64 d0.minutes) from by
    have hBk0 : Blk (w.alloc (.cells #[.int .i64 d0.length, .int .i64 d0.lanes, .int .i64 d0.minutes] 37)) (w.heap.size) #[.int .i64 d0.length, .int .i64 d0.lanes, .int .i64 d0.minutes] 37 := Blk.newAt (w := w) (by first | rfl | simp) _ _
    have hBk : Blk (w.alloc (.cells #[.int .i64 d0.length, .int .i64 d0.lanes, .int .i64 d0.minutes] 37)) (w.heap.size) #[.int .i64 d0.length, .int .i64 d0.lanes, .int .i64 d0.minutes] 37 := hBk0.below (by repeat (first | exact Below.refl _ _ | refine Below.alloc ?_ (by simp) _))
    exact ⟨hBk.cell 0, hBk.cell 1, hBk.cell 2⟩)
  obtain ⟨r0, hr0⟩ : ∃ r0, (chamB d0) = r0 := ⟨_, rfl⟩
  have HR0 := Lib.hid hr0
  clear hr0
  -- w0 := spec.ChamberOk(toChamber(aK))
  have y0_0 : ((w.alloc (.cells #[.int .i64 d0.length, .int .i64 d0.lanes, .int .i64 d0.minutes] 37))).cell? ⟨w.heap.size, 0, none⟩ = some (.int .i64 d0.length) := cell_onV (ABX0.out.1) B0.out
  have y0_1 : ((w.alloc (.cells #[.int .i64 d0.length, .int .i64 d0.lanes, .int .i64 d0.minutes] 37))).cell? ⟨w.heap.size, 1, none⟩ = some (.int .i64 d0.lanes) := cell_onV (ABX0.out.2.1) B0.out
  have y0_2 : ((w.alloc (.cells #[.int .i64 d0.length, .int .i64 d0.lanes, .int .i64 d0.minutes] 37))).cell? ⟨w.heap.size, 2, none⟩ = some (.int .i64 d0.minutes) := cell_onV (ABX0.out.2.2) B0.out
  go_wp2_with fail
  refine (toChamber_any d0.length d0.lanes d0.minutes _).mono ?_
  rintro e w1 ⟨rfl, hb1⟩
  have B1 := Lib.hid (B0.out.trans (hb1.mono B0.out.size))
  have hz1 : ((w.alloc (.cells #[.int .i64 d0.length, .int .i64 d0.lanes, .int .i64 d0.minutes] 37))).heap.size ≤ w1.heap.size := hb1.size
  clear hb1 y0_0 y0_1 y0_2
  go_wp2_with fail
  refine (specChamberOk d0 _  ).mono ?_
  rw [HR0.out]
  rintro e w2 ⟨rfl, hb2⟩
  have B2 := Lib.hid (B1.out.trans (hb2.mono B1.out.size))
  have hz2 : (w1).heap.size ≤ w2.heap.size := hb2.size
  clear hb2 
  -- g0 := impl.ChamberOk(toChamber(aK))
  have y0_0 : (w2).cell? ⟨w.heap.size, 0, none⟩ = some (.int .i64 d0.length) := cell_onV (ABX0.out.1) B2.out
  have y0_1 : (w2).cell? ⟨w.heap.size, 1, none⟩ = some (.int .i64 d0.lanes) := cell_onV (ABX0.out.2.1) B2.out
  have y0_2 : (w2).cell? ⟨w.heap.size, 2, none⟩ = some (.int .i64 d0.minutes) := cell_onV (ABX0.out.2.2) B2.out
  go_wp2_with fail
  refine (toChamber_any d0.length d0.lanes d0.minutes _).mono ?_
  rintro e w3 ⟨rfl, hb3⟩
  have B3 := Lib.hid (B2.out.trans (hb3.mono B2.out.size))
  have hz3 : (w2).heap.size ≤ w3.heap.size := hb3.size
  clear hb3 y0_0 y0_1 y0_2
  go_wp2_with fail
  refine (implChamberOk d0 _  ).mono ?_
  rw [HR0.out]
  rintro e w4 ⟨rfl, hb4⟩
  have B4 := Lib.hid (B3.out.trans (hb4.mono B3.out.size))
  have hz4 : (w3).heap.size ≤ w4.heap.size := hb4.size
  clear hb4 
  -- if g0 != w0 {
  -- return true
  go_wp2
  go_ret
  exact ⟨rfl, BW.out.trans (B4.out.mono hs0)⟩

set_option maxRecDepth 100000 in
theorem lifted (os : Os) (started : os.Started) (H : Type) (enc : TypeId × Value → H) :
    ReturnsInHanded {} Try.checked os 4 .any (Rows.fnExactChamberOkSpec.pre6 enc Try.prog Try.f4 Rows.fnExactChamberOkRow.domain false) (Rows.fnExactChamberOkSpec.post enc Try.prog Try.f4 false true false false) := by
  refine returnsInHanded_of_change (C := Try.checked) own started (by kernel_rfl) Try.func4
    (ChangeSpec.witness6 (enc := enc) (C := Try.checked) false ⟨#[], #[.agg #[.int .i64 0, .int .i64 0, .int .i64 0]], []⟩ 8 (by kernel_rfl) (by kernel_rfl) (by kernel_rfl) (by kernel_rfl)) ?_
  intro W base args ds gs before hval0 hW _ _
  have hval : ∀ (j : Nat) t v, Try.f4.params[j]? = some t → args[j]? = some v → Value.okWide Try.prog W .any base t v := hval0
  have hW' := hW
  obtain ⟨p, q, hA0, hV, rfl, _, _⟩ := hW
  have hA : DataW.TrodAll enc Try.prog W 0 (fun _ => true) true Try.f4.params.toList args.toList ds p := hA0
  rw [Try.params4] at hA hval
  obtain ⟨v0, vs0, d0, ds0, p0, q0, hargs, rfl, rfl, h0, r0⟩ := trodAll_cons hA
  obtain ⟨rfl, rfl, rfl⟩ := trodAll_nil r0
  obtain rfl : args = #[v0] := by cases args; simp_all
  obtain ⟨d0', rfl, g0⟩ := open_chamber_arg (hval 0 37 v0 rfl rfl) h0
  refine (law d0' W g0).mono fun e W' ⟨he, hb⟩ => ⟨_, he, ?_⟩
  exact law_post laidOut (by kernel_rfl) rfl (by kernel_rfl) Try.underlying4 rfl rfl rfl hW' hb

theorem holds : Rows.FnExactChamberOkSaid :=
  OpenClaim.holds_of_wide 4 Try.f4 rfl rfl rfl rfl rfl rfl rfl ⟨rfl, rfl, rfl, rfl, rfl⟩ rfl rfl rfl rfl rfl (by kernel_rfl) Try.func4 (by kernel_rfl)
    (of_decide_eq_true (by kernel_rfl)) (by unfold Func.isWrapper; first | (rw [if_pos (by decide +kernel)]; kernel_rfl) | (rw [if_neg (by decide +kernel)]; exact ⟨rfl, rfl⟩))
    (fun os started H enc _ => lifted os started H enc)

end Go.Proofs.Ytphagahhhfiiaaa.exactChamberOk
