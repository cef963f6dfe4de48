
/- The exact law of NeedOf holds for all arguments: impl.NeedOf answers as its model, and the arguments read as before. No condition. -/
import Derived.Test.YtpimcbhjkednpaaRows
import Derived.Test.YtpimcbhjkednpaaNl0
import Derived.Test.YtpimcbhjkednpaaNl11
import Derived.Test.YtpimcbhjkednpaaNl12
import Derived.Deep.RegionHeld3
import Derived.Deep.DeepCutAuto
namespace Go.Proofs.Ytpimcbhjkednpaa.exactNeedOf
open Go.ChangeShapes Go.WideShapes Go.ChangeAt Go.RowKit
set_option maxRecDepth 100000
theorem own : ownKnob Try.prog.godebug = none := by kernel_rfl
theorem laidOut : laidOutB Try.prog = true := by kernel_rfl
set_option maxHeartbeats 16000000 in
theorem law (d0 : ShipD) (w : World) (hin0 : d0.wf) :
    Calls Try.prog 5 #[.agg #[.string d0.name, .int .i64 d0.length, .int .i64 d0.draught, .int .i64 d0.line, .int .i64 d0.tugs, .bool d0.slow]] w fun e w' => e = .returned (.bool true) ∧ Below w.heap.size w w' := by
  have HB0 : Below w.heap.size w (w.alloc (.cells #[.string d0.name, .int .i64 d0.length, .int .i64 d0.draught, .int .i64 d0.line, .int .i64 d0.tugs, .bool d0.slow] 55)) := by
    repeat (first | exact Below.refl _ _ | refine Below.alloc ?_ (by simp <;> omega) _)
  have BW := Lib.hid HB0
  clear HB0
  go_enter Try.func5, Try.ntmps5
  have B0 := Lib.hid (Below.refl ((w.alloc (.cells #[.string d0.name, .int .i64 d0.length, .int .i64 d0.draught, .int .i64 d0.line, .int .i64 d0.tugs, .bool d0.slow] 55))).heap.size (w.alloc (.cells #[.string d0.name, .int .i64 d0.length, .int .i64 d0.draught, .int .i64 d0.line, .int .i64 d0.tugs, .bool d0.slow] 55)))
  have hs0 : w.heap.size ≤ ((w.alloc (.cells #[.string d0.name, .int .i64 d0.length, .int .i64 d0.draught, .int .i64 d0.line, .int .i64 d0.tugs, .bool d0.slow] 55))).heap.size := BW.out.size
  have ABX0 := Lib.hid (show ((w.alloc (.cells #[.string d0.name, .int .i64 d0.length, .int .i64 d0.draught, .int .i64 d0.line, .int .i64 d0.tugs, .bool d0.slow] 55))).cell? ⟨w.heap.size, 0, none⟩ = some (.string d0.name) ∧ ((w.alloc (.cells #[.string d0.name, .int .i64 d0.length, .int .i64 d0.draught, .int .i64 d0.line, .int .i64 d0.tugs, .bool d0.slow] 55))).cell? ⟨w.heap.size, 1, none⟩ = some (.int .i64 d0.length) ∧ ((w.alloc (.cells #[.string d0.name, .int .i64 d0.length, .int .i64 d0.draught, .int .i64 d0.line, .int .i64 d0.tugs, .bool d0.slow] 55))).cell? ⟨w.heap.size, 2, none⟩ = some (.int .i64 d0.draught) ∧ ((w.alloc (.cells #[.string d0.name, .int .i64 d0.length, .int .i64 d0.draught, .int .i64 d0.line, .int .i64 d0.tugs, .bool d0.slow] 55))).cell? ⟨w.heap.size, 3, none⟩ = some (.int .i64 d0.line) ∧ ((w.alloc (.cells #[.string d0.name, .int .i64 d0.length, .int .i64 d0.draught, .int .i64 d0.line, .int .i64 d0.tugs, .bool d0.slow] 55))).cell? ⟨w.heap.size, 4, none⟩ = some (.int .i64 d0.tugs) ∧ ((w.alloc (.cells #[.string d0.name, .int .i64 d0.length, .int .i64 d0.draught, .int .i64 d0.line, .int .i64 d0.tugs, .bool d0.slow] 55))).cell? ⟨w.heap.size, 5, none⟩ = some (.bool d0.slow) from by
    have hBk0 : Blk (w.alloc (.cells #[.string d0.name, .int .i64 d0.length, .int .i64 d0.draught, .int .i64 d0.line, .int .i64 d0.tugs, .bool d0.slow] 55)) (w.heap.size) #[.string d0.name, .int .i64 d0.length, .int .i64 d0.draught, .int .i64 d0.line, .int .i64 d0.tugs, .bool d0.slow] 55 := Blk.newAt (w := w) (by first | rfl | simp) _ _
    have hBk : Blk (w.alloc (.cells #[.string d0.name, .int .i64 d0.length, .int .i64 d0.draught, .int .i64 d0.line, .int .i64 d0.tugs, .bool d0.slow] 55)) (w.heap.size) #[.string d0.name, .int .i64 d0.length, .int .i64 d0.draught, .int .i64 d0.line, .int .i64 d0.tugs, .bool d0.slow] 55 := hBk0.below (by repeat (first | exact Below.refl _ _ | refine Below.alloc ?_ (by simp) _))
    exact ⟨hBk.cell 0, hBk.cell 1, hBk.cell 2, hBk.cell 3, hBk.cell 4, hBk.cell 5⟩)
  obtain ⟨r0, hr0⟩ : ∃ r0, (needI d0) = r0 := ⟨_, rfl⟩
  have HR0 := Lib.hid hr0
  clear hr0
  -- left := 1 << 20
  -- left = szShip(aS, left)
  have y0_0 : ((w.alloc (.cells #[.string d0.name, .int .i64 d0.length, .int .i64 d0.draught, .int .i64 d0.line, .int .i64 d0.tugs, .bool d0.slow] 55))).cell? ⟨w.heap.size, 0, none⟩ = some (.string d0.name) := cell_onV (ABX0.out.1) B0.out
  have y0_1 : ((w.alloc (.cells #[.string d0.name, .int .i64 d0.length, .int .i64 d0.draught, .int .i64 d0.line, .int .i64 d0.tugs, .bool d0.slow] 55))).cell? ⟨w.heap.size, 1, none⟩ = some (.int .i64 d0.length) := cell_onV (ABX0.out.2.1) B0.out
  have y0_2 : ((w.alloc (.cells #[.string d0.name, .int .i64 d0.length, .int .i64 d0.draught, .int .i64 d0.line, .int .i64 d0.tugs, .bool d0.slow] 55))).cell? ⟨w.heap.size, 2, none⟩ = some (.int .i64 d0.draught) := cell_onV (ABX0.out.2.2.1) B0.out
  have y0_3 : ((w.alloc (.cells #[.string d0.name, .int .i64 d0.length, .int .i64 d0.draught, .int .i64 d0.line, .int .i64 d0.tugs, .bool d0.slow] 55))).cell? ⟨w.heap.size, 3, none⟩ = some (.int .i64 d0.line) := cell_onV (ABX0.out.2.2.2.1) B0.out
  have y0_4 : ((w.alloc (.cells #[.string d0.name, .int .i64 d0.length, .int .i64 d0.draught, .int .i64 d0.line, .int .i64 d0.tugs, .bool d0.slow] 55))).cell? ⟨w.heap.size, 4, none⟩ = some (.int .i64 d0.tugs) := cell_onV (ABX0.out.2.2.2.2.1) B0.out
  have y0_5 : ((w.alloc (.cells #[.string d0.name, .int .i64 d0.length, .int .i64 d0.draught, .int .i64 d0.line, .int .i64 d0.tugs, .bool d0.slow] 55))).cell? ⟨w.heap.size, 5, none⟩ = some (.bool d0.slow) := cell_onV (ABX0.out.2.2.2.2.2) B0.out
  have hl1 : 0 ≤ (1048576 : Int) := by omega
  have hll1 : (1048576 : Int) ≤ 1048576 := by omega
  go_wp2_with fail
  refine (szShip_any d0.name d0.length d0.draught d0.line d0.tugs d0.slow (1048576) _ hl1 hll1 (wfszShip hin0)).mono ?_
  rintro e w1 ⟨rfl, hb1⟩
  have B1 := Lib.hid (B0.out.trans (hb1.mono B0.out.size))
  have hz1 : ((w.alloc (.cells #[.string d0.name, .int .i64 d0.length, .int .i64 d0.draught, .int .i64 d0.line, .int .i64 d0.tugs, .bool d0.slow] 55))).heap.size ≤ w1.heap.size := hb1.size
  clear hb1 y0_0 y0_1 y0_2 y0_3 y0_4 y0_5
  have ps1 := oneShip_pos ⟨d0.name, d0.length, d0.draught, d0.line, d0.tugs, d0.slow⟩
  by_cases neg1 : (1048576 : Int) < oneShip ⟨d0.name, d0.length, d0.draught, d0.line, d0.tugs, d0.slow⟩
  · rw [leftOf_no neg1]
    go_wp2
    go_ret
    exact ⟨rfl, BW.out.trans (B1.out.mono hs0)⟩
  rw [leftOf_yes neg1]
  have ne1 : ¬ (1048576 - oneShip ⟨d0.name, d0.length, d0.draught, d0.line, d0.tugs, d0.slow⟩ : Int) < 0 := by omega
  -- w0 := spec.NeedOf(toShip(aS))
  have y0_0 : (w1).cell? ⟨w.heap.size, 0, none⟩ = some (.string d0.name) := cell_onV (ABX0.out.1) B1.out
  have y0_1 : (w1).cell? ⟨w.heap.size, 1, none⟩ = some (.int .i64 d0.length) := cell_onV (ABX0.out.2.1) B1.out
  have y0_2 : (w1).cell? ⟨w.heap.size, 2, none⟩ = some (.int .i64 d0.draught) := cell_onV (ABX0.out.2.2.1) B1.out
  have y0_3 : (w1).cell? ⟨w.heap.size, 3, none⟩ = some (.int .i64 d0.line) := cell_onV (ABX0.out.2.2.2.1) B1.out
  have y0_4 : (w1).cell? ⟨w.heap.size, 4, none⟩ = some (.int .i64 d0.tugs) := cell_onV (ABX0.out.2.2.2.2.1) B1.out
  have y0_5 : (w1).cell? ⟨w.heap.size, 5, none⟩ = some (.bool d0.slow) := cell_onV (ABX0.out.2.2.2.2.2) B1.out
  go_wp2_with fail
  refine (toShip_any d0.name d0.length d0.draught d0.line d0.tugs d0.slow _).mono ?_
  rintro e w2 ⟨rfl, hb2⟩
  have B2 := Lib.hid (B1.out.trans (hb2.mono B1.out.size))
  have hz2 : (w1).heap.size ≤ w2.heap.size := hb2.size
  clear hb2 y0_0 y0_1 y0_2 y0_3 y0_4 y0_5
  go_wp2_with fail
  refine (specNeedOf d0 _  hin0).mono ?_
  rw [HR0.out]
  rintro e w3 ⟨rfl, hb3⟩
  have B3 := Lib.hid (B2.out.trans (hb3.mono B2.out.size))
  have hz3 : (w2).heap.size ≤ w3.heap.size := hb3.size
  clear hb3 
  -- g0 := impl.NeedOf(toShip(aS))
  have y0_0 : (w3).cell? ⟨w.heap.size, 0, none⟩ = some (.string d0.name) := cell_onV (ABX0.out.1) B3.out
  have y0_1 : (w3).cell? ⟨w.heap.size, 1, none⟩ = some (.int .i64 d0.length) := cell_onV (ABX0.out.2.1) B3.out
  have y0_2 : (w3).cell? ⟨w.heap.size, 2, none⟩ = some (.int .i64 d0.draught) := cell_onV (ABX0.out.2.2.1) B3.out
  have y0_3 : (w3).cell? ⟨w.heap.size, 3, none⟩ = some (.int .i64 d0.line) := cell_onV (ABX0.out.2.2.2.1) B3.out
  have y0_4 : (w3).cell? ⟨w.heap.size, 4, none⟩ = some (.int .i64 d0.tugs) := cell_onV (ABX0.out.2.2.2.2.1) B3.out
  have y0_5 : (w3).cell? ⟨w.heap.size, 5, none⟩ = some (.bool d0.slow) := cell_onV (ABX0.out.2.2.2.2.2) B3.out
  go_wp2_with fail
  refine (toShip_any d0.name d0.length d0.draught d0.line d0.tugs d0.slow _).mono ?_
  rintro e w4 ⟨rfl, hb4⟩
  have B4 := Lib.hid (B3.out.trans (hb4.mono B3.out.size))
  have hz4 : (w3).heap.size ≤ w4.heap.size := hb4.size
  clear hb4 y0_0 y0_1 y0_2 y0_3 y0_4 y0_5
  go_wp2_with fail
  refine (implNeedOf d0 _  hin0).mono ?_
  rw [HR0.out]
  rintro e w5 ⟨rfl, hb5⟩
  have B5 := Lib.hid (B4.out.trans (hb5.mono B4.out.size))
  have hz5 : (w4).heap.size ≤ w5.heap.size := hb5.size
  clear hb5 
  -- if g0 != w0 {
  -- return true
  go_wp2
  go_ret
  exact ⟨rfl, BW.out.trans (B5.out.mono hs0)⟩
set_option maxRecDepth 100000 in
theorem lifted (os : Os) (started : os.Started) (H : Type) (enc : TypeId × Value → H) :
    ReturnsInHanded {} Try.checked os 5 .any (Rows.fnExactNeedOfSpec.pre6 enc Try.prog Try.f5 Rows.fnExactNeedOfRow.domain false) (Rows.fnExactNeedOfSpec.post enc Try.prog Try.f5 false true false false) := by
  refine returnsInHanded_of_change (C := Try.checked) own started (by kernel_rfl) Try.func5
    (ChangeSpec.witness6 (enc := enc) (C := Try.checked) false ⟨#[], #[.agg #[.string ⟨#[]⟩, .int .i64 0, .int .i64 0, .int .i64 0, .int .i64 0, .bool false]], []⟩ 8 (by kernel_rfl) (by kernel_rfl) (by kernel_rfl) (by kernel_rfl)) ?_
  intro W base args ds gs before hval0 hW _ _
  have hval : ∀ (j : Nat) t v, Try.f5.params[j]? = some t → args[j]? = some v → Value.okWide Try.prog W .any base t v := hval0
  have hW' := hW
  obtain ⟨p, q, hA0, hV, rfl, _, _⟩ := hW
  have hA : DataW.TrodAll enc Try.prog W 0 (fun _ => true) true Try.f5.params.toList args.toList ds p := hA0
  rw [Try.params5] at hA hval
  obtain ⟨v0, vs0, d0, ds0, p0, q0, hargs, rfl, rfl, h0, r0⟩ := trodAll_cons hA
  obtain ⟨rfl, rfl, rfl⟩ := trodAll_nil r0
  obtain rfl : args = #[v0] := by cases args; simp_all
  obtain ⟨d0', rfl, g0⟩ := open_ship_arg (hval 0 55 v0 rfl rfl) h0
  refine (law d0' W g0).mono fun e W' ⟨he, hb⟩ => ⟨_, he, ?_⟩
  exact law_post laidOut (by kernel_rfl) rfl (by kernel_rfl) Try.underlying4 rfl rfl rfl hW' hb
theorem holds : Rows.FnExactNeedOfSaid :=
  OpenClaim.holds_of_wide 5 Try.f5 rfl rfl rfl rfl rfl rfl rfl ⟨rfl, rfl, rfl, rfl, rfl⟩ rfl rfl rfl rfl rfl (by kernel_rfl) Try.func5 (by kernel_rfl)
    (of_decide_eq_true (by kernel_rfl)) (by unfold Func.isWrapper; first | (rw [if_pos (by decide +kernel)]; kernel_rfl) | (rw [if_neg (by decide +kernel)]; exact ⟨rfl, rfl⟩))
    (fun os started H enc _ => lifted os started H enc)
end Go.Proofs.Ytpimcbhjkednpaa.exactNeedOf
