
/- The exact law of Overlaps holds for all arguments: impl.Overlaps answers as its model, and the arguments read as before. No condition. -/
import Derived.Test.YtpglaffmmddcdaaRows
import Derived.Test.YtpglaffmmddcdaaKit
import Derived.Test.YtpglaffmmddcdaaRuleImpl0
import Derived.Deep.RegionHeld3
import Derived.Deep.DeepCutAuto
namespace Go.Proofs.Ytpglaffmmddcdaa.exactOverlaps
open Go.ChangeShapes Go.WideShapes Go.ChangeAt Go.RowKit
set_option maxRecDepth 100000

theorem own : ownKnob Try.prog.godebug = none := by kernel_rfl
theorem laidOut : laidOutB Try.prog = true := by kernel_rfl

set_option maxHeartbeats 16000000 in
theorem law (d0 : PassageD) (d1 : PassageD) (w : World) (_ : d0.wf) (_ : d1.wf) :
    Calls Try.prog 5 #[.agg #[.int .i64 d0.ship, .int .i64 d0.segment, .bool d0.toward, .int .i64 d0.start, .int .i64 d0.stop], .agg #[.int .i64 d1.ship, .int .i64 d1.segment, .bool d1.toward, .int .i64 d1.start, .int .i64 d1.stop]] w fun e w' => e = .returned (.bool true) ∧ Below w.heap.size w w' := by
  have HB0 : Below w.heap.size w ((w.alloc (.cells #[.int .i64 d0.ship, .int .i64 d0.segment, .bool d0.toward, .int .i64 d0.start, .int .i64 d0.stop] 48)).alloc (.cells #[.int .i64 d1.ship, .int .i64 d1.segment, .bool d1.toward, .int .i64 d1.start, .int .i64 d1.stop] 48)) := by
    repeat (first | exact Below.refl _ _ | refine Below.alloc ?_ (by simp <;> omega) _)
  have BW := Lib.hid HB0
  clear HB0
  go_enter Try.func5, Try.ntmps5
  have B0 := Lib.hid (Below.refl (((w.alloc (.cells #[.int .i64 d0.ship, .int .i64 d0.segment, .bool d0.toward, .int .i64 d0.start, .int .i64 d0.stop] 48)).alloc (.cells #[.int .i64 d1.ship, .int .i64 d1.segment, .bool d1.toward, .int .i64 d1.start, .int .i64 d1.stop] 48))).heap.size ((w.alloc (.cells #[.int .i64 d0.ship, .int .i64 d0.segment, .bool d0.toward, .int .i64 d0.start, .int .i64 d0.stop] 48)).alloc (.cells #[.int .i64 d1.ship, .int .i64 d1.segment, .bool d1.toward, .int .i64 d1.start, .int .i64 d1.stop] 48)))
  have hs0 : w.heap.size ≤ (((w.alloc (.cells #[.int .i64 d0.ship, .int .i64 d0.segment, .bool d0.toward, .int .i64 d0.start, .int .i64 d0.stop] 48)).alloc (.cells #[.int .i64 d1.ship, .int .i64 d1.segment, .bool d1.toward, .int .i64 d1.start, .int .i64 d1.stop] 48))).heap.size := BW.out.size
  have ABX0 := Lib.hid (show (((w.alloc (.cells #[.int .i64 d0.ship, .int .i64 d0.segment, .bool d0.toward, .int .i64 d0.start, .int .i64 d0.stop] 48)).alloc (.cells #[.int .i64 d1.ship, .int .i64 d1.segment, .bool d1.toward, .int .i64 d1.start, .int .i64 d1.stop] 48))).cell? ⟨w.heap.size, 0, none⟩ = some (.int .i64 d0.ship) ∧ (((w.alloc (.cells #[.int .i64 d0.ship, .int .i64 d0.segment, .bool d0.toward, .int .i64 d0.start, .int .i64 d0.stop] 48)).alloc (.cells #[.int .i64 d1.ship, .int .i64 d1.segment, .bool d1.toward, .int .i64 d1.start, .int .i64 d1.stop] 48))).cell? ⟨w.heap.size, 1, none⟩ = some (.int .i64 d0.segment) ∧ (((w.alloc (.cells #[.int .i64 d0.ship, .int .i64 d0.segment, .bool d0.toward, .int .i64 d0.start, .int .i64 d0.stop] 48)).alloc (.cells #[.int .i64 d1.ship, .int .i64 d1.segment, .bool d1.toward, .int .i64 d1.start, .int .i64 d1.stop] 48))).cell? ⟨w.heap.size, 2, none⟩ = some (.bool d0.toward) ∧ (((w.alloc (.cells #[.int .i64 d0.ship, .int .i64 d0.segment, .bool d0.toward, .int .i64 d0.start, .int .i64 d0.stop] 48)).alloc (.cells #[.int .i64 d1.ship, .int .i64 d1.segment, .bool d1.toward, .int .i64 d1.start, .int .i64 d1.stop] 48))).cell? ⟨w.heap.size, 3, none⟩ = some (.int .i64 d0.start) ∧ (((w.alloc (.cells #[.int .i64 d0.ship, .int .i64 d0.segment, .bool d0.toward, .int .i64 d0.start, .int .i64 d0.stop] 48)).alloc (.cells #[.int .i64 d1.ship, .int .i64 d1.segment, .bool d1.toward, .int .i64 d1.start, .int .i64 d1.stop] 48))).cell? ⟨w.heap.size, 4, none⟩ = some (.int .i64 d0.stop) from by
    have hBk0 : Blk (w.alloc (.cells #[.int .i64 d0.ship, .int .i64 d0.segment, .bool d0.toward, .int .i64 d0.start, .int .i64 d0.stop] 48)) (w.heap.size) #[.int .i64 d0.ship, .int .i64 d0.segment, .bool d0.toward, .int .i64 d0.start, .int .i64 d0.stop] 48 := Blk.newAt (w := w) (by first | rfl | simp) _ _
    have hBk : Blk ((w.alloc (.cells #[.int .i64 d0.ship, .int .i64 d0.segment, .bool d0.toward, .int .i64 d0.start, .int .i64 d0.stop] 48)).alloc (.cells #[.int .i64 d1.ship, .int .i64 d1.segment, .bool d1.toward, .int .i64 d1.start, .int .i64 d1.stop] 48)) (w.heap.size) #[.int .i64 d0.ship, .int .i64 d0.segment, .bool d0.toward, .int .i64 d0.start, .int .i64 d0.stop] 48 := hBk0.below (by repeat (first | exact Below.refl _ _ | refine Below.alloc ?_ (by simp) _))
    exact ⟨hBk.cell 0, hBk.cell 1, hBk.cell 2, hBk.cell 3, hBk.cell 4⟩)
  have ABX1 := Lib.hid (show (((w.alloc (.cells #[.int .i64 d0.ship, .int .i64 d0.segment, .bool d0.toward, .int .i64 d0.start, .int .i64 d0.stop] 48)).alloc (.cells #[.int .i64 d1.ship, .int .i64 d1.segment, .bool d1.toward, .int .i64 d1.start, .int .i64 d1.stop] 48))).cell? ⟨w.heap.size + 1, 0, none⟩ = some (.int .i64 d1.ship) ∧ (((w.alloc (.cells #[.int .i64 d0.ship, .int .i64 d0.segment, .bool d0.toward, .int .i64 d0.start, .int .i64 d0.stop] 48)).alloc (.cells #[.int .i64 d1.ship, .int .i64 d1.segment, .bool d1.toward, .int .i64 d1.start, .int .i64 d1.stop] 48))).cell? ⟨w.heap.size + 1, 1, none⟩ = some (.int .i64 d1.segment) ∧ (((w.alloc (.cells #[.int .i64 d0.ship, .int .i64 d0.segment, .bool d0.toward, .int .i64 d0.start, .int .i64 d0.stop] 48)).alloc (.cells #[.int .i64 d1.ship, .int .i64 d1.segment, .bool d1.toward, .int .i64 d1.start, .int .i64 d1.stop] 48))).cell? ⟨w.heap.size + 1, 2, none⟩ = some (.bool d1.toward) ∧ (((w.alloc (.cells #[.int .i64 d0.ship, .int .i64 d0.segment, .bool d0.toward, .int .i64 d0.start, .int .i64 d0.stop] 48)).alloc (.cells #[.int .i64 d1.ship, .int .i64 d1.segment, .bool d1.toward, .int .i64 d1.start, .int .i64 d1.stop] 48))).cell? ⟨w.heap.size + 1, 3, none⟩ = some (.int .i64 d1.start) ∧ (((w.alloc (.cells #[.int .i64 d0.ship, .int .i64 d0.segment, .bool d0.toward, .int .i64 d0.start, .int .i64 d0.stop] 48)).alloc (.cells #[.int .i64 d1.ship, .int .i64 d1.segment, .bool d1.toward, .int .i64 d1.start, .int .i64 d1.stop] 48))).cell? ⟨w.heap.size + 1, 4, none⟩ = some (.int .i64 d1.stop) from by
    have hBk0 : Blk ((w.alloc (.cells #[.int .i64 d0.ship, .int .i64 d0.segment, .bool d0.toward, .int .i64 d0.start, .int .i64 d0.stop] 48)).alloc (.cells #[.int .i64 d1.ship, .int .i64 d1.segment, .bool d1.toward, .int .i64 d1.start, .int .i64 d1.stop] 48)) (w.heap.size + 1) #[.int .i64 d1.ship, .int .i64 d1.segment, .bool d1.toward, .int .i64 d1.start, .int .i64 d1.stop] 48 := Blk.newAt (w := (w.alloc (.cells #[.int .i64 d0.ship, .int .i64 d0.segment, .bool d0.toward, .int .i64 d0.start, .int .i64 d0.stop] 48))) (by first | rfl | simp) _ _
    have hBk : Blk ((w.alloc (.cells #[.int .i64 d0.ship, .int .i64 d0.segment, .bool d0.toward, .int .i64 d0.start, .int .i64 d0.stop] 48)).alloc (.cells #[.int .i64 d1.ship, .int .i64 d1.segment, .bool d1.toward, .int .i64 d1.start, .int .i64 d1.stop] 48)) (w.heap.size + 1) #[.int .i64 d1.ship, .int .i64 d1.segment, .bool d1.toward, .int .i64 d1.start, .int .i64 d1.stop] 48 := hBk0.below (by repeat (first | exact Below.refl _ _ | refine Below.alloc ?_ (by simp) _))
    exact ⟨hBk.cell 0, hBk.cell 1, hBk.cell 2, hBk.cell 3, hBk.cell 4⟩)
  obtain ⟨r0, hr0⟩ : ∃ r0, (overB d0 d1) = r0 := ⟨_, rfl⟩
  have HR0 := Lib.hid hr0
  clear hr0
  -- w0 := spec.Overlaps(toPassage(aP), toPassage(aQ))
  have y0_0 : (((w.alloc (.cells #[.int .i64 d0.ship, .int .i64 d0.segment, .bool d0.toward, .int .i64 d0.start, .int .i64 d0.stop] 48)).alloc (.cells #[.int .i64 d1.ship, .int .i64 d1.segment, .bool d1.toward, .int .i64 d1.start, .int .i64 d1.stop] 48))).cell? ⟨w.heap.size, 0, none⟩ = some (.int .i64 d0.ship) := cell_onV (ABX0.out.1) B0.out
  have y0_1 : (((w.alloc (.cells #[.int .i64 d0.ship, .int .i64 d0.segment, .bool d0.toward, .int .i64 d0.start, .int .i64 d0.stop] 48)).alloc (.cells #[.int .i64 d1.ship, .int .i64 d1.segment, .bool d1.toward, .int .i64 d1.start, .int .i64 d1.stop] 48))).cell? ⟨w.heap.size, 1, none⟩ = some (.int .i64 d0.segment) := cell_onV (ABX0.out.2.1) B0.out
  have y0_2 : (((w.alloc (.cells #[.int .i64 d0.ship, .int .i64 d0.segment, .bool d0.toward, .int .i64 d0.start, .int .i64 d0.stop] 48)).alloc (.cells #[.int .i64 d1.ship, .int .i64 d1.segment, .bool d1.toward, .int .i64 d1.start, .int .i64 d1.stop] 48))).cell? ⟨w.heap.size, 2, none⟩ = some (.bool d0.toward) := cell_onV (ABX0.out.2.2.1) B0.out
  have y0_3 : (((w.alloc (.cells #[.int .i64 d0.ship, .int .i64 d0.segment, .bool d0.toward, .int .i64 d0.start, .int .i64 d0.stop] 48)).alloc (.cells #[.int .i64 d1.ship, .int .i64 d1.segment, .bool d1.toward, .int .i64 d1.start, .int .i64 d1.stop] 48))).cell? ⟨w.heap.size, 3, none⟩ = some (.int .i64 d0.start) := cell_onV (ABX0.out.2.2.2.1) B0.out
  have y0_4 : (((w.alloc (.cells #[.int .i64 d0.ship, .int .i64 d0.segment, .bool d0.toward, .int .i64 d0.start, .int .i64 d0.stop] 48)).alloc (.cells #[.int .i64 d1.ship, .int .i64 d1.segment, .bool d1.toward, .int .i64 d1.start, .int .i64 d1.stop] 48))).cell? ⟨w.heap.size, 4, none⟩ = some (.int .i64 d0.stop) := cell_onV (ABX0.out.2.2.2.2) B0.out
  have y1_0 : (((w.alloc (.cells #[.int .i64 d0.ship, .int .i64 d0.segment, .bool d0.toward, .int .i64 d0.start, .int .i64 d0.stop] 48)).alloc (.cells #[.int .i64 d1.ship, .int .i64 d1.segment, .bool d1.toward, .int .i64 d1.start, .int .i64 d1.stop] 48))).cell? ⟨w.heap.size + 1, 0, none⟩ = some (.int .i64 d1.ship) := cell_onV (ABX1.out.1) B0.out
  have y1_1 : (((w.alloc (.cells #[.int .i64 d0.ship, .int .i64 d0.segment, .bool d0.toward, .int .i64 d0.start, .int .i64 d0.stop] 48)).alloc (.cells #[.int .i64 d1.ship, .int .i64 d1.segment, .bool d1.toward, .int .i64 d1.start, .int .i64 d1.stop] 48))).cell? ⟨w.heap.size + 1, 1, none⟩ = some (.int .i64 d1.segment) := cell_onV (ABX1.out.2.1) B0.out
  have y1_2 : (((w.alloc (.cells #[.int .i64 d0.ship, .int .i64 d0.segment, .bool d0.toward, .int .i64 d0.start, .int .i64 d0.stop] 48)).alloc (.cells #[.int .i64 d1.ship, .int .i64 d1.segment, .bool d1.toward, .int .i64 d1.start, .int .i64 d1.stop] 48))).cell? ⟨w.heap.size + 1, 2, none⟩ = some (.bool d1.toward) := cell_onV (ABX1.out.2.2.1) B0.out
  have y1_3 : (((w.alloc (.cells #[.int .i64 d0.ship, .int .i64 d0.segment, .bool d0.toward, .int .i64 d0.start, .int .i64 d0.stop] 48)).alloc (.cells #[.int .i64 d1.ship, .int .i64 d1.segment, .bool d1.toward, .int .i64 d1.start, .int .i64 d1.stop] 48))).cell? ⟨w.heap.size + 1, 3, none⟩ = some (.int .i64 d1.start) := cell_onV (ABX1.out.2.2.2.1) B0.out
  have y1_4 : (((w.alloc (.cells #[.int .i64 d0.ship, .int .i64 d0.segment, .bool d0.toward, .int .i64 d0.start, .int .i64 d0.stop] 48)).alloc (.cells #[.int .i64 d1.ship, .int .i64 d1.segment, .bool d1.toward, .int .i64 d1.start, .int .i64 d1.stop] 48))).cell? ⟨w.heap.size + 1, 4, none⟩ = some (.int .i64 d1.stop) := cell_onV (ABX1.out.2.2.2.2) B0.out
  have hDD := (Below.refl (((w.alloc (.cells #[.int .i64 d0.ship, .int .i64 d0.segment, .bool d0.toward, .int .i64 d0.start, .int .i64 d0.stop] 48)).alloc (.cells #[.int .i64 d1.ship, .int .i64 d1.segment, .bool d1.toward, .int .i64 d1.start, .int .i64 d1.stop] 48))).heap.size (((w.alloc (.cells #[.int .i64 d0.ship, .int .i64 d0.segment, .bool d0.toward, .int .i64 d0.start, .int .i64 d0.stop] 48)).alloc (.cells #[.int .i64 d1.ship, .int .i64 d1.segment, .bool d1.toward, .int .i64 d1.start, .int .i64 d1.stop] 48)))).drew
  simp only [World.size_alloc] at hDD
  have DD := Lib.hid hDD
  clear hDD
  go_upto_region 1 with fail
  go_cut [5] (fun sL wx => sL = .bool r0 ∧ Hid (Below (((w.alloc (.cells #[.int .i64 d0.ship, .int .i64 d0.segment, .bool d0.toward, .int .i64 d0.start, .int .i64 d0.stop] 48)).alloc (.cells #[.int .i64 d1.ship, .int .i64 d1.segment, .bool d1.toward, .int .i64 d1.start, .int .i64 d1.stop] 48))).heap.size (((w.alloc (.cells #[.int .i64 d0.ship, .int .i64 d0.segment, .bool d0.toward, .int .i64 d0.start, .int .i64 d0.stop] 48)).alloc (.cells #[.int .i64 d1.ship, .int .i64 d1.segment, .bool d1.toward, .int .i64 d1.start, .int .i64 d1.stop] 48))) wx))
  case first =>
    refine wp_region_held_drew (S := (fun w' => w'.cell? ⟨w.heap.size, 0, none⟩ = some (.int .i64 d0.ship) ∧ w'.cell? ⟨w.heap.size, 1, none⟩ = some (.int .i64 d0.segment) ∧ w'.cell? ⟨w.heap.size, 2, none⟩ = some (.bool d0.toward) ∧ w'.cell? ⟨w.heap.size, 3, none⟩ = some (.int .i64 d0.start) ∧ w'.cell? ⟨w.heap.size, 4, none⟩ = some (.int .i64 d0.stop) ∧ w'.cell? ⟨w.heap.size + 1, 0, none⟩ = some (.int .i64 d1.ship) ∧ w'.cell? ⟨w.heap.size + 1, 1, none⟩ = some (.int .i64 d1.segment) ∧ w'.cell? ⟨w.heap.size + 1, 2, none⟩ = some (.bool d1.toward) ∧ w'.cell? ⟨w.heap.size + 1, 3, none⟩ = some (.int .i64 d1.start) ∧ w'.cell? ⟨w.heap.size + 1, 4, none⟩ = some (.int .i64 d1.stop) ∧ Hid (Below (((w.alloc (.cells #[.int .i64 d0.ship, .int .i64 d0.segment, .bool d0.toward, .int .i64 d0.start, .int .i64 d0.stop] 48)).alloc (.cells #[.int .i64 d1.ship, .int .i64 d1.segment, .bool d1.toward, .int .i64 d1.start, .int .i64 d1.stop] 48))).heap.size (((w.alloc (.cells #[.int .i64 d0.ship, .int .i64 d0.segment, .bool d0.toward, .int .i64 d0.start, .int .i64 d0.stop] 48)).alloc (.cells #[.int .i64 d1.ship, .int .i64 d1.segment, .bool d1.toward, .int .i64 d1.start, .int .i64 d1.stop] 48))) w'))) (by kernel_rfl) ?_ (fun hHeld => ?_)
    · (try dsimp only); go_keep
    refine wpAnyH_take (i := 0) (v := ?_) (by simp only [List.getElem?_toArray, List.getElem?_cons_zero]; rfl) (by kernel_rfl) (by kernel_rfl) (by kernel_rfl) (by exact fun _ _ _ h => h) (Or.inl ⟨by rfl, ?_⟩) (by assumption) ?_; rotate_left; focus (intro w hSw; (try dsimp only at hSw); first | (go_simp; done) | (go_simp; with_reducible rfl))
    try simp only [Act.put, List.setIfInBounds_toArray, List.set_cons_zero, List.set_cons_succ]
    refine wpAnyH_take (i := 2) (v := ?_) (by simp only [List.getElem?_toArray, List.getElem?_cons_succ, List.getElem?_cons_zero]; rfl) (by kernel_rfl) (by kernel_rfl) (by kernel_rfl) (by exact fun _ _ _ h => h) (Or.inl ⟨by rfl, ?_⟩) (by assumption) ?_; rotate_left; focus (intro w hSw; (try dsimp only at hSw); first | (go_simp; done) | (go_simp; with_reducible rfl))
    try simp only [Act.put, List.setIfInBounds_toArray, List.set_cons_zero, List.set_cons_succ]
    refine wpAnyH_ready (rs := [1]) (by kernel_rfl) (by simp) ?_
    refine AllReadyH.cons rfl (fun K hK => ?_) AllReadyH.nil
    rw [if_pos (by rfl)]
    go_simp
    go_at_call 25
    have kB := hHeld.2.2.2.2.2.2.2.2.2.2
    refine (toPassage_any d0.ship d0.segment d0.toward d0.start d0.stop _).mono ?_
    rintro e wt0 ⟨rfl, hbk⟩
    have HBK := kB.out.trans (hbk.mono kB.out.size)
    have QS0 := Lib.hid (show wt0.cell? ⟨w.heap.size, 0, none⟩ = some (.int .i64 d0.ship) ∧ wt0.cell? ⟨w.heap.size, 1, none⟩ = some (.int .i64 d0.segment) ∧ wt0.cell? ⟨w.heap.size, 2, none⟩ = some (.bool d0.toward) ∧ wt0.cell? ⟨w.heap.size, 3, none⟩ = some (.int .i64 d0.start) ∧ wt0.cell? ⟨w.heap.size, 4, none⟩ = some (.int .i64 d0.stop) ∧ wt0.cell? ⟨w.heap.size + 1, 0, none⟩ = some (.int .i64 d1.ship) ∧ wt0.cell? ⟨w.heap.size + 1, 1, none⟩ = some (.int .i64 d1.segment) ∧ wt0.cell? ⟨w.heap.size + 1, 2, none⟩ = some (.bool d1.toward) ∧ wt0.cell? ⟨w.heap.size + 1, 3, none⟩ = some (.int .i64 d1.start) ∧ wt0.cell? ⟨w.heap.size + 1, 4, none⟩ = some (.int .i64 d1.stop) ∧ Hid (Below (((w.alloc (.cells #[.int .i64 d0.ship, .int .i64 d0.segment, .bool d0.toward, .int .i64 d0.start, .int .i64 d0.stop] 48)).alloc (.cells #[.int .i64 d1.ship, .int .i64 d1.segment, .bool d1.toward, .int .i64 d1.start, .int .i64 d1.stop] 48))).heap.size (((w.alloc (.cells #[.int .i64 d0.ship, .int .i64 d0.segment, .bool d0.toward, .int .i64 d0.start, .int .i64 d0.stop] 48)).alloc (.cells #[.int .i64 d1.ship, .int .i64 d1.segment, .bool d1.toward, .int .i64 d1.start, .int .i64 d1.stop] 48))) wt0) from ⟨cell_onV (cell_onV (ABX0.out.1) B0.out) HBK, cell_onV (cell_onV (ABX0.out.2.1) B0.out) HBK, cell_onV (cell_onV (ABX0.out.2.2.1) B0.out) HBK, cell_onV (cell_onV (ABX0.out.2.2.2.1) B0.out) HBK, cell_onV (cell_onV (ABX0.out.2.2.2.2) B0.out) HBK, cell_onV (cell_onV (ABX1.out.1) B0.out) HBK, cell_onV (cell_onV (ABX1.out.2.1) B0.out) HBK, cell_onV (cell_onV (ABX1.out.2.2.1) B0.out) HBK, cell_onV (cell_onV (ABX1.out.2.2.2.1) B0.out) HBK, cell_onV (cell_onV (ABX1.out.2.2.2.2) B0.out) HBK, Lib.hid HBK⟩)
    clear hbk kB hHeld HBK
    go_simp
    refine hK.out _ _ ?_ (fun hHeld => ?_)
    · (try dsimp only); exact QS0.out
    clear hK K
    try simp only [Act.put, List.setIfInBounds_toArray, List.set_cons_zero, List.set_cons_succ]
    refine wpAnyH_ready (rs := [3]) (by kernel_rfl) (by simp) ?_
    refine AllReadyH.cons rfl (fun K hK => ?_) AllReadyH.nil
    rw [if_pos (by rfl)]
    go_simp
    go_at_call 25
    have kB := hHeld.2.2.2.2.2.2.2.2.2.2
    refine (toPassage_any d1.ship d1.segment d1.toward d1.start d1.stop _).mono ?_
    rintro e wt1 ⟨rfl, hbk⟩
    have HBK := kB.out.trans (hbk.mono kB.out.size)
    have QS1 := Lib.hid (show wt1.cell? ⟨w.heap.size, 0, none⟩ = some (.int .i64 d0.ship) ∧ wt1.cell? ⟨w.heap.size, 1, none⟩ = some (.int .i64 d0.segment) ∧ wt1.cell? ⟨w.heap.size, 2, none⟩ = some (.bool d0.toward) ∧ wt1.cell? ⟨w.heap.size, 3, none⟩ = some (.int .i64 d0.start) ∧ wt1.cell? ⟨w.heap.size, 4, none⟩ = some (.int .i64 d0.stop) ∧ wt1.cell? ⟨w.heap.size + 1, 0, none⟩ = some (.int .i64 d1.ship) ∧ wt1.cell? ⟨w.heap.size + 1, 1, none⟩ = some (.int .i64 d1.segment) ∧ wt1.cell? ⟨w.heap.size + 1, 2, none⟩ = some (.bool d1.toward) ∧ wt1.cell? ⟨w.heap.size + 1, 3, none⟩ = some (.int .i64 d1.start) ∧ wt1.cell? ⟨w.heap.size + 1, 4, none⟩ = some (.int .i64 d1.stop) ∧ Hid (Below (((w.alloc (.cells #[.int .i64 d0.ship, .int .i64 d0.segment, .bool d0.toward, .int .i64 d0.start, .int .i64 d0.stop] 48)).alloc (.cells #[.int .i64 d1.ship, .int .i64 d1.segment, .bool d1.toward, .int .i64 d1.start, .int .i64 d1.stop] 48))).heap.size (((w.alloc (.cells #[.int .i64 d0.ship, .int .i64 d0.segment, .bool d0.toward, .int .i64 d0.start, .int .i64 d0.stop] 48)).alloc (.cells #[.int .i64 d1.ship, .int .i64 d1.segment, .bool d1.toward, .int .i64 d1.start, .int .i64 d1.stop] 48))) wt1) from ⟨cell_onV (cell_onV (ABX0.out.1) B0.out) HBK, cell_onV (cell_onV (ABX0.out.2.1) B0.out) HBK, cell_onV (cell_onV (ABX0.out.2.2.1) B0.out) HBK, cell_onV (cell_onV (ABX0.out.2.2.2.1) B0.out) HBK, cell_onV (cell_onV (ABX0.out.2.2.2.2) B0.out) HBK, cell_onV (cell_onV (ABX1.out.1) B0.out) HBK, cell_onV (cell_onV (ABX1.out.2.1) B0.out) HBK, cell_onV (cell_onV (ABX1.out.2.2.1) B0.out) HBK, cell_onV (cell_onV (ABX1.out.2.2.2.1) B0.out) HBK, cell_onV (cell_onV (ABX1.out.2.2.2.2) B0.out) HBK, Lib.hid HBK⟩)
    clear hbk kB hHeld HBK
    go_simp
    refine hK.out _ _ ?_ (fun hHeld => ?_)
    · (try dsimp only); exact QS1.out
    clear hK K
    try simp only [Act.put, List.setIfInBounds_toArray, List.set_cons_zero, List.set_cons_succ]
    refine wpAnyH_ready (rs := [4]) (by kernel_rfl) (by simp) ?_
    refine AllReadyH.cons rfl (fun K hK => ?_) AllReadyH.nil
    rw [if_pos (by rfl)]
    go_simp
    go_at_call 24
    have kB := hHeld.2.2.2.2.2.2.2.2.2.2
    refine (specOverlaps d0 d1 _  ).mono ?_
    rw [HR0.out]
    rintro e wq ⟨rfl, hbk⟩
    have HBK := kB.out.trans (hbk.mono kB.out.size)
    have QQ := Lib.hid (show wq.cell? ⟨w.heap.size, 0, none⟩ = some (.int .i64 d0.ship) ∧ wq.cell? ⟨w.heap.size, 1, none⟩ = some (.int .i64 d0.segment) ∧ wq.cell? ⟨w.heap.size, 2, none⟩ = some (.bool d0.toward) ∧ wq.cell? ⟨w.heap.size, 3, none⟩ = some (.int .i64 d0.start) ∧ wq.cell? ⟨w.heap.size, 4, none⟩ = some (.int .i64 d0.stop) ∧ wq.cell? ⟨w.heap.size + 1, 0, none⟩ = some (.int .i64 d1.ship) ∧ wq.cell? ⟨w.heap.size + 1, 1, none⟩ = some (.int .i64 d1.segment) ∧ wq.cell? ⟨w.heap.size + 1, 2, none⟩ = some (.bool d1.toward) ∧ wq.cell? ⟨w.heap.size + 1, 3, none⟩ = some (.int .i64 d1.start) ∧ wq.cell? ⟨w.heap.size + 1, 4, none⟩ = some (.int .i64 d1.stop) ∧ Hid (Below (((w.alloc (.cells #[.int .i64 d0.ship, .int .i64 d0.segment, .bool d0.toward, .int .i64 d0.start, .int .i64 d0.stop] 48)).alloc (.cells #[.int .i64 d1.ship, .int .i64 d1.segment, .bool d1.toward, .int .i64 d1.start, .int .i64 d1.stop] 48))).heap.size (((w.alloc (.cells #[.int .i64 d0.ship, .int .i64 d0.segment, .bool d0.toward, .int .i64 d0.start, .int .i64 d0.stop] 48)).alloc (.cells #[.int .i64 d1.ship, .int .i64 d1.segment, .bool d1.toward, .int .i64 d1.start, .int .i64 d1.stop] 48))) wq) from ⟨cell_onV (cell_onV (ABX0.out.1) B0.out) HBK, cell_onV (cell_onV (ABX0.out.2.1) B0.out) HBK, cell_onV (cell_onV (ABX0.out.2.2.1) B0.out) HBK, cell_onV (cell_onV (ABX0.out.2.2.2.1) B0.out) HBK, cell_onV (cell_onV (ABX0.out.2.2.2.2) B0.out) HBK, cell_onV (cell_onV (ABX1.out.1) B0.out) HBK, cell_onV (cell_onV (ABX1.out.2.1) B0.out) HBK, cell_onV (cell_onV (ABX1.out.2.2.1) B0.out) HBK, cell_onV (cell_onV (ABX1.out.2.2.2.1) B0.out) HBK, cell_onV (cell_onV (ABX1.out.2.2.2.2) B0.out) HBK, Lib.hid HBK⟩)
    clear hbk kB hHeld HBK
    go_simp
    refine hK.out _ _ ?_ (fun hHeld => ?_)
    · (try dsimp only); exact QQ.out
    clear hK K
    try simp only [Act.put, List.setIfInBounds_toArray, List.set_cons_zero, List.set_cons_succ]
    refine wpAnyH_take (i := 5) (v := ?_) (by simp only [List.getElem?_toArray, List.getElem?_cons_succ, List.getElem?_cons_zero]; rfl) (by kernel_rfl) (by kernel_rfl) (by kernel_rfl) (by exact fun _ _ _ h => h) (Or.inl ⟨by rfl, ?_⟩) (by assumption) ?_; rotate_left; focus (intro w hSw; (try dsimp only at hSw); first | (go_simp; done) | (go_simp; with_reducible rfl))
    try simp only [Act.put, List.setIfInBounds_toArray, List.set_cons_zero, List.set_cons_succ]
    refine wpAnyH_done (by kernel_rfl) ?_ _
    go_wp2_with fail
    go_meet
    exact ⟨rfl, hHeld.2.2.2.2.2.2.2.2.2.2⟩
  case rest =>
    obtain ⟨rfl, hbH⟩ := hcut
    have hb1 := hbH.out
    obtain ⟨w1, rfl⟩ : ∃ W, W = wc := ⟨_, rfl⟩
    clear hbH DD y0_0 y0_1 y0_2 y0_3 y0_4 y1_0 y1_1 y1_2 y1_3 y1_4 
    have B1 := Lib.hid (B0.out.trans (hb1.mono B0.out.size))
    have hz1 : (((w.alloc (.cells #[.int .i64 d0.ship, .int .i64 d0.segment, .bool d0.toward, .int .i64 d0.start, .int .i64 d0.stop] 48)).alloc (.cells #[.int .i64 d1.ship, .int .i64 d1.segment, .bool d1.toward, .int .i64 d1.start, .int .i64 d1.stop] 48))).heap.size ≤ w1.heap.size := hb1.size
    clear hb1
    -- g0 := impl.Overlaps(toPassage(aP), toPassage(aQ))
    have y0_0 : (w1).cell? ⟨w.heap.size, 0, none⟩ = some (.int .i64 d0.ship) := cell_onV (ABX0.out.1) B1.out
    have y0_1 : (w1).cell? ⟨w.heap.size, 1, none⟩ = some (.int .i64 d0.segment) := cell_onV (ABX0.out.2.1) B1.out
    have y0_2 : (w1).cell? ⟨w.heap.size, 2, none⟩ = some (.bool d0.toward) := cell_onV (ABX0.out.2.2.1) B1.out
    have y0_3 : (w1).cell? ⟨w.heap.size, 3, none⟩ = some (.int .i64 d0.start) := cell_onV (ABX0.out.2.2.2.1) B1.out
    have y0_4 : (w1).cell? ⟨w.heap.size, 4, none⟩ = some (.int .i64 d0.stop) := cell_onV (ABX0.out.2.2.2.2) B1.out
    have y1_0 : (w1).cell? ⟨w.heap.size + 1, 0, none⟩ = some (.int .i64 d1.ship) := cell_onV (ABX1.out.1) B1.out
    have y1_1 : (w1).cell? ⟨w.heap.size + 1, 1, none⟩ = some (.int .i64 d1.segment) := cell_onV (ABX1.out.2.1) B1.out
    have y1_2 : (w1).cell? ⟨w.heap.size + 1, 2, none⟩ = some (.bool d1.toward) := cell_onV (ABX1.out.2.2.1) B1.out
    have y1_3 : (w1).cell? ⟨w.heap.size + 1, 3, none⟩ = some (.int .i64 d1.start) := cell_onV (ABX1.out.2.2.2.1) B1.out
    have y1_4 : (w1).cell? ⟨w.heap.size + 1, 4, none⟩ = some (.int .i64 d1.stop) := cell_onV (ABX1.out.2.2.2.2) B1.out
    have DD := Lib.hid ((Below.refl (w1).heap.size (w1)).drew)
    go_upto_region 2 with fail
    go_cut [6] (fun sL wx => sL = .bool r0 ∧ Hid (Below (w1).heap.size (w1) wx))
    case first =>
      refine wp_region_held_drew (S := (fun w' => w'.cell? ⟨w.heap.size, 0, none⟩ = some (.int .i64 d0.ship) ∧ w'.cell? ⟨w.heap.size, 1, none⟩ = some (.int .i64 d0.segment) ∧ w'.cell? ⟨w.heap.size, 2, none⟩ = some (.bool d0.toward) ∧ w'.cell? ⟨w.heap.size, 3, none⟩ = some (.int .i64 d0.start) ∧ w'.cell? ⟨w.heap.size, 4, none⟩ = some (.int .i64 d0.stop) ∧ w'.cell? ⟨w.heap.size + 1, 0, none⟩ = some (.int .i64 d1.ship) ∧ w'.cell? ⟨w.heap.size + 1, 1, none⟩ = some (.int .i64 d1.segment) ∧ w'.cell? ⟨w.heap.size + 1, 2, none⟩ = some (.bool d1.toward) ∧ w'.cell? ⟨w.heap.size + 1, 3, none⟩ = some (.int .i64 d1.start) ∧ w'.cell? ⟨w.heap.size + 1, 4, none⟩ = some (.int .i64 d1.stop) ∧ Hid (Below (w1).heap.size (w1) w'))) (by kernel_rfl) ?_ (fun hHeld => ?_)
      · (try dsimp only); go_keep
      refine wpAnyH_take (i := 0) (v := ?_) (by simp only [List.getElem?_toArray, List.getElem?_cons_zero]; rfl) (by kernel_rfl) (by kernel_rfl) (by kernel_rfl) (by exact fun _ _ _ h => h) (Or.inl ⟨by rfl, ?_⟩) (by assumption) ?_; rotate_left; focus (intro w hSw; (try dsimp only at hSw); first | (go_simp; done) | (go_simp; with_reducible rfl))
      try simp only [Act.put, List.setIfInBounds_toArray, List.set_cons_zero, List.set_cons_succ]
      refine wpAnyH_take (i := 2) (v := ?_) (by simp only [List.getElem?_toArray, List.getElem?_cons_succ, List.getElem?_cons_zero]; rfl) (by kernel_rfl) (by kernel_rfl) (by kernel_rfl) (by exact fun _ _ _ h => h) (Or.inl ⟨by rfl, ?_⟩) (by assumption) ?_; rotate_left; focus (intro w hSw; (try dsimp only at hSw); first | (go_simp; done) | (go_simp; with_reducible rfl))
      try simp only [Act.put, List.setIfInBounds_toArray, List.set_cons_zero, List.set_cons_succ]
      refine wpAnyH_ready (rs := [1]) (by kernel_rfl) (by simp) ?_
      refine AllReadyH.cons rfl (fun K hK => ?_) AllReadyH.nil
      rw [if_pos (by rfl)]
      go_simp
      go_at_call 25
      have kB := hHeld.2.2.2.2.2.2.2.2.2.2
      refine (toPassage_any d0.ship d0.segment d0.toward d0.start d0.stop _).mono ?_
      rintro e wt0 ⟨rfl, hbk⟩
      have HBK := kB.out.trans (hbk.mono kB.out.size)
      have QS0 := Lib.hid (show wt0.cell? ⟨w.heap.size, 0, none⟩ = some (.int .i64 d0.ship) ∧ wt0.cell? ⟨w.heap.size, 1, none⟩ = some (.int .i64 d0.segment) ∧ wt0.cell? ⟨w.heap.size, 2, none⟩ = some (.bool d0.toward) ∧ wt0.cell? ⟨w.heap.size, 3, none⟩ = some (.int .i64 d0.start) ∧ wt0.cell? ⟨w.heap.size, 4, none⟩ = some (.int .i64 d0.stop) ∧ wt0.cell? ⟨w.heap.size + 1, 0, none⟩ = some (.int .i64 d1.ship) ∧ wt0.cell? ⟨w.heap.size + 1, 1, none⟩ = some (.int .i64 d1.segment) ∧ wt0.cell? ⟨w.heap.size + 1, 2, none⟩ = some (.bool d1.toward) ∧ wt0.cell? ⟨w.heap.size + 1, 3, none⟩ = some (.int .i64 d1.start) ∧ wt0.cell? ⟨w.heap.size + 1, 4, none⟩ = some (.int .i64 d1.stop) ∧ Hid (Below (w1).heap.size (w1) wt0) from ⟨cell_onV (cell_onV (ABX0.out.1) B1.out) HBK, cell_onV (cell_onV (ABX0.out.2.1) B1.out) HBK, cell_onV (cell_onV (ABX0.out.2.2.1) B1.out) HBK, cell_onV (cell_onV (ABX0.out.2.2.2.1) B1.out) HBK, cell_onV (cell_onV (ABX0.out.2.2.2.2) B1.out) HBK, cell_onV (cell_onV (ABX1.out.1) B1.out) HBK, cell_onV (cell_onV (ABX1.out.2.1) B1.out) HBK, cell_onV (cell_onV (ABX1.out.2.2.1) B1.out) HBK, cell_onV (cell_onV (ABX1.out.2.2.2.1) B1.out) HBK, cell_onV (cell_onV (ABX1.out.2.2.2.2) B1.out) HBK, Lib.hid HBK⟩)
      clear hbk kB hHeld HBK
      go_simp
      refine hK.out _ _ ?_ (fun hHeld => ?_)
      · (try dsimp only); exact QS0.out
      clear hK K
      try simp only [Act.put, List.setIfInBounds_toArray, List.set_cons_zero, List.set_cons_succ]
      refine wpAnyH_ready (rs := [3]) (by kernel_rfl) (by simp) ?_
      refine AllReadyH.cons rfl (fun K hK => ?_) AllReadyH.nil
      rw [if_pos (by rfl)]
      go_simp
      go_at_call 25
      have kB := hHeld.2.2.2.2.2.2.2.2.2.2
      refine (toPassage_any d1.ship d1.segment d1.toward d1.start d1.stop _).mono ?_
      rintro e wt1 ⟨rfl, hbk⟩
      have HBK := kB.out.trans (hbk.mono kB.out.size)
      have QS1 := Lib.hid (show wt1.cell? ⟨w.heap.size, 0, none⟩ = some (.int .i64 d0.ship) ∧ wt1.cell? ⟨w.heap.size, 1, none⟩ = some (.int .i64 d0.segment) ∧ wt1.cell? ⟨w.heap.size, 2, none⟩ = some (.bool d0.toward) ∧ wt1.cell? ⟨w.heap.size, 3, none⟩ = some (.int .i64 d0.start) ∧ wt1.cell? ⟨w.heap.size, 4, none⟩ = some (.int .i64 d0.stop) ∧ wt1.cell? ⟨w.heap.size + 1, 0, none⟩ = some (.int .i64 d1.ship) ∧ wt1.cell? ⟨w.heap.size + 1, 1, none⟩ = some (.int .i64 d1.segment) ∧ wt1.cell? ⟨w.heap.size + 1, 2, none⟩ = some (.bool d1.toward) ∧ wt1.cell? ⟨w.heap.size + 1, 3, none⟩ = some (.int .i64 d1.start) ∧ wt1.cell? ⟨w.heap.size + 1, 4, none⟩ = some (.int .i64 d1.stop) ∧ Hid (Below (w1).heap.size (w1) wt1) from ⟨cell_onV (cell_onV (ABX0.out.1) B1.out) HBK, cell_onV (cell_onV (ABX0.out.2.1) B1.out) HBK, cell_onV (cell_onV (ABX0.out.2.2.1) B1.out) HBK, cell_onV (cell_onV (ABX0.out.2.2.2.1) B1.out) HBK, cell_onV (cell_onV (ABX0.out.2.2.2.2) B1.out) HBK, cell_onV (cell_onV (ABX1.out.1) B1.out) HBK, cell_onV (cell_onV (ABX1.out.2.1) B1.out) HBK, cell_onV (cell_onV (ABX1.out.2.2.1) B1.out) HBK, cell_onV (cell_onV (ABX1.out.2.2.2.1) B1.out) HBK, cell_onV (cell_onV (ABX1.out.2.2.2.2) B1.out) HBK, Lib.hid HBK⟩)
      clear hbk kB hHeld HBK
      go_simp
      refine hK.out _ _ ?_ (fun hHeld => ?_)
      · (try dsimp only); exact QS1.out
      clear hK K
      try simp only [Act.put, List.setIfInBounds_toArray, List.set_cons_zero, List.set_cons_succ]
      refine wpAnyH_ready (rs := [4]) (by kernel_rfl) (by simp) ?_
      refine AllReadyH.cons rfl (fun K hK => ?_) AllReadyH.nil
      rw [if_pos (by rfl)]
      go_simp
      go_at_call 20
      have kB := hHeld.2.2.2.2.2.2.2.2.2.2
      refine (implOverlaps d0 d1 _  ).mono ?_
      rw [HR0.out]
      rintro e wq ⟨rfl, hbk⟩
      have HBK := kB.out.trans (hbk.mono kB.out.size)
      have QQ := Lib.hid (show wq.cell? ⟨w.heap.size, 0, none⟩ = some (.int .i64 d0.ship) ∧ wq.cell? ⟨w.heap.size, 1, none⟩ = some (.int .i64 d0.segment) ∧ wq.cell? ⟨w.heap.size, 2, none⟩ = some (.bool d0.toward) ∧ wq.cell? ⟨w.heap.size, 3, none⟩ = some (.int .i64 d0.start) ∧ wq.cell? ⟨w.heap.size, 4, none⟩ = some (.int .i64 d0.stop) ∧ wq.cell? ⟨w.heap.size + 1, 0, none⟩ = some (.int .i64 d1.ship) ∧ wq.cell? ⟨w.heap.size + 1, 1, none⟩ = some (.int .i64 d1.segment) ∧ wq.cell? ⟨w.heap.size + 1, 2, none⟩ = some (.bool d1.toward) ∧ wq.cell? ⟨w.heap.size + 1, 3, none⟩ = some (.int .i64 d1.start) ∧ wq.cell? ⟨w.heap.size + 1, 4, none⟩ = some (.int .i64 d1.stop) ∧ Hid (Below (w1).heap.size (w1) wq) from ⟨cell_onV (cell_onV (ABX0.out.1) B1.out) HBK, cell_onV (cell_onV (ABX0.out.2.1) B1.out) HBK, cell_onV (cell_onV (ABX0.out.2.2.1) B1.out) HBK, cell_onV (cell_onV (ABX0.out.2.2.2.1) B1.out) HBK, cell_onV (cell_onV (ABX0.out.2.2.2.2) B1.out) HBK, cell_onV (cell_onV (ABX1.out.1) B1.out) HBK, cell_onV (cell_onV (ABX1.out.2.1) B1.out) HBK, cell_onV (cell_onV (ABX1.out.2.2.1) B1.out) HBK, cell_onV (cell_onV (ABX1.out.2.2.2.1) B1.out) HBK, cell_onV (cell_onV (ABX1.out.2.2.2.2) B1.out) HBK, Lib.hid HBK⟩)
      clear hbk kB hHeld HBK
      go_simp
      refine hK.out _ _ ?_ (fun hHeld => ?_)
      · (try dsimp only); exact QQ.out
      clear hK K
      try simp only [Act.put, List.setIfInBounds_toArray, List.set_cons_zero, List.set_cons_succ]
      refine wpAnyH_take (i := 5) (v := ?_) (by simp only [List.getElem?_toArray, List.getElem?_cons_succ, List.getElem?_cons_zero]; rfl) (by kernel_rfl) (by kernel_rfl) (by kernel_rfl) (by exact fun _ _ _ h => h) (Or.inl ⟨by rfl, ?_⟩) (by assumption) ?_; rotate_left; focus (intro w hSw; (try dsimp only at hSw); first | (go_simp; done) | (go_simp; with_reducible rfl))
      try simp only [Act.put, List.setIfInBounds_toArray, List.set_cons_zero, List.set_cons_succ]
      refine wpAnyH_done (by kernel_rfl) ?_ _
      go_wp2_with fail
      go_meet
      exact ⟨rfl, hHeld.2.2.2.2.2.2.2.2.2.2⟩
    case rest =>
      obtain ⟨rfl, hbH⟩ := hcut
      have hb2 := hbH.out
      obtain ⟨w2, rfl⟩ : ∃ W, W = wc := ⟨_, rfl⟩
      clear hbH DD y0_0 y0_1 y0_2 y0_3 y0_4 y1_0 y1_1 y1_2 y1_3 y1_4 
      have B2 := Lib.hid (B1.out.trans (hb2.mono B1.out.size))
      have hz2 : (w1).heap.size ≤ w2.heap.size := hb2.size
      clear hb2
      -- if g0 != w0 {
      -- return true
      go_wp2
      go_ret
      exact ⟨rfl, BW.out.trans (B2.out.mono hs0)⟩

set_option maxRecDepth 100000 in
theorem lifted (os : Os) (started : os.Started) (H : Type) (enc : TypeId × Value → H) :
    ReturnsInHanded {} Try.checked os 5 .any (Rows.fnExactOverlapsSpec.pre6 enc Try.prog Try.f5 Rows.fnExactOverlapsRow.domain false) (Rows.fnExactOverlapsSpec.post enc Try.prog Try.f5 false true false false) := by
  refine returnsInHanded_of_change (C := Try.checked) own started (by kernel_rfl) Try.func5
    (ChangeSpec.witness6 (enc := enc) (C := Try.checked) false ⟨#[], #[.agg #[.int .i64 0, .int .i64 0, .bool false, .int .i64 0, .int .i64 0], .agg #[.int .i64 0, .int .i64 0, .bool false, .int .i64 0, .int .i64 0]], []⟩ 8 (by kernel_rfl) (by kernel_rfl) (by kernel_rfl) (by kernel_rfl)) ?_
  intro W base args ds gs before hval0 hW _ _
  have hval : ∀ (j : Nat) t v, Try.f5.params[j]? = some t → args[j]? = some v → Value.okWide Try.prog W .any base t v := hval0
  have hW' := hW
  obtain ⟨p, q, hA0, hV, rfl, _, _⟩ := hW
  have hA : DataW.TrodAll enc Try.prog W 0 (fun _ => true) true Try.f5.params.toList args.toList ds p := hA0
  rw [Try.params5] at hA hval
  obtain ⟨v0, vs0, d0, ds0, p0, q0, hargs, rfl, rfl, h0, r0⟩ := trodAll_cons hA
  obtain ⟨v1, vs1, d1, ds1, p1, q1, rfl, rfl, rfl, h1, r1⟩ := trodAll_cons r0
  obtain ⟨rfl, rfl, rfl⟩ := trodAll_nil r1
  obtain rfl : args = #[v0, v1] := by cases args; simp_all
  obtain ⟨d0', rfl, g0⟩ := open_passage_arg (hval 0 48 v0 rfl rfl) h0
  obtain ⟨d1', rfl, g1⟩ := open_passage_arg (hval 1 48 v1 rfl rfl) h1
  refine (law d0' d1' W g0 g1).mono fun e W' ⟨he, hb⟩ => ⟨_, he, ?_⟩
  exact law_post laidOut (by kernel_rfl) rfl (by kernel_rfl) Try.underlying4 rfl rfl rfl hW' hb

theorem holds : Rows.FnExactOverlapsSaid :=
  OpenClaim.holds_of_wide 5 Try.f5 rfl rfl rfl rfl rfl rfl rfl ⟨rfl, rfl, rfl, rfl, rfl⟩ rfl rfl rfl rfl rfl (by kernel_rfl) Try.func5 (by kernel_rfl)
    (of_decide_eq_true (by kernel_rfl)) (by unfold Func.isWrapper; first | (rw [if_pos (by decide +kernel)]; kernel_rfl) | (rw [if_neg (by decide +kernel)]; exact ⟨rfl, rfl⟩))
    (fun os started H enc _ => lifted os started H enc)

end Go.Proofs.Ytpglaffmmddcdaa.exactOverlaps
