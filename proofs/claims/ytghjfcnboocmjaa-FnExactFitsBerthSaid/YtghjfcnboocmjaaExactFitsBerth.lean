
/- The exact law of FitsBerth holds for all arguments: impl.FitsBerth answers as its model, and the arguments read as before. No condition. -/
import Derived.Test.YtghjfcnboocmjaaRows
import Derived.Test.YtghjfcnboocmjaaKit
import Derived.Test.YtghjfcnboocmjaaBerthSpec0
import Derived.Test.YtghjfcnboocmjaaBerthImpl0
import Derived.Test.YtghjfcnboocmjaaBerths
import Derived.Test.YtghjfcnboocmjaaShips
import Derived.Test.YtghjfcnboocmjaaShipsArg
import Derived.Test.YtghjfcnboocmjaaTouch
import Derived.Deep.RegionHeld3
import Derived.Deep.DeepCutAuto
namespace Go.Proofs.Ytghjfcnboocmjaa.exactFitsBerth
open Go.ChangeShapes Go.WideShapes Go.ChangeAt Go.RowKit
set_option maxRecDepth 100000

theorem own : ownKnob Try.prog.godebug = none := by kernel_rfl
theorem laidOut : laidOutB Try.prog = true := by kernel_rfl

set_option maxHeartbeats 16000000 in
theorem law (d0 : BerthD) (d1 : ShipD) (w : World) (hin0 : d0.wf) (hin1 : d1.wf) :
    Calls Try.prog 5 #[.agg #[.string d0.name, .int .i64 d0.length, .int .i64 d0.depth], .agg #[.string d1.name, .int .i64 d1.length, .int .i64 d1.draught, .int .i64 d1.line, .int .i64 d1.tugs, .bool d1.slow]] w fun e w' => e = .returned (.bool true) ∧ Below w.heap.size w w' := by
  have HB0 : Below w.heap.size w ((w.alloc (.cells #[.string d0.name, .int .i64 d0.length, .int .i64 d0.depth] 50)).alloc (.cells #[.string d1.name, .int .i64 d1.length, .int .i64 d1.draught, .int .i64 d1.line, .int .i64 d1.tugs, .bool d1.slow] 51)) := by
    repeat (first | exact Below.refl _ _ | refine Below.alloc ?_ (by simp <;> omega) _)
  have BW := Lib.hid HB0
  clear HB0
  go_enter Try.func5, Try.ntmps5
  have B0 := Lib.hid (Below.refl (((w.alloc (.cells #[.string d0.name, .int .i64 d0.length, .int .i64 d0.depth] 50)).alloc (.cells #[.string d1.name, .int .i64 d1.length, .int .i64 d1.draught, .int .i64 d1.line, .int .i64 d1.tugs, .bool d1.slow] 51))).heap.size ((w.alloc (.cells #[.string d0.name, .int .i64 d0.length, .int .i64 d0.depth] 50)).alloc (.cells #[.string d1.name, .int .i64 d1.length, .int .i64 d1.draught, .int .i64 d1.line, .int .i64 d1.tugs, .bool d1.slow] 51)))
  have hs0 : w.heap.size ≤ (((w.alloc (.cells #[.string d0.name, .int .i64 d0.length, .int .i64 d0.depth] 50)).alloc (.cells #[.string d1.name, .int .i64 d1.length, .int .i64 d1.draught, .int .i64 d1.line, .int .i64 d1.tugs, .bool d1.slow] 51))).heap.size := BW.out.size
  have ABX0 := Lib.hid (show (((w.alloc (.cells #[.string d0.name, .int .i64 d0.length, .int .i64 d0.depth] 50)).alloc (.cells #[.string d1.name, .int .i64 d1.length, .int .i64 d1.draught, .int .i64 d1.line, .int .i64 d1.tugs, .bool d1.slow] 51))).cell? ⟨w.heap.size, 0, none⟩ = some (.string d0.name) ∧ (((w.alloc (.cells #[.string d0.name, .int .i64 d0.length, .int .i64 d0.depth] 50)).alloc (.cells #[.string d1.name, .int .i64 d1.length, .int .i64 d1.draught, .int .i64 d1.line, .int .i64 d1.tugs, .bool d1.slow] 51))).cell? ⟨w.heap.size, 1, none⟩ = some (.int .i64 d0.length) ∧ (((w.alloc (.cells #[.string d0.name, .int .i64 d0.length, .int .i64 d0.depth] 50)).alloc (.cells #[.string d1.name, .int .i64 d1.length, .int .i64 d1.draught, .int .i64 d1.line, .int .i64 d1.tugs, .bool d1.slow] 51))).cell? ⟨w.heap.size, 2, none⟩ = some (.int .i64 d0.depth) from by
    have hBk0 : Blk (w.alloc (.cells #[.string d0.name, .int .i64 d0.length, .int .i64 d0.depth] 50)) (w.heap.size) #[.string d0.name, .int .i64 d0.length, .int .i64 d0.depth] 50 := Blk.newAt (w := w) (by first | rfl | simp) _ _
    have hBk : Blk ((w.alloc (.cells #[.string d0.name, .int .i64 d0.length, .int .i64 d0.depth] 50)).alloc (.cells #[.string d1.name, .int .i64 d1.length, .int .i64 d1.draught, .int .i64 d1.line, .int .i64 d1.tugs, .bool d1.slow] 51)) (w.heap.size) #[.string d0.name, .int .i64 d0.length, .int .i64 d0.depth] 50 := hBk0.below (by repeat (first | exact Below.refl _ _ | refine Below.alloc ?_ (by simp) _))
    exact ⟨hBk.cell 0, hBk.cell 1, hBk.cell 2⟩)
  have ABX1 := Lib.hid (show (((w.alloc (.cells #[.string d0.name, .int .i64 d0.length, .int .i64 d0.depth] 50)).alloc (.cells #[.string d1.name, .int .i64 d1.length, .int .i64 d1.draught, .int .i64 d1.line, .int .i64 d1.tugs, .bool d1.slow] 51))).cell? ⟨w.heap.size + 1, 0, none⟩ = some (.string d1.name) ∧ (((w.alloc (.cells #[.string d0.name, .int .i64 d0.length, .int .i64 d0.depth] 50)).alloc (.cells #[.string d1.name, .int .i64 d1.length, .int .i64 d1.draught, .int .i64 d1.line, .int .i64 d1.tugs, .bool d1.slow] 51))).cell? ⟨w.heap.size + 1, 1, none⟩ = some (.int .i64 d1.length) ∧ (((w.alloc (.cells #[.string d0.name, .int .i64 d0.length, .int .i64 d0.depth] 50)).alloc (.cells #[.string d1.name, .int .i64 d1.length, .int .i64 d1.draught, .int .i64 d1.line, .int .i64 d1.tugs, .bool d1.slow] 51))).cell? ⟨w.heap.size + 1, 2, none⟩ = some (.int .i64 d1.draught) ∧ (((w.alloc (.cells #[.string d0.name, .int .i64 d0.length, .int .i64 d0.depth] 50)).alloc (.cells #[.string d1.name, .int .i64 d1.length, .int .i64 d1.draught, .int .i64 d1.line, .int .i64 d1.tugs, .bool d1.slow] 51))).cell? ⟨w.heap.size + 1, 3, none⟩ = some (.int .i64 d1.line) ∧ (((w.alloc (.cells #[.string d0.name, .int .i64 d0.length, .int .i64 d0.depth] 50)).alloc (.cells #[.string d1.name, .int .i64 d1.length, .int .i64 d1.draught, .int .i64 d1.line, .int .i64 d1.tugs, .bool d1.slow] 51))).cell? ⟨w.heap.size + 1, 4, none⟩ = some (.int .i64 d1.tugs) ∧ (((w.alloc (.cells #[.string d0.name, .int .i64 d0.length, .int .i64 d0.depth] 50)).alloc (.cells #[.string d1.name, .int .i64 d1.length, .int .i64 d1.draught, .int .i64 d1.line, .int .i64 d1.tugs, .bool d1.slow] 51))).cell? ⟨w.heap.size + 1, 5, none⟩ = some (.bool d1.slow) from by
    have hBk0 : Blk ((w.alloc (.cells #[.string d0.name, .int .i64 d0.length, .int .i64 d0.depth] 50)).alloc (.cells #[.string d1.name, .int .i64 d1.length, .int .i64 d1.draught, .int .i64 d1.line, .int .i64 d1.tugs, .bool d1.slow] 51)) (w.heap.size + 1) #[.string d1.name, .int .i64 d1.length, .int .i64 d1.draught, .int .i64 d1.line, .int .i64 d1.tugs, .bool d1.slow] 51 := Blk.newAt (w := (w.alloc (.cells #[.string d0.name, .int .i64 d0.length, .int .i64 d0.depth] 50))) (by first | rfl | simp) _ _
    have hBk : Blk ((w.alloc (.cells #[.string d0.name, .int .i64 d0.length, .int .i64 d0.depth] 50)).alloc (.cells #[.string d1.name, .int .i64 d1.length, .int .i64 d1.draught, .int .i64 d1.line, .int .i64 d1.tugs, .bool d1.slow] 51)) (w.heap.size + 1) #[.string d1.name, .int .i64 d1.length, .int .i64 d1.draught, .int .i64 d1.line, .int .i64 d1.tugs, .bool d1.slow] 51 := hBk0.below (by repeat (first | exact Below.refl _ _ | refine Below.alloc ?_ (by simp) _))
    exact ⟨hBk.cell 0, hBk.cell 1, hBk.cell 2, hBk.cell 3, hBk.cell 4, hBk.cell 5⟩)
  obtain ⟨r0, hr0⟩ : ∃ r0, (fitB d0 d1) = r0 := ⟨_, rfl⟩
  have HR0 := Lib.hid hr0
  clear hr0
  -- left := 1 << 20
  -- left = szBerth(aB, left)
  have y0_0 : (((w.alloc (.cells #[.string d0.name, .int .i64 d0.length, .int .i64 d0.depth] 50)).alloc (.cells #[.string d1.name, .int .i64 d1.length, .int .i64 d1.draught, .int .i64 d1.line, .int .i64 d1.tugs, .bool d1.slow] 51))).cell? ⟨w.heap.size, 0, none⟩ = some (.string d0.name) := cell_onV (ABX0.out.1) B0.out
  have y0_1 : (((w.alloc (.cells #[.string d0.name, .int .i64 d0.length, .int .i64 d0.depth] 50)).alloc (.cells #[.string d1.name, .int .i64 d1.length, .int .i64 d1.draught, .int .i64 d1.line, .int .i64 d1.tugs, .bool d1.slow] 51))).cell? ⟨w.heap.size, 1, none⟩ = some (.int .i64 d0.length) := cell_onV (ABX0.out.2.1) B0.out
  have y0_2 : (((w.alloc (.cells #[.string d0.name, .int .i64 d0.length, .int .i64 d0.depth] 50)).alloc (.cells #[.string d1.name, .int .i64 d1.length, .int .i64 d1.draught, .int .i64 d1.line, .int .i64 d1.tugs, .bool d1.slow] 51))).cell? ⟨w.heap.size, 2, none⟩ = some (.int .i64 d0.depth) := cell_onV (ABX0.out.2.2) B0.out
  have hl1 : 0 ≤ (1048576 : Int) := by omega
  have hll1 : (1048576 : Int) ≤ 1048576 := by omega
  go_wp2_with fail
  refine (szBerth_any d0.name d0.length d0.depth (1048576) _ hl1 hll1 (wfszBerth hin0)).mono ?_
  rintro e w1 ⟨rfl, hb1⟩
  have B1 := Lib.hid (B0.out.trans (hb1.mono B0.out.size))
  have hz1 : (((w.alloc (.cells #[.string d0.name, .int .i64 d0.length, .int .i64 d0.depth] 50)).alloc (.cells #[.string d1.name, .int .i64 d1.length, .int .i64 d1.draught, .int .i64 d1.line, .int .i64 d1.tugs, .bool d1.slow] 51))).heap.size ≤ w1.heap.size := hb1.size
  clear hb1 y0_0 y0_1 y0_2
  have ps1 := oneBerth_pos ⟨d0.name, d0.length, d0.depth⟩
  by_cases neg1 : (1048576 : Int) < oneBerth ⟨d0.name, d0.length, d0.depth⟩
  · rw [leftOf_no neg1]
    go_wp2
    go_ret
    exact ⟨rfl, BW.out.trans (B1.out.mono hs0)⟩
  rw [leftOf_yes neg1]
  have ne1 : ¬ (1048576 - oneBerth ⟨d0.name, d0.length, d0.depth⟩ : Int) < 0 := by omega
  -- left = szShip(aS, left)
  have y1_0 : (w1).cell? ⟨w.heap.size + 1, 0, none⟩ = some (.string d1.name) := cell_onV (ABX1.out.1) B1.out
  have y1_1 : (w1).cell? ⟨w.heap.size + 1, 1, none⟩ = some (.int .i64 d1.length) := cell_onV (ABX1.out.2.1) B1.out
  have y1_2 : (w1).cell? ⟨w.heap.size + 1, 2, none⟩ = some (.int .i64 d1.draught) := cell_onV (ABX1.out.2.2.1) B1.out
  have y1_3 : (w1).cell? ⟨w.heap.size + 1, 3, none⟩ = some (.int .i64 d1.line) := cell_onV (ABX1.out.2.2.2.1) B1.out
  have y1_4 : (w1).cell? ⟨w.heap.size + 1, 4, none⟩ = some (.int .i64 d1.tugs) := cell_onV (ABX1.out.2.2.2.2.1) B1.out
  have y1_5 : (w1).cell? ⟨w.heap.size + 1, 5, none⟩ = some (.bool d1.slow) := cell_onV (ABX1.out.2.2.2.2.2) B1.out
  have hl2 : 0 ≤ (1048576 - oneBerth ⟨d0.name, d0.length, d0.depth⟩ : Int) := by omega
  have hll2 : (1048576 - oneBerth ⟨d0.name, d0.length, d0.depth⟩ : Int) ≤ 1048576 := by omega
  go_wp2_with fail
  refine (szShip_any d1.name d1.length d1.draught d1.line d1.tugs d1.slow (1048576 - oneBerth ⟨d0.name, d0.length, d0.depth⟩) _ hl2 hll2 (wfszShip hin1)).mono ?_
  rintro e w2 ⟨rfl, hb2⟩
  have B2 := Lib.hid (B1.out.trans (hb2.mono B1.out.size))
  have hz2 : (w1).heap.size ≤ w2.heap.size := hb2.size
  clear hb2 y1_0 y1_1 y1_2 y1_3 y1_4 y1_5
  have ps2 := oneShip_pos ⟨d1.name, d1.length, d1.draught, d1.line, d1.tugs, d1.slow⟩
  by_cases neg2 : (1048576 - oneBerth ⟨d0.name, d0.length, d0.depth⟩ : Int) < oneShip ⟨d1.name, d1.length, d1.draught, d1.line, d1.tugs, d1.slow⟩
  · rw [leftOf_no neg2]
    go_wp2
    go_ret
    exact ⟨rfl, BW.out.trans (B2.out.mono hs0)⟩
  rw [leftOf_yes neg2]
  have ne2 : ¬ (1048576 - oneBerth ⟨d0.name, d0.length, d0.depth⟩ - oneShip ⟨d1.name, d1.length, d1.draught, d1.line, d1.tugs, d1.slow⟩ : Int) < 0 := by omega
  -- w0 := spec.FitsBerth(toBerth(aB), toShip(aS))
  have y0_0 : (w2).cell? ⟨w.heap.size, 0, none⟩ = some (.string d0.name) := cell_onV (ABX0.out.1) B2.out
  have y0_1 : (w2).cell? ⟨w.heap.size, 1, none⟩ = some (.int .i64 d0.length) := cell_onV (ABX0.out.2.1) B2.out
  have y0_2 : (w2).cell? ⟨w.heap.size, 2, none⟩ = some (.int .i64 d0.depth) := cell_onV (ABX0.out.2.2) B2.out
  have y1_0 : (w2).cell? ⟨w.heap.size + 1, 0, none⟩ = some (.string d1.name) := cell_onV (ABX1.out.1) B2.out
  have y1_1 : (w2).cell? ⟨w.heap.size + 1, 1, none⟩ = some (.int .i64 d1.length) := cell_onV (ABX1.out.2.1) B2.out
  have y1_2 : (w2).cell? ⟨w.heap.size + 1, 2, none⟩ = some (.int .i64 d1.draught) := cell_onV (ABX1.out.2.2.1) B2.out
  have y1_3 : (w2).cell? ⟨w.heap.size + 1, 3, none⟩ = some (.int .i64 d1.line) := cell_onV (ABX1.out.2.2.2.1) B2.out
  have y1_4 : (w2).cell? ⟨w.heap.size + 1, 4, none⟩ = some (.int .i64 d1.tugs) := cell_onV (ABX1.out.2.2.2.2.1) B2.out
  have y1_5 : (w2).cell? ⟨w.heap.size + 1, 5, none⟩ = some (.bool d1.slow) := cell_onV (ABX1.out.2.2.2.2.2) B2.out
  have DD := Lib.hid ((Below.refl (w2).heap.size (w2)).drew)
  go_upto_region 8 with fail
  go_cut [6] (fun sL wx => sL = .bool r0 ∧ Hid (Below (w2).heap.size (w2) wx))
  case first =>
    refine wp_region_held_drew (S := (fun w' => w'.cell? ⟨w.heap.size, 0, none⟩ = some (.string d0.name) ∧ w'.cell? ⟨w.heap.size, 1, none⟩ = some (.int .i64 d0.length) ∧ w'.cell? ⟨w.heap.size, 2, none⟩ = some (.int .i64 d0.depth) ∧ w'.cell? ⟨w.heap.size + 1, 0, none⟩ = some (.string d1.name) ∧ w'.cell? ⟨w.heap.size + 1, 1, none⟩ = some (.int .i64 d1.length) ∧ w'.cell? ⟨w.heap.size + 1, 2, none⟩ = some (.int .i64 d1.draught) ∧ w'.cell? ⟨w.heap.size + 1, 3, none⟩ = some (.int .i64 d1.line) ∧ w'.cell? ⟨w.heap.size + 1, 4, none⟩ = some (.int .i64 d1.tugs) ∧ w'.cell? ⟨w.heap.size + 1, 5, none⟩ = some (.bool d1.slow) ∧ Hid (Below (w2).heap.size (w2) w'))) (by kernel_rfl) ?_ (fun hHeld => ?_)
    · (try dsimp only); go_keep
    refine wpAnyH_take (i := 0) (v := ?_) (by simp only [List.getElem?_toArray, List.getElem?_cons_zero]; rfl) (by kernel_rfl) (by kernel_rfl) (by kernel_rfl) (by exact fun _ _ _ h => h) (Or.inl ⟨by rfl, ?_⟩) (by assumption) ?_; rotate_left; focus (intro w hSw; (try dsimp only at hSw); first | (go_simp; done) | (go_simp; with_reducible rfl))
    try simp only [Act.put, List.setIfInBounds_toArray, List.set_cons_zero, List.set_cons_succ]
    refine wpAnyH_take (i := 2) (v := ?_) (by simp only [List.getElem?_toArray, List.getElem?_cons_succ, List.getElem?_cons_zero]; rfl) (by kernel_rfl) (by kernel_rfl) (by kernel_rfl) (by exact fun _ _ _ h => h) (Or.inl ⟨by rfl, ?_⟩) (by assumption) ?_; rotate_left; focus (intro w hSw; (try dsimp only at hSw); first | (go_simp; done) | (go_simp; with_reducible rfl))
    try simp only [Act.put, List.setIfInBounds_toArray, List.set_cons_zero, List.set_cons_succ]
    refine wpAnyH_ready (rs := [1]) (by kernel_rfl) (by simp) ?_
    refine AllReadyH.cons rfl (fun K hK => ?_) AllReadyH.nil
    rw [if_pos (by rfl)]
    go_simp
    go_at_call 27
    have kB := hHeld.2.2.2.2.2.2.2.2.2
    refine (toBerth_any d0.name d0.length d0.depth _).mono ?_
    rintro e wt0 ⟨rfl, hbk⟩
    have HBK := kB.out.trans (hbk.mono kB.out.size)
    have QS0 := Lib.hid (show wt0.cell? ⟨w.heap.size, 0, none⟩ = some (.string d0.name) ∧ wt0.cell? ⟨w.heap.size, 1, none⟩ = some (.int .i64 d0.length) ∧ wt0.cell? ⟨w.heap.size, 2, none⟩ = some (.int .i64 d0.depth) ∧ wt0.cell? ⟨w.heap.size + 1, 0, none⟩ = some (.string d1.name) ∧ wt0.cell? ⟨w.heap.size + 1, 1, none⟩ = some (.int .i64 d1.length) ∧ wt0.cell? ⟨w.heap.size + 1, 2, none⟩ = some (.int .i64 d1.draught) ∧ wt0.cell? ⟨w.heap.size + 1, 3, none⟩ = some (.int .i64 d1.line) ∧ wt0.cell? ⟨w.heap.size + 1, 4, none⟩ = some (.int .i64 d1.tugs) ∧ wt0.cell? ⟨w.heap.size + 1, 5, none⟩ = some (.bool d1.slow) ∧ Hid (Below (w2).heap.size (w2) wt0) from ⟨cell_onV (cell_onV (ABX0.out.1) B2.out) HBK, cell_onV (cell_onV (ABX0.out.2.1) B2.out) HBK, cell_onV (cell_onV (ABX0.out.2.2) B2.out) HBK, cell_onV (cell_onV (ABX1.out.1) B2.out) HBK, cell_onV (cell_onV (ABX1.out.2.1) B2.out) HBK, cell_onV (cell_onV (ABX1.out.2.2.1) B2.out) HBK, cell_onV (cell_onV (ABX1.out.2.2.2.1) B2.out) HBK, cell_onV (cell_onV (ABX1.out.2.2.2.2.1) B2.out) HBK, cell_onV (cell_onV (ABX1.out.2.2.2.2.2) B2.out) HBK, Lib.hid HBK⟩)
    clear hbk kB hHeld HBK
    go_simp
    refine hK.out _ _ ?_ (fun hHeld => ?_)
    · (try dsimp only); exact QS0.out
    clear hK K
    try simp only [Act.put, List.setIfInBounds_toArray, List.set_cons_zero, List.set_cons_succ]
    refine wpAnyH_ready (rs := [3]) (by kernel_rfl) (by simp) ?_
    refine AllReadyH.cons rfl (fun K hK => ?_) AllReadyH.nil
    rw [if_pos (by rfl)]
    go_simp
    go_at_call 28
    have kB := hHeld.2.2.2.2.2.2.2.2.2
    refine (toShip_any d1.name d1.length d1.draught d1.line d1.tugs d1.slow _).mono ?_
    rintro e wt1 ⟨rfl, hbk⟩
    have HBK := kB.out.trans (hbk.mono kB.out.size)
    have QS1 := Lib.hid (show wt1.cell? ⟨w.heap.size, 0, none⟩ = some (.string d0.name) ∧ wt1.cell? ⟨w.heap.size, 1, none⟩ = some (.int .i64 d0.length) ∧ wt1.cell? ⟨w.heap.size, 2, none⟩ = some (.int .i64 d0.depth) ∧ wt1.cell? ⟨w.heap.size + 1, 0, none⟩ = some (.string d1.name) ∧ wt1.cell? ⟨w.heap.size + 1, 1, none⟩ = some (.int .i64 d1.length) ∧ wt1.cell? ⟨w.heap.size + 1, 2, none⟩ = some (.int .i64 d1.draught) ∧ wt1.cell? ⟨w.heap.size + 1, 3, none⟩ = some (.int .i64 d1.line) ∧ wt1.cell? ⟨w.heap.size + 1, 4, none⟩ = some (.int .i64 d1.tugs) ∧ wt1.cell? ⟨w.heap.size + 1, 5, none⟩ = some (.bool d1.slow) ∧ Hid (Below (w2).heap.size (w2) wt1) from ⟨cell_onV (cell_onV (ABX0.out.1) B2.out) HBK, cell_onV (cell_onV (ABX0.out.2.1) B2.out) HBK, cell_onV (cell_onV (ABX0.out.2.2) B2.out) HBK, cell_onV (cell_onV (ABX1.out.1) B2.out) HBK, cell_onV (cell_onV (ABX1.out.2.1) B2.out) HBK, cell_onV (cell_onV (ABX1.out.2.2.1) B2.out) HBK, cell_onV (cell_onV (ABX1.out.2.2.2.1) B2.out) HBK, cell_onV (cell_onV (ABX1.out.2.2.2.2.1) B2.out) HBK, cell_onV (cell_onV (ABX1.out.2.2.2.2.2) B2.out) HBK, Lib.hid HBK⟩)
    clear hbk kB hHeld HBK
    go_simp
    refine hK.out _ _ ?_ (fun hHeld => ?_)
    · (try dsimp only); exact QS1.out
    clear hK K
    try simp only [Act.put, List.setIfInBounds_toArray, List.set_cons_zero, List.set_cons_succ]
    refine wpAnyH_ready (rs := [4]) (by kernel_rfl) (by simp) ?_
    refine AllReadyH.cons rfl (fun K hK => ?_) AllReadyH.nil
    rw [if_pos (by rfl)]
    go_simp
    go_at_call 26
    have kB := hHeld.2.2.2.2.2.2.2.2.2
    refine (specFitsBerth d0 d1 _  hin0 hin1).mono ?_
    rw [HR0.out]
    rintro e wq ⟨rfl, hbk⟩
    have HBK := kB.out.trans (hbk.mono kB.out.size)
    have QQ := Lib.hid (show wq.cell? ⟨w.heap.size, 0, none⟩ = some (.string d0.name) ∧ wq.cell? ⟨w.heap.size, 1, none⟩ = some (.int .i64 d0.length) ∧ wq.cell? ⟨w.heap.size, 2, none⟩ = some (.int .i64 d0.depth) ∧ wq.cell? ⟨w.heap.size + 1, 0, none⟩ = some (.string d1.name) ∧ wq.cell? ⟨w.heap.size + 1, 1, none⟩ = some (.int .i64 d1.length) ∧ wq.cell? ⟨w.heap.size + 1, 2, none⟩ = some (.int .i64 d1.draught) ∧ wq.cell? ⟨w.heap.size + 1, 3, none⟩ = some (.int .i64 d1.line) ∧ wq.cell? ⟨w.heap.size + 1, 4, none⟩ = some (.int .i64 d1.tugs) ∧ wq.cell? ⟨w.heap.size + 1, 5, none⟩ = some (.bool d1.slow) ∧ Hid (Below (w2).heap.size (w2) wq) from ⟨cell_onV (cell_onV (ABX0.out.1) B2.out) HBK, cell_onV (cell_onV (ABX0.out.2.1) B2.out) HBK, cell_onV (cell_onV (ABX0.out.2.2) B2.out) HBK, cell_onV (cell_onV (ABX1.out.1) B2.out) HBK, cell_onV (cell_onV (ABX1.out.2.1) B2.out) HBK, cell_onV (cell_onV (ABX1.out.2.2.1) B2.out) HBK, cell_onV (cell_onV (ABX1.out.2.2.2.1) B2.out) HBK, cell_onV (cell_onV (ABX1.out.2.2.2.2.1) B2.out) HBK, cell_onV (cell_onV (ABX1.out.2.2.2.2.2) B2.out) HBK, Lib.hid HBK⟩)
    clear hbk kB hHeld HBK
    go_simp
    refine hK.out _ _ ?_ (fun hHeld => ?_)
    · (try dsimp only); exact QQ.out
    clear hK K
    try simp only [Act.put, List.setIfInBounds_toArray, List.set_cons_zero, List.set_cons_succ]
    refine wpAnyH_take (i := 5) (v := ?_) (by simp only [List.getElem?_toArray, List.getElem?_cons_succ, List.getElem?_cons_zero]; rfl) (by kernel_rfl) (by kernel_rfl) (by kernel_rfl) (by exact fun _ _ _ h => h) (Or.inl ⟨by rfl, ?_⟩) (by assumption) ?_; rotate_left; focus (intro w hSw; (try dsimp only at hSw); first | (go_simp; done) | (go_simp; with_reducible rfl))
    try simp only [Act.put, List.setIfInBounds_toArray, List.set_cons_zero, List.set_cons_succ]
    refine wpAnyH_done (by kernel_rfl) ?_ _
    go_wp2_with fail
    go_meet
    exact ⟨rfl, hHeld.2.2.2.2.2.2.2.2.2⟩
  case rest =>
    obtain ⟨rfl, hbH⟩ := hcut
    have hb3 := hbH.out
    obtain ⟨w3, rfl⟩ : ∃ W, W = wc := ⟨_, rfl⟩
    clear hbH DD y0_0 y0_1 y0_2 y1_0 y1_1 y1_2 y1_3 y1_4 y1_5 
    have B3 := Lib.hid (B2.out.trans (hb3.mono B2.out.size))
    have hz3 : (w2).heap.size ≤ w3.heap.size := hb3.size
    clear hb3
    -- g0 := impl.FitsBerth(toBerth(aB), toShip(aS))
    have y0_0 : (w3).cell? ⟨w.heap.size, 0, none⟩ = some (.string d0.name) := cell_onV (ABX0.out.1) B3.out
    have y0_1 : (w3).cell? ⟨w.heap.size, 1, none⟩ = some (.int .i64 d0.length) := cell_onV (ABX0.out.2.1) B3.out
    have y0_2 : (w3).cell? ⟨w.heap.size, 2, none⟩ = some (.int .i64 d0.depth) := cell_onV (ABX0.out.2.2) B3.out
    have y1_0 : (w3).cell? ⟨w.heap.size + 1, 0, none⟩ = some (.string d1.name) := cell_onV (ABX1.out.1) B3.out
    have y1_1 : (w3).cell? ⟨w.heap.size + 1, 1, none⟩ = some (.int .i64 d1.length) := cell_onV (ABX1.out.2.1) B3.out
    have y1_2 : (w3).cell? ⟨w.heap.size + 1, 2, none⟩ = some (.int .i64 d1.draught) := cell_onV (ABX1.out.2.2.1) B3.out
    have y1_3 : (w3).cell? ⟨w.heap.size + 1, 3, none⟩ = some (.int .i64 d1.line) := cell_onV (ABX1.out.2.2.2.1) B3.out
    have y1_4 : (w3).cell? ⟨w.heap.size + 1, 4, none⟩ = some (.int .i64 d1.tugs) := cell_onV (ABX1.out.2.2.2.2.1) B3.out
    have y1_5 : (w3).cell? ⟨w.heap.size + 1, 5, none⟩ = some (.bool d1.slow) := cell_onV (ABX1.out.2.2.2.2.2) B3.out
    have DD := Lib.hid ((Below.refl (w3).heap.size (w3)).drew)
    go_upto_region 9 with fail
    go_cut [7] (fun sL wx => sL = .bool r0 ∧ Hid (Below (w3).heap.size (w3) wx))
    case first =>
      refine wp_region_held_drew (S := (fun w' => w'.cell? ⟨w.heap.size, 0, none⟩ = some (.string d0.name) ∧ w'.cell? ⟨w.heap.size, 1, none⟩ = some (.int .i64 d0.length) ∧ w'.cell? ⟨w.heap.size, 2, none⟩ = some (.int .i64 d0.depth) ∧ w'.cell? ⟨w.heap.size + 1, 0, none⟩ = some (.string d1.name) ∧ w'.cell? ⟨w.heap.size + 1, 1, none⟩ = some (.int .i64 d1.length) ∧ w'.cell? ⟨w.heap.size + 1, 2, none⟩ = some (.int .i64 d1.draught) ∧ w'.cell? ⟨w.heap.size + 1, 3, none⟩ = some (.int .i64 d1.line) ∧ w'.cell? ⟨w.heap.size + 1, 4, none⟩ = some (.int .i64 d1.tugs) ∧ w'.cell? ⟨w.heap.size + 1, 5, none⟩ = some (.bool d1.slow) ∧ Hid (Below (w3).heap.size (w3) w'))) (by kernel_rfl) ?_ (fun hHeld => ?_)
      · (try dsimp only); go_keep
      refine wpAnyH_take (i := 0) (v := ?_) (by simp only [List.getElem?_toArray, List.getElem?_cons_zero]; rfl) (by kernel_rfl) (by kernel_rfl) (by kernel_rfl) (by exact fun _ _ _ h => h) (Or.inl ⟨by rfl, ?_⟩) (by assumption) ?_; rotate_left; focus (intro w hSw; (try dsimp only at hSw); first | (go_simp; done) | (go_simp; with_reducible rfl))
      try simp only [Act.put, List.setIfInBounds_toArray, List.set_cons_zero, List.set_cons_succ]
      refine wpAnyH_take (i := 2) (v := ?_) (by simp only [List.getElem?_toArray, List.getElem?_cons_succ, List.getElem?_cons_zero]; rfl) (by kernel_rfl) (by kernel_rfl) (by kernel_rfl) (by exact fun _ _ _ h => h) (Or.inl ⟨by rfl, ?_⟩) (by assumption) ?_; rotate_left; focus (intro w hSw; (try dsimp only at hSw); first | (go_simp; done) | (go_simp; with_reducible rfl))
      try simp only [Act.put, List.setIfInBounds_toArray, List.set_cons_zero, List.set_cons_succ]
      refine wpAnyH_ready (rs := [1]) (by kernel_rfl) (by simp) ?_
      refine AllReadyH.cons rfl (fun K hK => ?_) AllReadyH.nil
      rw [if_pos (by rfl)]
      go_simp
      go_at_call 27
      have kB := hHeld.2.2.2.2.2.2.2.2.2
      refine (toBerth_any d0.name d0.length d0.depth _).mono ?_
      rintro e wt0 ⟨rfl, hbk⟩
      have HBK := kB.out.trans (hbk.mono kB.out.size)
      have QS0 := Lib.hid (show wt0.cell? ⟨w.heap.size, 0, none⟩ = some (.string d0.name) ∧ wt0.cell? ⟨w.heap.size, 1, none⟩ = some (.int .i64 d0.length) ∧ wt0.cell? ⟨w.heap.size, 2, none⟩ = some (.int .i64 d0.depth) ∧ wt0.cell? ⟨w.heap.size + 1, 0, none⟩ = some (.string d1.name) ∧ wt0.cell? ⟨w.heap.size + 1, 1, none⟩ = some (.int .i64 d1.length) ∧ wt0.cell? ⟨w.heap.size + 1, 2, none⟩ = some (.int .i64 d1.draught) ∧ wt0.cell? ⟨w.heap.size + 1, 3, none⟩ = some (.int .i64 d1.line) ∧ wt0.cell? ⟨w.heap.size + 1, 4, none⟩ = some (.int .i64 d1.tugs) ∧ wt0.cell? ⟨w.heap.size + 1, 5, none⟩ = some (.bool d1.slow) ∧ Hid (Below (w3).heap.size (w3) wt0) from ⟨cell_onV (cell_onV (ABX0.out.1) B3.out) HBK, cell_onV (cell_onV (ABX0.out.2.1) B3.out) HBK, cell_onV (cell_onV (ABX0.out.2.2) B3.out) HBK, cell_onV (cell_onV (ABX1.out.1) B3.out) HBK, cell_onV (cell_onV (ABX1.out.2.1) B3.out) HBK, cell_onV (cell_onV (ABX1.out.2.2.1) B3.out) HBK, cell_onV (cell_onV (ABX1.out.2.2.2.1) B3.out) HBK, cell_onV (cell_onV (ABX1.out.2.2.2.2.1) B3.out) HBK, cell_onV (cell_onV (ABX1.out.2.2.2.2.2) B3.out) HBK, Lib.hid HBK⟩)
      clear hbk kB hHeld HBK
      go_simp
      refine hK.out _ _ ?_ (fun hHeld => ?_)
      · (try dsimp only); exact QS0.out
      clear hK K
      try simp only [Act.put, List.setIfInBounds_toArray, List.set_cons_zero, List.set_cons_succ]
      refine wpAnyH_ready (rs := [3]) (by kernel_rfl) (by simp) ?_
      refine AllReadyH.cons rfl (fun K hK => ?_) AllReadyH.nil
      rw [if_pos (by rfl)]
      go_simp
      go_at_call 28
      have kB := hHeld.2.2.2.2.2.2.2.2.2
      refine (toShip_any d1.name d1.length d1.draught d1.line d1.tugs d1.slow _).mono ?_
      rintro e wt1 ⟨rfl, hbk⟩
      have HBK := kB.out.trans (hbk.mono kB.out.size)
      have QS1 := Lib.hid (show wt1.cell? ⟨w.heap.size, 0, none⟩ = some (.string d0.name) ∧ wt1.cell? ⟨w.heap.size, 1, none⟩ = some (.int .i64 d0.length) ∧ wt1.cell? ⟨w.heap.size, 2, none⟩ = some (.int .i64 d0.depth) ∧ wt1.cell? ⟨w.heap.size + 1, 0, none⟩ = some (.string d1.name) ∧ wt1.cell? ⟨w.heap.size + 1, 1, none⟩ = some (.int .i64 d1.length) ∧ wt1.cell? ⟨w.heap.size + 1, 2, none⟩ = some (.int .i64 d1.draught) ∧ wt1.cell? ⟨w.heap.size + 1, 3, none⟩ = some (.int .i64 d1.line) ∧ wt1.cell? ⟨w.heap.size + 1, 4, none⟩ = some (.int .i64 d1.tugs) ∧ wt1.cell? ⟨w.heap.size + 1, 5, none⟩ = some (.bool d1.slow) ∧ Hid (Below (w3).heap.size (w3) wt1) from ⟨cell_onV (cell_onV (ABX0.out.1) B3.out) HBK, cell_onV (cell_onV (ABX0.out.2.1) B3.out) HBK, cell_onV (cell_onV (ABX0.out.2.2) B3.out) HBK, cell_onV (cell_onV (ABX1.out.1) B3.out) HBK, cell_onV (cell_onV (ABX1.out.2.1) B3.out) HBK, cell_onV (cell_onV (ABX1.out.2.2.1) B3.out) HBK, cell_onV (cell_onV (ABX1.out.2.2.2.1) B3.out) HBK, cell_onV (cell_onV (ABX1.out.2.2.2.2.1) B3.out) HBK, cell_onV (cell_onV (ABX1.out.2.2.2.2.2) B3.out) HBK, Lib.hid HBK⟩)
      clear hbk kB hHeld HBK
      go_simp
      refine hK.out _ _ ?_ (fun hHeld => ?_)
      · (try dsimp only); exact QS1.out
      clear hK K
      try simp only [Act.put, List.setIfInBounds_toArray, List.set_cons_zero, List.set_cons_succ]
      refine wpAnyH_ready (rs := [4]) (by kernel_rfl) (by simp) ?_
      refine AllReadyH.cons rfl (fun K hK => ?_) AllReadyH.nil
      rw [if_pos (by rfl)]
      go_simp
      go_at_call 19
      have kB := hHeld.2.2.2.2.2.2.2.2.2
      refine (implFitsBerth d0 d1 _  hin0 hin1).mono ?_
      rw [HR0.out]
      rintro e wq ⟨rfl, hbk⟩
      have HBK := kB.out.trans (hbk.mono kB.out.size)
      have QQ := Lib.hid (show wq.cell? ⟨w.heap.size, 0, none⟩ = some (.string d0.name) ∧ wq.cell? ⟨w.heap.size, 1, none⟩ = some (.int .i64 d0.length) ∧ wq.cell? ⟨w.heap.size, 2, none⟩ = some (.int .i64 d0.depth) ∧ wq.cell? ⟨w.heap.size + 1, 0, none⟩ = some (.string d1.name) ∧ wq.cell? ⟨w.heap.size + 1, 1, none⟩ = some (.int .i64 d1.length) ∧ wq.cell? ⟨w.heap.size + 1, 2, none⟩ = some (.int .i64 d1.draught) ∧ wq.cell? ⟨w.heap.size + 1, 3, none⟩ = some (.int .i64 d1.line) ∧ wq.cell? ⟨w.heap.size + 1, 4, none⟩ = some (.int .i64 d1.tugs) ∧ wq.cell? ⟨w.heap.size + 1, 5, none⟩ = some (.bool d1.slow) ∧ Hid (Below (w3).heap.size (w3) wq) from ⟨cell_onV (cell_onV (ABX0.out.1) B3.out) HBK, cell_onV (cell_onV (ABX0.out.2.1) B3.out) HBK, cell_onV (cell_onV (ABX0.out.2.2) B3.out) HBK, cell_onV (cell_onV (ABX1.out.1) B3.out) HBK, cell_onV (cell_onV (ABX1.out.2.1) B3.out) HBK, cell_onV (cell_onV (ABX1.out.2.2.1) B3.out) HBK, cell_onV (cell_onV (ABX1.out.2.2.2.1) B3.out) HBK, cell_onV (cell_onV (ABX1.out.2.2.2.2.1) B3.out) HBK, cell_onV (cell_onV (ABX1.out.2.2.2.2.2) B3.out) HBK, Lib.hid HBK⟩)
      clear hbk kB hHeld HBK
      go_simp
      refine hK.out _ _ ?_ (fun hHeld => ?_)
      · (try dsimp only); exact QQ.out
      clear hK K
      try simp only [Act.put, List.setIfInBounds_toArray, List.set_cons_zero, List.set_cons_succ]
      refine wpAnyH_take (i := 5) (v := ?_) (by simp only [List.getElem?_toArray, List.getElem?_cons_succ, List.getElem?_cons_zero]; rfl) (by kernel_rfl) (by kernel_rfl) (by kernel_rfl) (by exact fun _ _ _ h => h) (Or.inl ⟨by rfl, ?_⟩) (by assumption) ?_; rotate_left; focus (intro w hSw; (try dsimp only at hSw); first | (go_simp; done) | (go_simp; with_reducible rfl))
      try simp only [Act.put, List.setIfInBounds_toArray, List.set_cons_zero, List.set_cons_succ]
      refine wpAnyH_done (by kernel_rfl) ?_ _
      go_wp2_with fail
      go_meet
      exact ⟨rfl, hHeld.2.2.2.2.2.2.2.2.2⟩
    case rest =>
      obtain ⟨rfl, hbH⟩ := hcut
      have hb4 := hbH.out
      obtain ⟨w4, rfl⟩ : ∃ W, W = wc := ⟨_, rfl⟩
      clear hbH DD y0_0 y0_1 y0_2 y1_0 y1_1 y1_2 y1_3 y1_4 y1_5 
      have B4 := Lib.hid (B3.out.trans (hb4.mono B3.out.size))
      have hz4 : (w3).heap.size ≤ w4.heap.size := hb4.size
      clear hb4
      -- if g0 != w0 {
      -- return true
      go_wp2
      go_ret
      exact ⟨rfl, BW.out.trans (B4.out.mono hs0)⟩

set_option maxRecDepth 100000 in
theorem lifted (os : Os) (started : os.Started) (H : Type) (enc : TypeId × Value → H) :
    ReturnsInHanded {} Try.checked os 5 .any (Rows.fnExactFitsBerthSpec.pre6 enc Try.prog Try.f5 Rows.fnExactFitsBerthRow.domain false) (Rows.fnExactFitsBerthSpec.post enc Try.prog Try.f5 false true false false) := by
  refine returnsInHanded_of_change (C := Try.checked) own started (by kernel_rfl) Try.func5
    (ChangeSpec.witness6 (enc := enc) (C := Try.checked) false ⟨#[], #[.agg #[.string ⟨#[]⟩, .int .i64 0, .int .i64 0], .agg #[.string ⟨#[]⟩, .int .i64 0, .int .i64 0, .int .i64 0, .int .i64 0, .bool false]], []⟩ 8 (by kernel_rfl) (by kernel_rfl) (by kernel_rfl) (by kernel_rfl)) ?_
  intro W base args ds gs before hval0 hW _ _
  have hval : ∀ (j : Nat) t v, Try.f5.params[j]? = some t → args[j]? = some v → Value.okWide Try.prog W .any base t v := hval0
  have hW' := hW
  obtain ⟨p, q, hA0, hV, rfl, _, _⟩ := hW
  have hA : DataW.TrodAll enc Try.prog W 0 (fun _ => true) true Try.f5.params.toList args.toList ds p := hA0
  rw [Try.params5] at hA hval
  obtain ⟨v0, vs0, d0, ds0, p0, q0, hargs, rfl, rfl, h0, r0⟩ := trodAll_cons hA
  obtain ⟨v1, vs1, d1, ds1, p1, q1, rfl, rfl, rfl, h1, r1⟩ := trodAll_cons r0
  obtain ⟨rfl, rfl, rfl⟩ := trodAll_nil r1
  obtain rfl : args = #[v0, v1] := by cases args; simp_all
  obtain ⟨d0', rfl, g0⟩ := open_berth_arg (hval 0 50 v0 rfl rfl) h0
  obtain ⟨d1', rfl, g1⟩ := open_ship_arg (hval 1 51 v1 rfl rfl) h1
  refine (law d0' d1' W g0 g1).mono fun e W' ⟨he, hb⟩ => ⟨_, he, ?_⟩
  exact law_post laidOut (by kernel_rfl) rfl (by kernel_rfl) Try.underlying4 rfl rfl rfl hW' hb

theorem holds : Rows.FnExactFitsBerthSaid :=
  OpenClaim.holds_of_wide 5 Try.f5 rfl rfl rfl rfl rfl rfl rfl ⟨rfl, rfl, rfl, rfl, rfl⟩ rfl rfl rfl rfl rfl (by kernel_rfl) Try.func5 (by kernel_rfl)
    (of_decide_eq_true (by kernel_rfl)) (by unfold Func.isWrapper; first | (rw [if_pos (by decide +kernel)]; kernel_rfl) | (rw [if_neg (by decide +kernel)]; exact ⟨rfl, rfl⟩))
    (fun os started H enc _ => lifted os started H enc)

end Go.Proofs.Ytghjfcnboocmjaa.exactFitsBerth
