
/- The exact law of PassagesOf holds for all arguments: impl.PassagesOf answers as its model, its answer owns its memory, and the arguments read as before. No condition. -/
import Derived.Test.YtooeikimoheecaaRows
import Derived.Test.YtooeikimoheecaaPa0
import Derived.Test.YtooeikimoheecaaPa22
import Derived.Test.YtooeikimoheecaaPa19
import Derived.Test.YtooeikimoheecaaPa7
import Derived.Test.YtooeikimoheecaaPa5
import Derived.Deep.RegionHeld3
import Derived.Deep.DeepCutAuto
namespace Go.Proofs.Ytooeikimoheecaa.exactPassagesOf
open Go.ChangeShapes Go.WideShapes Go.ChangeAt Go.RowKit
set_option maxRecDepth 100000
theorem own : ownKnob Try.prog.godebug = none := by kernel_rfl
theorem laidOut : laidOutB Try.prog = true := by kernel_rfl
set_option maxHeartbeats 16000000 in
theorem law (A0_0 : Option Addr) (c0_0 : Nat) (A0_1 : Option Addr) (c0_1 : Nat) (d0 : ChartD) (a1 : Int) (d2 : ShipD) (a3 : Int) (A4 : Option Addr) (c4 : Nat) (l4 : List IntD) (A5 : Option Addr) (c5 : Nat) (l5 : List IntD) (w : World) (hin0 : ChartIn w A0_0 A0_1 c0_0 c0_1 d0) (_ : (Lit.int .i64 a1).wf = true) (hin2 : d2.wf) (_ : (Lit.int .i64 a3).wf = true) (hin4 : l4.length ≤ maxLen ∧ (l4.length ≤ 1000000000 → SlInt w (.slice A4 l4.length c4) l4) ∧ ∀ x ∈ l4, IntD.wf x) (hin5 : l5.length ≤ maxLen ∧ (l5.length ≤ 1000000000 → SlInt w (.slice A5 l5.length c5) l5) ∧ ∀ x ∈ l5, IntD.wf x) :
    Calls Try.prog 6 #[.agg #[.slice A0_0 d0.points.length c0_0, .slice A0_1 d0.segs.length c0_1], .int .i64 a1, .agg #[.string d2.name, .int .i64 d2.length, .int .i64 d2.draught, .int .i64 d2.line, .int .i64 d2.tugs, .bool d2.slow], .int .i64 a3, .slice A4 l4.length c4, .slice A5 l5.length c5] w fun e w' => e = .returned (.bool true) ∧ Below w.heap.size w w' := by
  have hsz0 : SizChart w A0_0 A0_1 c0_0 c0_1 d0 := hin0
  clear hin0
  have SZ0 := Lib.hid hsz0
  obtain ⟨m0_0, s0_0, f0_0, m0_1, s0_1, f0_1⟩ := hsz0
  have SS0_0 := Lib.hid s0_0
  have SS0_1 := Lib.hid s0_1
  have WF0_0 := Lib.hid f0_0
  clear s0_0 f0_0 s0_1 f0_1
  have bp0 := bulkChart_pos d0
  obtain ⟨m4, s4, f4⟩ := hin4
  unfold maxLen at m4
  have SS4 := Lib.hid s4
  have FF4 := Lib.hid f4
  clear s4 f4
  obtain ⟨m5, s5, f5⟩ := hin5
  unfold maxLen at m5
  have SS5 := Lib.hid s5
  have FF5 := Lib.hid f5
  clear s5 f5
  have HB0 : Below w.heap.size w ((w.alloc (.cells #[.slice A0_0 d0.points.length c0_0, .slice A0_1 d0.segs.length c0_1] 58)).alloc (.cells #[.string d2.name, .int .i64 d2.length, .int .i64 d2.draught, .int .i64 d2.line, .int .i64 d2.tugs, .bool d2.slow] 72)) := by
    repeat (first | exact Below.refl _ _ | refine Below.alloc ?_ (by simp <;> omega) _)
  have BW := Lib.hid HB0
  clear HB0
  go_enter Try.func6, Try.ntmps6
  have B0 := Lib.hid (Below.refl (((w.alloc (.cells #[.slice A0_0 d0.points.length c0_0, .slice A0_1 d0.segs.length c0_1] 58)).alloc (.cells #[.string d2.name, .int .i64 d2.length, .int .i64 d2.draught, .int .i64 d2.line, .int .i64 d2.tugs, .bool d2.slow] 72))).heap.size ((w.alloc (.cells #[.slice A0_0 d0.points.length c0_0, .slice A0_1 d0.segs.length c0_1] 58)).alloc (.cells #[.string d2.name, .int .i64 d2.length, .int .i64 d2.draught, .int .i64 d2.line, .int .i64 d2.tugs, .bool d2.slow] 72)))
  have hs0 : w.heap.size ≤ (((w.alloc (.cells #[.slice A0_0 d0.points.length c0_0, .slice A0_1 d0.segs.length c0_1] 58)).alloc (.cells #[.string d2.name, .int .i64 d2.length, .int .i64 d2.draught, .int .i64 d2.line, .int .i64 d2.tugs, .bool d2.slow] 72))).heap.size := BW.out.size
  have ABX0 := Lib.hid (show (((w.alloc (.cells #[.slice A0_0 d0.points.length c0_0, .slice A0_1 d0.segs.length c0_1] 58)).alloc (.cells #[.string d2.name, .int .i64 d2.length, .int .i64 d2.draught, .int .i64 d2.line, .int .i64 d2.tugs, .bool d2.slow] 72))).cell? ⟨w.heap.size, 0, none⟩ = some (.slice A0_0 d0.points.length c0_0) ∧ (((w.alloc (.cells #[.slice A0_0 d0.points.length c0_0, .slice A0_1 d0.segs.length c0_1] 58)).alloc (.cells #[.string d2.name, .int .i64 d2.length, .int .i64 d2.draught, .int .i64 d2.line, .int .i64 d2.tugs, .bool d2.slow] 72))).cell? ⟨w.heap.size, 1, none⟩ = some (.slice A0_1 d0.segs.length c0_1) from by
    have hBk0 : Blk (w.alloc (.cells #[.slice A0_0 d0.points.length c0_0, .slice A0_1 d0.segs.length c0_1] 58)) (w.heap.size) #[.slice A0_0 d0.points.length c0_0, .slice A0_1 d0.segs.length c0_1] 58 := Blk.newAt (w := w) (by first | rfl | simp) _ _
    have hBk : Blk ((w.alloc (.cells #[.slice A0_0 d0.points.length c0_0, .slice A0_1 d0.segs.length c0_1] 58)).alloc (.cells #[.string d2.name, .int .i64 d2.length, .int .i64 d2.draught, .int .i64 d2.line, .int .i64 d2.tugs, .bool d2.slow] 72)) (w.heap.size) #[.slice A0_0 d0.points.length c0_0, .slice A0_1 d0.segs.length c0_1] 58 := hBk0.below (by repeat (first | exact Below.refl _ _ | refine Below.alloc ?_ (by simp) _))
    exact ⟨hBk.cell 0, hBk.cell 1⟩)
  have ABX2 := Lib.hid (show (((w.alloc (.cells #[.slice A0_0 d0.points.length c0_0, .slice A0_1 d0.segs.length c0_1] 58)).alloc (.cells #[.string d2.name, .int .i64 d2.length, .int .i64 d2.draught, .int .i64 d2.line, .int .i64 d2.tugs, .bool d2.slow] 72))).cell? ⟨w.heap.size + 1, 0, none⟩ = some (.string d2.name) ∧ (((w.alloc (.cells #[.slice A0_0 d0.points.length c0_0, .slice A0_1 d0.segs.length c0_1] 58)).alloc (.cells #[.string d2.name, .int .i64 d2.length, .int .i64 d2.draught, .int .i64 d2.line, .int .i64 d2.tugs, .bool d2.slow] 72))).cell? ⟨w.heap.size + 1, 1, none⟩ = some (.int .i64 d2.length) ∧ (((w.alloc (.cells #[.slice A0_0 d0.points.length c0_0, .slice A0_1 d0.segs.length c0_1] 58)).alloc (.cells #[.string d2.name, .int .i64 d2.length, .int .i64 d2.draught, .int .i64 d2.line, .int .i64 d2.tugs, .bool d2.slow] 72))).cell? ⟨w.heap.size + 1, 2, none⟩ = some (.int .i64 d2.draught) ∧ (((w.alloc (.cells #[.slice A0_0 d0.points.length c0_0, .slice A0_1 d0.segs.length c0_1] 58)).alloc (.cells #[.string d2.name, .int .i64 d2.length, .int .i64 d2.draught, .int .i64 d2.line, .int .i64 d2.tugs, .bool d2.slow] 72))).cell? ⟨w.heap.size + 1, 3, none⟩ = some (.int .i64 d2.line) ∧ (((w.alloc (.cells #[.slice A0_0 d0.points.length c0_0, .slice A0_1 d0.segs.length c0_1] 58)).alloc (.cells #[.string d2.name, .int .i64 d2.length, .int .i64 d2.draught, .int .i64 d2.line, .int .i64 d2.tugs, .bool d2.slow] 72))).cell? ⟨w.heap.size + 1, 4, none⟩ = some (.int .i64 d2.tugs) ∧ (((w.alloc (.cells #[.slice A0_0 d0.points.length c0_0, .slice A0_1 d0.segs.length c0_1] 58)).alloc (.cells #[.string d2.name, .int .i64 d2.length, .int .i64 d2.draught, .int .i64 d2.line, .int .i64 d2.tugs, .bool d2.slow] 72))).cell? ⟨w.heap.size + 1, 5, none⟩ = some (.bool d2.slow) from by
    have hBk0 : Blk ((w.alloc (.cells #[.slice A0_0 d0.points.length c0_0, .slice A0_1 d0.segs.length c0_1] 58)).alloc (.cells #[.string d2.name, .int .i64 d2.length, .int .i64 d2.draught, .int .i64 d2.line, .int .i64 d2.tugs, .bool d2.slow] 72)) (w.heap.size + 1) #[.string d2.name, .int .i64 d2.length, .int .i64 d2.draught, .int .i64 d2.line, .int .i64 d2.tugs, .bool d2.slow] 72 := Blk.newAt (w := (w.alloc (.cells #[.slice A0_0 d0.points.length c0_0, .slice A0_1 d0.segs.length c0_1] 58))) (by first | rfl | simp) _ _
    have hBk : Blk ((w.alloc (.cells #[.slice A0_0 d0.points.length c0_0, .slice A0_1 d0.segs.length c0_1] 58)).alloc (.cells #[.string d2.name, .int .i64 d2.length, .int .i64 d2.draught, .int .i64 d2.line, .int .i64 d2.tugs, .bool d2.slow] 72)) (w.heap.size + 1) #[.string d2.name, .int .i64 d2.length, .int .i64 d2.draught, .int .i64 d2.line, .int .i64 d2.tugs, .bool d2.slow] 72 := hBk0.below (by repeat (first | exact Below.refl _ _ | refine Below.alloc ?_ (by simp) _))
    exact ⟨hBk.cell 0, hBk.cell 1, hBk.cell 2, hBk.cell 3, hBk.cell 4, hBk.cell 5⟩)
  obtain ⟨r0, hr0⟩ : ∃ r0, (passL d0 a1 d2 a3 l4 l5) = r0 := ⟨_, rfl⟩
  have HR0 := Lib.hid hr0
  clear hr0
  -- if len(aRoute) > 1<<20 {
  by_cases big4 : 1048576 < l4.length
  · go_wp2
    go_ret
    exact ⟨rfl, BW.out.trans (B0.out.mono hs0)⟩
  have R4 := Lib.hid (SS4.out (by omega))
  clear SS4
  -- if len(aStarts) > 1<<20 {
  by_cases big5 : 1048576 < l5.length
  · go_wp2
    go_ret
    exact ⟨rfl, BW.out.trans (B0.out.mono hs0)⟩
  have R5 := Lib.hid (SS5.out (by omega))
  clear SS5
  -- left := 1 << 20
  -- left = szChart(aC, left)
  have y0_0 : (((w.alloc (.cells #[.slice A0_0 d0.points.length c0_0, .slice A0_1 d0.segs.length c0_1] 58)).alloc (.cells #[.string d2.name, .int .i64 d2.length, .int .i64 d2.draught, .int .i64 d2.line, .int .i64 d2.tugs, .bool d2.slow] 72))).cell? ⟨w.heap.size, 0, none⟩ = some (.slice A0_0 d0.points.length c0_0) := cell_onV (ABX0.out.1) B0.out
  have y0_1 : (((w.alloc (.cells #[.slice A0_0 d0.points.length c0_0, .slice A0_1 d0.segs.length c0_1] 58)).alloc (.cells #[.string d2.name, .int .i64 d2.length, .int .i64 d2.draught, .int .i64 d2.line, .int .i64 d2.tugs, .bool d2.slow] 72))).cell? ⟨w.heap.size, 1, none⟩ = some (.slice A0_1 d0.segs.length c0_1) := cell_onV (ABX0.out.2) B0.out
  have hl1 : 0 ≤ (1048576 : Int) := by omega
  have hll1 : (1048576 : Int) ≤ 1048576 := by omega
  go_wp2_with fail
  refine (szChart_any _ _ _ _ d0 _ (SizChart.below SZ0.out (BW.out.trans (B0.out.mono hs0))) (1048576) hl1 hll1).mono ?_
  rintro e w1 ⟨rfl, hb1⟩
  have B1 := Lib.hid (B0.out.trans (hb1.mono B0.out.size))
  have hz1 : (((w.alloc (.cells #[.slice A0_0 d0.points.length c0_0, .slice A0_1 d0.segs.length c0_1] 58)).alloc (.cells #[.string d2.name, .int .i64 d2.length, .int .i64 d2.draught, .int .i64 d2.line, .int .i64 d2.tugs, .bool d2.slow] 72))).heap.size ≤ w1.heap.size := hb1.size
  clear hb1 y0_0 y0_1
  by_cases neg1 : (1048576 : Int) < bulkChart d0
  · rw [leftOf_no neg1]
    go_wp2
    go_ret
    exact ⟨rfl, BW.out.trans (B1.out.mono hs0)⟩
  rw [leftOf_yes neg1]
  have ne1 : ¬ (1048576 - bulkChart d0 : Int) < 0 := by omega
  have le0 := bulkChart_le d0
  have R0 : Hid (RdChart w (.slice A0_0 d0.points.length c0_0) (.slice A0_1 d0.segs.length c0_1) d0) := Lib.hid ⟨SS0_0.out (by omega), SS0_1.out (by omega)⟩
  -- left = szShip(aS, left)
  have y2_0 : (w1).cell? ⟨w.heap.size + 1, 0, none⟩ = some (.string d2.name) := cell_onV (ABX2.out.1) B1.out
  have y2_1 : (w1).cell? ⟨w.heap.size + 1, 1, none⟩ = some (.int .i64 d2.length) := cell_onV (ABX2.out.2.1) B1.out
  have y2_2 : (w1).cell? ⟨w.heap.size + 1, 2, none⟩ = some (.int .i64 d2.draught) := cell_onV (ABX2.out.2.2.1) B1.out
  have y2_3 : (w1).cell? ⟨w.heap.size + 1, 3, none⟩ = some (.int .i64 d2.line) := cell_onV (ABX2.out.2.2.2.1) B1.out
  have y2_4 : (w1).cell? ⟨w.heap.size + 1, 4, none⟩ = some (.int .i64 d2.tugs) := cell_onV (ABX2.out.2.2.2.2.1) B1.out
  have y2_5 : (w1).cell? ⟨w.heap.size + 1, 5, none⟩ = some (.bool d2.slow) := cell_onV (ABX2.out.2.2.2.2.2) B1.out
  have hl2 : 0 ≤ (1048576 - bulkChart d0 : Int) := by omega
  have hll2 : (1048576 - bulkChart d0 : Int) ≤ 1048576 := by omega
  go_wp2_with fail
  refine (szShip_any d2.name d2.length d2.draught d2.line d2.tugs d2.slow (1048576 - bulkChart d0) _ hl2 hll2 (wfszShip hin2)).mono ?_
  rintro e w2 ⟨rfl, hb2⟩
  have B2 := Lib.hid (B1.out.trans (hb2.mono B1.out.size))
  have hz2 : (w1).heap.size ≤ w2.heap.size := hb2.size
  clear hb2 y2_0 y2_1 y2_2 y2_3 y2_4 y2_5
  have ps2 := oneShip_pos ⟨d2.name, d2.length, d2.draught, d2.line, d2.tugs, d2.slow⟩
  by_cases neg2 : (1048576 - bulkChart d0 : Int) < oneShip ⟨d2.name, d2.length, d2.draught, d2.line, d2.tugs, d2.slow⟩
  · rw [leftOf_no neg2]
    go_wp2
    go_ret
    exact ⟨rfl, BW.out.trans (B2.out.mono hs0)⟩
  rw [leftOf_yes neg2]
  have ne2 : ¬ (1048576 - bulkChart d0 - oneShip ⟨d2.name, d2.length, d2.draught, d2.line, d2.tugs, d2.slow⟩ : Int) < 0 := by omega
  -- w0 := spec.PassagesOf(toChart(aC), aShip, toShip(aS), aFrom, toIntS(aRoute), toIntS(aStarts))
  have y0_0 : (w2).cell? ⟨w.heap.size, 0, none⟩ = some (.slice A0_0 d0.points.length c0_0) := cell_onV (ABX0.out.1) B2.out
  have y0_1 : (w2).cell? ⟨w.heap.size, 1, none⟩ = some (.slice A0_1 d0.segs.length c0_1) := cell_onV (ABX0.out.2) B2.out
  have y2_0 : (w2).cell? ⟨w.heap.size + 1, 0, none⟩ = some (.string d2.name) := cell_onV (ABX2.out.1) B2.out
  have y2_1 : (w2).cell? ⟨w.heap.size + 1, 1, none⟩ = some (.int .i64 d2.length) := cell_onV (ABX2.out.2.1) B2.out
  have y2_2 : (w2).cell? ⟨w.heap.size + 1, 2, none⟩ = some (.int .i64 d2.draught) := cell_onV (ABX2.out.2.2.1) B2.out
  have y2_3 : (w2).cell? ⟨w.heap.size + 1, 3, none⟩ = some (.int .i64 d2.line) := cell_onV (ABX2.out.2.2.2.1) B2.out
  have y2_4 : (w2).cell? ⟨w.heap.size + 1, 4, none⟩ = some (.int .i64 d2.tugs) := cell_onV (ABX2.out.2.2.2.2.1) B2.out
  have y2_5 : (w2).cell? ⟨w.heap.size + 1, 5, none⟩ = some (.bool d2.slow) := cell_onV (ABX2.out.2.2.2.2.2) B2.out
  have DD := Lib.hid ((Below.refl (w2).heap.size (w2)).drew)
  have hlen : r0.length ≤ 10000000 := by rw [← HR0.out]; exact (Nat.le_trans (passL_len _ _ _ _ _ _) (by omega))
  go_upto_region 12 with fail
  go_cut [14] (fun sL wx => ∃ v, sL = v ∧ Hid (OwnPassage wx (w2).heap.size v r0) ∧ Hid (Below (w2).heap.size (w2) wx))
  case first =>
    refine wp_region_held_drew (S := (fun w' => w'.cell? ⟨w.heap.size, 0, none⟩ = some (.slice A0_0 d0.points.length c0_0) ∧ w'.cell? ⟨w.heap.size, 1, none⟩ = some (.slice A0_1 d0.segs.length c0_1) ∧ w'.cell? ⟨w.heap.size + 1, 0, none⟩ = some (.string d2.name) ∧ w'.cell? ⟨w.heap.size + 1, 1, none⟩ = some (.int .i64 d2.length) ∧ w'.cell? ⟨w.heap.size + 1, 2, none⟩ = some (.int .i64 d2.draught) ∧ w'.cell? ⟨w.heap.size + 1, 3, none⟩ = some (.int .i64 d2.line) ∧ w'.cell? ⟨w.heap.size + 1, 4, none⟩ = some (.int .i64 d2.tugs) ∧ w'.cell? ⟨w.heap.size + 1, 5, none⟩ = some (.bool d2.slow) ∧ Hid (Below (w2).heap.size (w2) w'))) (by kernel_rfl) ?_ (fun hHeld => ?_)
    · (try dsimp only); go_keep
    refine wpAnyH_take (i := 0) (v := ?_) (by simp only [List.getElem?_toArray, List.getElem?_cons_zero]; rfl) (by kernel_rfl) (by kernel_rfl) (by kernel_rfl) (by exact fun _ _ _ h => h) (Or.inl ⟨by rfl, ?_⟩) (by assumption) ?_; rotate_left; focus (intro w hSw; (try dsimp only at hSw); first | (go_simp; done) | (go_simp; with_reducible rfl))
    try simp only [Act.put, List.setIfInBounds_toArray, List.set_cons_zero, List.set_cons_succ]
    refine wpAnyH_take (i := 2) (v := ?_) (by simp only [List.getElem?_toArray, List.getElem?_cons_succ, List.getElem?_cons_zero]; rfl) (by kernel_rfl) (by kernel_rfl) (by kernel_rfl) (by exact fun _ _ _ h => h) (Or.inl ⟨by rfl, ?_⟩) (by assumption) ?_; rotate_left; focus (intro w hSw; (try dsimp only at hSw); first | (go_simp; done) | (go_simp; with_reducible rfl))
    try simp only [Act.put, List.setIfInBounds_toArray, List.set_cons_zero, List.set_cons_succ]
    refine wpAnyH_take (i := 3) (v := ?_) (by simp only [List.getElem?_toArray, List.getElem?_cons_succ, List.getElem?_cons_zero]; rfl) (by kernel_rfl) (by kernel_rfl) (by kernel_rfl) (by exact fun _ _ _ h => h) (Or.inl ⟨by rfl, ?_⟩) (by assumption) ?_; rotate_left; focus (intro w hSw; (try dsimp only at hSw); first | (go_simp; done) | (go_simp; with_reducible rfl))
    try simp only [Act.put, List.setIfInBounds_toArray, List.set_cons_zero, List.set_cons_succ]
    refine wpAnyH_take (i := 5) (v := ?_) (by simp only [List.getElem?_toArray, List.getElem?_cons_succ, List.getElem?_cons_zero]; rfl) (by kernel_rfl) (by kernel_rfl) (by kernel_rfl) (by exact fun _ _ _ h => h) (Or.inl ⟨by rfl, ?_⟩) (by assumption) ?_; rotate_left; focus (intro w hSw; (try dsimp only at hSw); first | (go_simp; done) | (go_simp; with_reducible rfl))
    try simp only [Act.put, List.setIfInBounds_toArray, List.set_cons_zero, List.set_cons_succ]
    refine wpAnyH_take (i := 6) (v := ?_) (by simp only [List.getElem?_toArray, List.getElem?_cons_succ, List.getElem?_cons_zero]; rfl) (by kernel_rfl) (by kernel_rfl) (by kernel_rfl) (by exact fun _ _ _ h => h) (Or.inl ⟨by rfl, ?_⟩) (by assumption) ?_; rotate_left; focus (intro w hSw; (try dsimp only at hSw); first | (go_simp; done) | (go_simp; with_reducible rfl))
    try simp only [Act.put, List.setIfInBounds_toArray, List.set_cons_zero, List.set_cons_succ]
    refine wpAnyH_take (i := 8) (v := ?_) (by simp only [List.getElem?_toArray, List.getElem?_cons_succ, List.getElem?_cons_zero]; rfl) (by kernel_rfl) (by kernel_rfl) (by kernel_rfl) (by exact fun _ _ _ h => h) (Or.inl ⟨by rfl, ?_⟩) (by assumption) ?_; rotate_left; focus (intro w hSw; (try dsimp only at hSw); first | (go_simp; done) | (go_simp; with_reducible rfl))
    try simp only [Act.put, List.setIfInBounds_toArray, List.set_cons_zero, List.set_cons_succ]
    refine wpAnyH_ready (rs := [1]) (by kernel_rfl) (by simp) ?_
    refine AllReadyH.cons rfl (fun K hK => ?_) AllReadyH.nil
    rw [if_pos (by rfl)]
    go_simp
    go_at_call 18
    have kB := hHeld.2.2.2.2.2.2.2.2
    refine (toChart_any _ _ d0 _ (R0.out.below (BW.out.trans ((B2.out.trans (kB.out.mono B2.out.size)).mono hs0)))).mono ?_
    intro e wt0 hN
    obtain ⟨Q0_0, q0_0, Q0_1, q0_1, rfl, hRD, hbk⟩ := hN.rd (by omega) (by omega)
    have HRD0 := Lib.hid hRD
    have HBK := kB.out.trans (hbk.mono kB.out.size)
    have QS0 := Lib.hid (show wt0.cell? ⟨w.heap.size, 0, none⟩ = some (.slice A0_0 d0.points.length c0_0) ∧ wt0.cell? ⟨w.heap.size, 1, none⟩ = some (.slice A0_1 d0.segs.length c0_1) ∧ wt0.cell? ⟨w.heap.size + 1, 0, none⟩ = some (.string d2.name) ∧ wt0.cell? ⟨w.heap.size + 1, 1, none⟩ = some (.int .i64 d2.length) ∧ wt0.cell? ⟨w.heap.size + 1, 2, none⟩ = some (.int .i64 d2.draught) ∧ wt0.cell? ⟨w.heap.size + 1, 3, none⟩ = some (.int .i64 d2.line) ∧ wt0.cell? ⟨w.heap.size + 1, 4, none⟩ = some (.int .i64 d2.tugs) ∧ wt0.cell? ⟨w.heap.size + 1, 5, none⟩ = some (.bool d2.slow) ∧ Hid (Below (w2).heap.size (w2) wt0) from ⟨cell_onV (cell_onV (ABX0.out.1) B2.out) HBK, cell_onV (cell_onV (ABX0.out.2) B2.out) HBK, cell_onV (cell_onV (ABX2.out.1) B2.out) HBK, cell_onV (cell_onV (ABX2.out.2.1) B2.out) HBK, cell_onV (cell_onV (ABX2.out.2.2.1) B2.out) HBK, cell_onV (cell_onV (ABX2.out.2.2.2.1) B2.out) HBK, cell_onV (cell_onV (ABX2.out.2.2.2.2.1) B2.out) HBK, cell_onV (cell_onV (ABX2.out.2.2.2.2.2) B2.out) HBK, Lib.hid HBK⟩)
    clear hbk kB hHeld hN hRD HBK
    go_simp
    refine hK.out _ _ ?_ (fun hHeld => ?_)
    · (try dsimp only); exact QS0.out
    clear hK K
    try simp only [Act.put, List.setIfInBounds_toArray, List.set_cons_zero, List.set_cons_succ]
    refine wpAnyH_ready (rs := [4]) (by kernel_rfl) (by simp) ?_
    refine AllReadyH.cons rfl (fun K hK => ?_) AllReadyH.nil
    rw [if_pos (by rfl)]
    go_simp
    go_at_call 26
    have kB := hHeld.2.2.2.2.2.2.2.2
    refine (toShip_any d2.name d2.length d2.draught d2.line d2.tugs d2.slow _).mono ?_
    rintro e wt1 ⟨rfl, hbk⟩
    have HRD0' := Lib.hid (HRD0.out.below hbk)
    clear HRD0
    have HRD0 := HRD0'
    clear HRD0'
    have HBK := kB.out.trans (hbk.mono kB.out.size)
    have QS1 := Lib.hid (show wt1.cell? ⟨w.heap.size, 0, none⟩ = some (.slice A0_0 d0.points.length c0_0) ∧ wt1.cell? ⟨w.heap.size, 1, none⟩ = some (.slice A0_1 d0.segs.length c0_1) ∧ wt1.cell? ⟨w.heap.size + 1, 0, none⟩ = some (.string d2.name) ∧ wt1.cell? ⟨w.heap.size + 1, 1, none⟩ = some (.int .i64 d2.length) ∧ wt1.cell? ⟨w.heap.size + 1, 2, none⟩ = some (.int .i64 d2.draught) ∧ wt1.cell? ⟨w.heap.size + 1, 3, none⟩ = some (.int .i64 d2.line) ∧ wt1.cell? ⟨w.heap.size + 1, 4, none⟩ = some (.int .i64 d2.tugs) ∧ wt1.cell? ⟨w.heap.size + 1, 5, none⟩ = some (.bool d2.slow) ∧ Hid (Below (w2).heap.size (w2) wt1) from ⟨cell_onV (cell_onV (ABX0.out.1) B2.out) HBK, cell_onV (cell_onV (ABX0.out.2) B2.out) HBK, cell_onV (cell_onV (ABX2.out.1) B2.out) HBK, cell_onV (cell_onV (ABX2.out.2.1) B2.out) HBK, cell_onV (cell_onV (ABX2.out.2.2.1) B2.out) HBK, cell_onV (cell_onV (ABX2.out.2.2.2.1) B2.out) HBK, cell_onV (cell_onV (ABX2.out.2.2.2.2.1) B2.out) HBK, cell_onV (cell_onV (ABX2.out.2.2.2.2.2) B2.out) HBK, Lib.hid HBK⟩)
    clear hbk kB hHeld HBK
    go_simp
    refine hK.out _ _ ?_ (fun hHeld => ?_)
    · (try dsimp only); exact QS1.out
    clear hK K
    try simp only [Act.put, List.setIfInBounds_toArray, List.set_cons_zero, List.set_cons_succ]
    refine wpAnyH_ready (rs := [7]) (by kernel_rfl) (by simp) ?_
    refine AllReadyH.cons rfl (fun K hK => ?_) AllReadyH.nil
    rw [if_pos (by rfl)]
    go_simp
    go_at_call 27
    have kB := hHeld.2.2.2.2.2.2.2.2
    refine (toIntS_any _ l4 _ (R4.out.below (BW.out.trans ((B2.out.trans (kB.out.mono B2.out.size)).mono hs0)))).mono ?_
    rintro e wt2 ⟨uz2, rfl, oz2, hbk⟩
    have hRD := OwnInt.sl oz2 (by omega)
    obtain ⟨Dz2, kz2, rfl⟩ := own_form oz2
    have HRD0' := Lib.hid (HRD0.out.below hbk)
    clear HRD0
    have HRD0 := HRD0'
    clear HRD0'
    have HRD2 := Lib.hid hRD
    have HBK := kB.out.trans (hbk.mono kB.out.size)
    have QS2 := Lib.hid (show wt2.cell? ⟨w.heap.size, 0, none⟩ = some (.slice A0_0 d0.points.length c0_0) ∧ wt2.cell? ⟨w.heap.size, 1, none⟩ = some (.slice A0_1 d0.segs.length c0_1) ∧ wt2.cell? ⟨w.heap.size + 1, 0, none⟩ = some (.string d2.name) ∧ wt2.cell? ⟨w.heap.size + 1, 1, none⟩ = some (.int .i64 d2.length) ∧ wt2.cell? ⟨w.heap.size + 1, 2, none⟩ = some (.int .i64 d2.draught) ∧ wt2.cell? ⟨w.heap.size + 1, 3, none⟩ = some (.int .i64 d2.line) ∧ wt2.cell? ⟨w.heap.size + 1, 4, none⟩ = some (.int .i64 d2.tugs) ∧ wt2.cell? ⟨w.heap.size + 1, 5, none⟩ = some (.bool d2.slow) ∧ Hid (Below (w2).heap.size (w2) wt2) from ⟨cell_onV (cell_onV (ABX0.out.1) B2.out) HBK, cell_onV (cell_onV (ABX0.out.2) B2.out) HBK, cell_onV (cell_onV (ABX2.out.1) B2.out) HBK, cell_onV (cell_onV (ABX2.out.2.1) B2.out) HBK, cell_onV (cell_onV (ABX2.out.2.2.1) B2.out) HBK, cell_onV (cell_onV (ABX2.out.2.2.2.1) B2.out) HBK, cell_onV (cell_onV (ABX2.out.2.2.2.2.1) B2.out) HBK, cell_onV (cell_onV (ABX2.out.2.2.2.2.2) B2.out) HBK, Lib.hid HBK⟩)
    clear hbk kB hHeld oz2 hRD HBK
    go_simp
    refine hK.out _ _ ?_ (fun hHeld => ?_)
    · (try dsimp only); exact QS2.out
    clear hK K
    try simp only [Act.put, List.setIfInBounds_toArray, List.set_cons_zero, List.set_cons_succ]
    refine wpAnyH_ready (rs := [9]) (by kernel_rfl) (by simp) ?_
    refine AllReadyH.cons rfl (fun K hK => ?_) AllReadyH.nil
    rw [if_pos (by rfl)]
    go_simp
    go_at_call 27
    have kB := hHeld.2.2.2.2.2.2.2.2
    refine (toIntS_any _ l5 _ (R5.out.below (BW.out.trans ((B2.out.trans (kB.out.mono B2.out.size)).mono hs0)))).mono ?_
    rintro e wt3 ⟨uz3, rfl, oz3, hbk⟩
    have hRD := OwnInt.sl oz3 (by omega)
    obtain ⟨Dz3, kz3, rfl⟩ := own_form oz3
    have HRD0' := Lib.hid (HRD0.out.below hbk)
    clear HRD0
    have HRD0 := HRD0'
    clear HRD0'
    have HRD2' := Lib.hid (HRD2.out.below hbk)
    clear HRD2
    have HRD2 := HRD2'
    clear HRD2'
    have HRD3 := Lib.hid hRD
    have HBK := kB.out.trans (hbk.mono kB.out.size)
    have QS3 := Lib.hid (show wt3.cell? ⟨w.heap.size, 0, none⟩ = some (.slice A0_0 d0.points.length c0_0) ∧ wt3.cell? ⟨w.heap.size, 1, none⟩ = some (.slice A0_1 d0.segs.length c0_1) ∧ wt3.cell? ⟨w.heap.size + 1, 0, none⟩ = some (.string d2.name) ∧ wt3.cell? ⟨w.heap.size + 1, 1, none⟩ = some (.int .i64 d2.length) ∧ wt3.cell? ⟨w.heap.size + 1, 2, none⟩ = some (.int .i64 d2.draught) ∧ wt3.cell? ⟨w.heap.size + 1, 3, none⟩ = some (.int .i64 d2.line) ∧ wt3.cell? ⟨w.heap.size + 1, 4, none⟩ = some (.int .i64 d2.tugs) ∧ wt3.cell? ⟨w.heap.size + 1, 5, none⟩ = some (.bool d2.slow) ∧ Hid (Below (w2).heap.size (w2) wt3) from ⟨cell_onV (cell_onV (ABX0.out.1) B2.out) HBK, cell_onV (cell_onV (ABX0.out.2) B2.out) HBK, cell_onV (cell_onV (ABX2.out.1) B2.out) HBK, cell_onV (cell_onV (ABX2.out.2.1) B2.out) HBK, cell_onV (cell_onV (ABX2.out.2.2.1) B2.out) HBK, cell_onV (cell_onV (ABX2.out.2.2.2.1) B2.out) HBK, cell_onV (cell_onV (ABX2.out.2.2.2.2.1) B2.out) HBK, cell_onV (cell_onV (ABX2.out.2.2.2.2.2) B2.out) HBK, Lib.hid HBK⟩)
    clear hbk kB hHeld oz3 hRD HBK
    go_simp
    refine hK.out _ _ ?_ (fun hHeld => ?_)
    · (try dsimp only); exact QS3.out
    clear hK K
    try simp only [Act.put, List.setIfInBounds_toArray, List.set_cons_zero, List.set_cons_succ]
    refine wpAnyH_ready (rs := [10]) (by kernel_rfl) (by simp) ?_
    refine AllReadyH.cons rfl (fun K hK => ?_) AllReadyH.nil
    rw [if_pos (by rfl)]
    go_simp
    go_at_call 29
    have kB := hHeld.2.2.2.2.2.2.2.2
    refine (specPassagesOf _ _ d0 a1 d2 a3 _ l4 _ l5 _ HRD0.out HRD2.out HRD3.out WF0_0.out hin2).mono ?_
    intro e wq hN
    rw [HR0.out] at hN
    obtain ⟨uz, rfl, oz, hbk⟩ := hN
    have OZ := Lib.hid (own_lo (base' := (w2).heap.size) oz kB.out.size)
    obtain ⟨DZ, kz, rfl⟩ := own_form oz
    clear oz
    have HBK := kB.out.trans (hbk.mono kB.out.size)
    have QQ := Lib.hid (show wq.cell? ⟨w.heap.size, 0, none⟩ = some (.slice A0_0 d0.points.length c0_0) ∧ wq.cell? ⟨w.heap.size, 1, none⟩ = some (.slice A0_1 d0.segs.length c0_1) ∧ wq.cell? ⟨w.heap.size + 1, 0, none⟩ = some (.string d2.name) ∧ wq.cell? ⟨w.heap.size + 1, 1, none⟩ = some (.int .i64 d2.length) ∧ wq.cell? ⟨w.heap.size + 1, 2, none⟩ = some (.int .i64 d2.draught) ∧ wq.cell? ⟨w.heap.size + 1, 3, none⟩ = some (.int .i64 d2.line) ∧ wq.cell? ⟨w.heap.size + 1, 4, none⟩ = some (.int .i64 d2.tugs) ∧ wq.cell? ⟨w.heap.size + 1, 5, none⟩ = some (.bool d2.slow) ∧ Hid (Below (w2).heap.size (w2) wq) from ⟨cell_onV (cell_onV (ABX0.out.1) B2.out) HBK, cell_onV (cell_onV (ABX0.out.2) B2.out) HBK, cell_onV (cell_onV (ABX2.out.1) B2.out) HBK, cell_onV (cell_onV (ABX2.out.2.1) B2.out) HBK, cell_onV (cell_onV (ABX2.out.2.2.1) B2.out) HBK, cell_onV (cell_onV (ABX2.out.2.2.2.1) B2.out) HBK, cell_onV (cell_onV (ABX2.out.2.2.2.2.1) B2.out) HBK, cell_onV (cell_onV (ABX2.out.2.2.2.2.2) B2.out) HBK, Lib.hid HBK⟩)
    clear hbk kB hHeld HBK
    go_simp
    refine hK.out _ _ ?_ (fun hHeld => ?_)
    · (try dsimp only); exact QQ.out
    clear hK K
    try simp only [Act.put, List.setIfInBounds_toArray, List.set_cons_zero, List.set_cons_succ]
    refine wpAnyH_take (i := 11) (v := ?_) (by simp only [List.getElem?_toArray, List.getElem?_cons_succ, List.getElem?_cons_zero]; rfl) (by kernel_rfl) (by kernel_rfl) (by kernel_rfl) (by exact fun _ _ _ h => h) (Or.inl ⟨by rfl, ?_⟩) (by assumption) ?_; rotate_left; focus (intro w hSw; (try dsimp only at hSw); first | (go_simp; done) | (go_simp; with_reducible rfl))
    try simp only [Act.put, List.setIfInBounds_toArray, List.set_cons_zero, List.set_cons_succ]
    refine wpAnyH_done (by kernel_rfl) ?_ _
    go_wp2_with fail
    go_meet
    exact ⟨_, rfl, OZ, hHeld.2.2.2.2.2.2.2.2⟩
  case rest =>
    obtain ⟨u3, rfl, oH, hbH⟩ := hcut
    have o3 := oH.out
    clear oH
    have hb3 := hbH.out
    obtain ⟨w3, rfl⟩ : ∃ W, W = wc := ⟨_, rfl⟩
    clear hbH DD y0_0 y0_1 y2_0 y2_1 y2_2 y2_3 y2_4 y2_5 
    have S3 := Lib.hid (OwnPassage.sl o3 (by omega))
    have RG3 := Lib.hid (own_range o3)
    have FR3 := Lib.hid (own_freeV o3)
    obtain ⟨D3, k3, rfl⟩ := own_form o3
    have B3 := Lib.hid (B2.out.trans (hb3.mono B2.out.size))
    have hz3 : (w2).heap.size ≤ w3.heap.size := hb3.size
    clear hb3
    clear o3
    -- x0 := toChart(aC)
    have y0_0 : (w3).cell? ⟨w.heap.size, 0, none⟩ = some (.slice A0_0 d0.points.length c0_0) := cell_onV (ABX0.out.1) B3.out
    have y0_1 : (w3).cell? ⟨w.heap.size, 1, none⟩ = some (.slice A0_1 d0.segs.length c0_1) := cell_onV (ABX0.out.2) B3.out
    go_wp2_with fail
    refine (toChart_any _ _ d0 _ (R0.out.below (BW.out.trans (B3.out.mono hs0)))).mono ?_
    intro e w4 hN
    obtain ⟨u4_0, u4_1, rfl, o4_0, o4_1, ap4_0_1, hb4⟩ := hN
    have S4_0 := Lib.hid (OwnPoint.sl o4_0 (by omega))
    have RG4_0 := Lib.hid (own_range o4_0)
    have FR4_0 := Lib.hid (own_freeV o4_0)
    obtain ⟨D4_0, k4_0, rfl⟩ := own_form o4_0
    have S4_1 := Lib.hid (OwnSegment.sl o4_1 (by omega))
    have RG4_1 := Lib.hid (own_range o4_1)
    have FR4_1 := Lib.hid (own_freeV o4_1)
    obtain ⟨D4_1, k4_1, rfl⟩ := own_form o4_1
    have AP4_0_1 := Lib.hid ap4_0_1
    clear ap4_0_1
    have B4 := Lib.hid (B3.out.trans (hb4.mono B3.out.size))
    have w0_4 := Lib.hid (S3.out.below hb4)
    have w0F_4 := Lib.hid (FR3.out.below hb4)
    have hz4 : (w3).heap.size ≤ w4.heap.size := hb4.size
    clear hb4 o4_0 o4_1 y0_0 y0_1
    have BX_x0 := Lib.hid (ChartBox.new 32 (show RdChart w4 (.slice D4_0 d0.points.length k4_0) (.slice D4_1 d0.segs.length k4_1) d0 from ⟨S4_0.out, S4_1.out⟩))
    have hb4b := Joins.below_alloc1 w4 (.cells #[.slice D4_0 d0.points.length k4_0, .slice D4_1 d0.segs.length k4_1] 32)
    have B4x := Lib.hid (B4.out.trans (hb4b.mono B4.out.size))
    have w0_4x := Lib.hid (w0_4.out.below hb4b)
    have w0F_4x := Lib.hid (w0F_4.out.below hb4b)
    have FX_x0_0 := Lib.hid (FR4_0.out.below hb4b)
    have FX_x0_1 := Lib.hid (FR4_1.out.below hb4b)
    clear hb4b
    have hsx4 : ((w4.alloc (.cells #[.slice D4_0 d0.points.length k4_0, .slice D4_1 d0.segs.length k4_1] 32))).heap.size = w4.heap.size + 1 := by simp
    -- x4 := toIntS(aRoute)
    go_wp2_with fail
    refine (toIntS_any _ l4 _ (R4.out.below (BW.out.trans (B4x.out.mono hs0)))).mono ?_
    rintro e w5 ⟨u5, rfl, o5, hb5⟩
    have S5 := Lib.hid (OwnInt.sl o5 (by omega))
    have RG5 := Lib.hid (own_range o5)
    have FR5 := Lib.hid (own_freeV o5)
    obtain ⟨D5, k5, rfl⟩ := own_form o5
    have B5 := Lib.hid (B4x.out.trans (hb5.mono B4x.out.size))
    have w0_5 := Lib.hid (w0_4x.out.below hb5)
    have w0F_5 := Lib.hid (w0F_4x.out.below hb5)
    have x0_5 := Lib.hid (BX_x0.out.below hb5)
    have x0F0_5 := Lib.hid (FX_x0_0.out.below hb5)
    have x0F1_5 := Lib.hid (FX_x0_1.out.below hb5)
    have hz5 : ((w4.alloc (.cells #[.slice D4_0 d0.points.length k4_0, .slice D4_1 d0.segs.length k4_1] 32))).heap.size ≤ w5.heap.size := hb5.size
    clear hb5 o5
    -- x5 := toIntS(aStarts)
    go_wp2_with fail
    refine (toIntS_any _ l5 _ (R5.out.below (BW.out.trans (B5.out.mono hs0)))).mono ?_
    rintro e w6 ⟨u6, rfl, o6, hb6⟩
    have S6 := Lib.hid (OwnInt.sl o6 (by omega))
    have RG6 := Lib.hid (own_range o6)
    have FR6 := Lib.hid (own_freeV o6)
    obtain ⟨D6, k6, rfl⟩ := own_form o6
    have B6 := Lib.hid (B5.out.trans (hb6.mono B5.out.size))
    have w0_6 := Lib.hid (w0_5.out.below hb6)
    have w0F_6 := Lib.hid (w0F_5.out.below hb6)
    have x0_6 := Lib.hid (x0_5.out.below hb6)
    have x0F0_6 := Lib.hid (x0F0_5.out.below hb6)
    have x0F1_6 := Lib.hid (x0F1_5.out.below hb6)
    have x4_6 := Lib.hid (S5.out.below hb6)
    have x4F_6 := Lib.hid (FR5.out.below hb6)
    have hz6 : (w5).heap.size ≤ w6.heap.size := hb6.size
    clear hb6 o6
    -- g0 := impl.PassagesOf(x0, aShip, toShip(aS), aFrom, x4, x5)
    have y2_0 : (w6).cell? ⟨w.heap.size + 1, 0, none⟩ = some (.string d2.name) := cell_onV (ABX2.out.1) B6.out
    have y2_1 : (w6).cell? ⟨w.heap.size + 1, 1, none⟩ = some (.int .i64 d2.length) := cell_onV (ABX2.out.2.1) B6.out
    have y2_2 : (w6).cell? ⟨w.heap.size + 1, 2, none⟩ = some (.int .i64 d2.draught) := cell_onV (ABX2.out.2.2.1) B6.out
    have y2_3 : (w6).cell? ⟨w.heap.size + 1, 3, none⟩ = some (.int .i64 d2.line) := cell_onV (ABX2.out.2.2.2.1) B6.out
    have y2_4 : (w6).cell? ⟨w.heap.size + 1, 4, none⟩ = some (.int .i64 d2.tugs) := cell_onV (ABX2.out.2.2.2.2.1) B6.out
    have y2_5 : (w6).cell? ⟨w.heap.size + 1, 5, none⟩ = some (.bool d2.slow) := cell_onV (ABX2.out.2.2.2.2.2) B6.out
    obtain ⟨z_x0_0, z_x0_1, _⟩ := x0_6.out
    have DD := Lib.hid ((Below.refl (w6).heap.size (w6)).drew)
    go_upto_region 16 with fail
    go_cut [18] (fun sL wx => ∃ v, sL = v ∧ Hid (OwnPassage wx (w6).heap.size v r0) ∧ Hid (Below (w6).heap.size (w6) wx))
    case first =>
      refine wp_region_held_drew (S := (fun w' => w'.cell? ⟨w4.heap.size, 0, none⟩ = some (.slice D4_0 d0.points.length k4_0) ∧ w'.cell? ⟨w4.heap.size, 1, none⟩ = some (.slice D4_1 d0.segs.length k4_1) ∧ w'.cell? ⟨w.heap.size + 1, 0, none⟩ = some (.string d2.name) ∧ w'.cell? ⟨w.heap.size + 1, 1, none⟩ = some (.int .i64 d2.length) ∧ w'.cell? ⟨w.heap.size + 1, 2, none⟩ = some (.int .i64 d2.draught) ∧ w'.cell? ⟨w.heap.size + 1, 3, none⟩ = some (.int .i64 d2.line) ∧ w'.cell? ⟨w.heap.size + 1, 4, none⟩ = some (.int .i64 d2.tugs) ∧ w'.cell? ⟨w.heap.size + 1, 5, none⟩ = some (.bool d2.slow) ∧ Hid (Below (w6).heap.size (w6) w'))) (by kernel_rfl) ?_ (fun hHeld => ?_)
      · (try dsimp only); go_keep
      refine wpAnyH_take (i := 0) (v := ?_) (by simp only [List.getElem?_toArray, List.getElem?_cons_zero]; rfl) (by kernel_rfl) (by kernel_rfl) (by kernel_rfl) (by exact fun _ _ _ h => h) (Or.inl ⟨by rfl, ?_⟩) (by assumption) ?_; rotate_left; focus (intro w hSw; (try dsimp only at hSw); first | (go_simp; done) | (go_simp; with_reducible rfl))
      try simp only [Act.put, List.setIfInBounds_toArray, List.set_cons_zero, List.set_cons_succ]
      refine wpAnyH_take (i := 1) (v := ?_) (by simp only [List.getElem?_toArray, List.getElem?_cons_succ, List.getElem?_cons_zero]; rfl) (by kernel_rfl) (by kernel_rfl) (by kernel_rfl) (by exact fun _ _ _ h => h) (Or.inl ⟨by rfl, ?_⟩) (by assumption) ?_; rotate_left; focus (intro w hSw; (try dsimp only at hSw); first | (go_simp; done) | (go_simp; with_reducible rfl))
      try simp only [Act.put, List.setIfInBounds_toArray, List.set_cons_zero, List.set_cons_succ]
      refine wpAnyH_take (i := 2) (v := ?_) (by simp only [List.getElem?_toArray, List.getElem?_cons_succ, List.getElem?_cons_zero]; rfl) (by kernel_rfl) (by kernel_rfl) (by kernel_rfl) (by exact fun _ _ _ h => h) (Or.inl ⟨by rfl, ?_⟩) (by assumption) ?_; rotate_left; focus (intro w hSw; (try dsimp only at hSw); first | (go_simp; done) | (go_simp; with_reducible rfl))
      try simp only [Act.put, List.setIfInBounds_toArray, List.set_cons_zero, List.set_cons_succ]
      refine wpAnyH_take (i := 4) (v := ?_) (by simp only [List.getElem?_toArray, List.getElem?_cons_succ, List.getElem?_cons_zero]; rfl) (by kernel_rfl) (by kernel_rfl) (by kernel_rfl) (by exact fun _ _ _ h => h) (Or.inl ⟨by rfl, ?_⟩) (by assumption) ?_; rotate_left; focus (intro w hSw; (try dsimp only at hSw); first | (go_simp; done) | (go_simp; with_reducible rfl))
      try simp only [Act.put, List.setIfInBounds_toArray, List.set_cons_zero, List.set_cons_succ]
      refine wpAnyH_take (i := 5) (v := ?_) (by simp only [List.getElem?_toArray, List.getElem?_cons_succ, List.getElem?_cons_zero]; rfl) (by kernel_rfl) (by kernel_rfl) (by kernel_rfl) (by exact fun _ _ _ h => h) (Or.inl ⟨by rfl, ?_⟩) (by assumption) ?_; rotate_left; focus (intro w hSw; (try dsimp only at hSw); first | (go_simp; done) | (go_simp; with_reducible rfl))
      try simp only [Act.put, List.setIfInBounds_toArray, List.set_cons_zero, List.set_cons_succ]
      refine wpAnyH_take (i := 6) (v := ?_) (by simp only [List.getElem?_toArray, List.getElem?_cons_succ, List.getElem?_cons_zero]; rfl) (by kernel_rfl) (by kernel_rfl) (by kernel_rfl) (by exact fun _ _ _ h => h) (Or.inl ⟨by rfl, ?_⟩) (by assumption) ?_; rotate_left; focus (intro w hSw; (try dsimp only at hSw); first | (go_simp; done) | (go_simp; with_reducible rfl))
      try simp only [Act.put, List.setIfInBounds_toArray, List.set_cons_zero, List.set_cons_succ]
      refine wpAnyH_ready (rs := [3]) (by kernel_rfl) (by simp) ?_
      refine AllReadyH.cons rfl (fun K hK => ?_) AllReadyH.nil
      rw [if_pos (by rfl)]
      go_simp
      go_at_call 26
      have kB := hHeld.2.2.2.2.2.2.2.2
      refine (toShip_any d2.name d2.length d2.draught d2.line d2.tugs d2.slow _).mono ?_
      rintro e wt0 ⟨rfl, hbk⟩
      have HBK := kB.out.trans (hbk.mono kB.out.size)
      have QS0 := Lib.hid (show wt0.cell? ⟨w4.heap.size, 0, none⟩ = some (.slice D4_0 d0.points.length k4_0) ∧ wt0.cell? ⟨w4.heap.size, 1, none⟩ = some (.slice D4_1 d0.segs.length k4_1) ∧ wt0.cell? ⟨w.heap.size + 1, 0, none⟩ = some (.string d2.name) ∧ wt0.cell? ⟨w.heap.size + 1, 1, none⟩ = some (.int .i64 d2.length) ∧ wt0.cell? ⟨w.heap.size + 1, 2, none⟩ = some (.int .i64 d2.draught) ∧ wt0.cell? ⟨w.heap.size + 1, 3, none⟩ = some (.int .i64 d2.line) ∧ wt0.cell? ⟨w.heap.size + 1, 4, none⟩ = some (.int .i64 d2.tugs) ∧ wt0.cell? ⟨w.heap.size + 1, 5, none⟩ = some (.bool d2.slow) ∧ Hid (Below (w6).heap.size (w6) wt0) from ⟨(x0_6.out.below HBK).1, (x0_6.out.below HBK).2.1, cell_onV (cell_onV (ABX2.out.1) B6.out) HBK, cell_onV (cell_onV (ABX2.out.2.1) B6.out) HBK, cell_onV (cell_onV (ABX2.out.2.2.1) B6.out) HBK, cell_onV (cell_onV (ABX2.out.2.2.2.1) B6.out) HBK, cell_onV (cell_onV (ABX2.out.2.2.2.2.1) B6.out) HBK, cell_onV (cell_onV (ABX2.out.2.2.2.2.2) B6.out) HBK, Lib.hid HBK⟩)
      clear hbk kB hHeld HBK
      go_simp
      refine hK.out _ _ ?_ (fun hHeld => ?_)
      · (try dsimp only); exact QS0.out
      clear hK K
      try simp only [Act.put, List.setIfInBounds_toArray, List.set_cons_zero, List.set_cons_succ]
      refine wpAnyH_ready (rs := [7]) (by kernel_rfl) (by simp) ?_
      refine AllReadyH.cons rfl (fun K hK => ?_) AllReadyH.nil
      rw [if_pos (by rfl)]
      go_simp
      go_at_call 30
      have kB := hHeld.2.2.2.2.2.2.2.2
      refine (implPassagesOf _ _ d0 a1 d2 a3 _ l4 _ l5 _ (x0_6.out.below kB.out).2.2 (x4_6.out.below kB.out) (S6.out.below kB.out) WF0_0.out hin2).mono ?_
      intro e wq hN
      rw [HR0.out] at hN
      obtain ⟨uz, rfl, oz, hbk⟩ := hN
      have OZ := Lib.hid (own_lo (base' := (w6).heap.size) oz kB.out.size)
      obtain ⟨DZ, kz, rfl⟩ := own_form oz
      clear oz
      have HBK := kB.out.trans (hbk.mono kB.out.size)
      have QQ := Lib.hid (show wq.cell? ⟨w4.heap.size, 0, none⟩ = some (.slice D4_0 d0.points.length k4_0) ∧ wq.cell? ⟨w4.heap.size, 1, none⟩ = some (.slice D4_1 d0.segs.length k4_1) ∧ wq.cell? ⟨w.heap.size + 1, 0, none⟩ = some (.string d2.name) ∧ wq.cell? ⟨w.heap.size + 1, 1, none⟩ = some (.int .i64 d2.length) ∧ wq.cell? ⟨w.heap.size + 1, 2, none⟩ = some (.int .i64 d2.draught) ∧ wq.cell? ⟨w.heap.size + 1, 3, none⟩ = some (.int .i64 d2.line) ∧ wq.cell? ⟨w.heap.size + 1, 4, none⟩ = some (.int .i64 d2.tugs) ∧ wq.cell? ⟨w.heap.size + 1, 5, none⟩ = some (.bool d2.slow) ∧ Hid (Below (w6).heap.size (w6) wq) from ⟨(x0_6.out.below HBK).1, (x0_6.out.below HBK).2.1, cell_onV (cell_onV (ABX2.out.1) B6.out) HBK, cell_onV (cell_onV (ABX2.out.2.1) B6.out) HBK, cell_onV (cell_onV (ABX2.out.2.2.1) B6.out) HBK, cell_onV (cell_onV (ABX2.out.2.2.2.1) B6.out) HBK, cell_onV (cell_onV (ABX2.out.2.2.2.2.1) B6.out) HBK, cell_onV (cell_onV (ABX2.out.2.2.2.2.2) B6.out) HBK, Lib.hid HBK⟩)
      clear hbk kB hHeld HBK
      go_simp
      refine hK.out _ _ ?_ (fun hHeld => ?_)
      · (try dsimp only); exact QQ.out
      clear hK K
      try simp only [Act.put, List.setIfInBounds_toArray, List.set_cons_zero, List.set_cons_succ]
      refine wpAnyH_take (i := 8) (v := ?_) (by simp only [List.getElem?_toArray, List.getElem?_cons_succ, List.getElem?_cons_zero]; rfl) (by kernel_rfl) (by kernel_rfl) (by kernel_rfl) (by exact fun _ _ _ h => h) (Or.inl ⟨by rfl, ?_⟩) (by assumption) ?_; rotate_left; focus (intro w hSw; (try dsimp only at hSw); first | (go_simp; done) | (go_simp; with_reducible rfl))
      try simp only [Act.put, List.setIfInBounds_toArray, List.set_cons_zero, List.set_cons_succ]
      refine wpAnyH_done (by kernel_rfl) ?_ _
      go_wp2_with fail
      go_meet
      exact ⟨_, rfl, OZ, hHeld.2.2.2.2.2.2.2.2⟩
    case rest =>
      obtain ⟨u7, rfl, oH, hbH⟩ := hcut
      have o7 := oH.out
      clear oH
      have hb7 := hbH.out
      obtain ⟨w7, rfl⟩ : ∃ W, W = wc := ⟨_, rfl⟩
      clear hbH DD y2_0 y2_1 y2_2 y2_3 y2_4 y2_5 z_x0_0 z_x0_1
      have S7 := Lib.hid (OwnPassage.sl o7 (by omega))
      have RG7 := Lib.hid (own_range o7)
      have FR7 := Lib.hid (own_freeV o7)
      obtain ⟨D7, k7, rfl⟩ := own_form o7
      have B7 := Lib.hid (B6.out.trans (hb7.mono B6.out.size))
      have w0_7 := Lib.hid (w0_6.out.below hb7)
      have w0F_7 := Lib.hid (w0F_6.out.below hb7)
      have x0_7 := Lib.hid (x0_6.out.below hb7)
      have x0F0_7 := Lib.hid (x0F0_6.out.below hb7)
      have x0F1_7 := Lib.hid (x0F1_6.out.below hb7)
      have x4_7 := Lib.hid (x4_6.out.below hb7)
      have x4F_7 := Lib.hid (x4F_6.out.below hb7)
      have x5_7 := Lib.hid (S6.out.below hb7)
      have x5F_7 := Lib.hid (FR6.out.below hb7)
      have hz7 : (w6).heap.size ≤ w7.heap.size := hb7.size
      clear hb7
      clear o7
      -- if !eqPassageS(g0, w0) {
      go_wp2_with fail
      refine (eqPassageS_same _ _ r0 _ S7.out w0_7.out).mono ?_
      rintro e w8 ⟨rfl, hb8⟩
      have B8 := Lib.hid (B7.out.trans (hb8.mono B7.out.size))
      have w0_8 := Lib.hid (w0_7.out.below hb8)
      have w0F_8 := Lib.hid (w0F_7.out.below hb8)
      have x0_8 := Lib.hid (x0_7.out.below hb8)
      have x0F0_8 := Lib.hid (x0F0_7.out.below hb8)
      have x0F1_8 := Lib.hid (x0F1_7.out.below hb8)
      have x4_8 := Lib.hid (x4_7.out.below hb8)
      have x4F_8 := Lib.hid (x4F_7.out.below hb8)
      have x5_8 := Lib.hid (x5_7.out.below hb8)
      have x5F_8 := Lib.hid (x5F_7.out.below hb8)
      have g0_8 := Lib.hid (S7.out.below hb8)
      have g0F_8 := Lib.hid (FR7.out.below hb8)
      have hz8 : (w7).heap.size ≤ w8.heap.size := hb8.size
      clear hb8
      -- if !eqChart(x0, toChart(aC)) {
      have y0_0 : (w8).cell? ⟨w.heap.size, 0, none⟩ = some (.slice A0_0 d0.points.length c0_0) := cell_onV (ABX0.out.1) B8.out
      have y0_1 : (w8).cell? ⟨w.heap.size, 1, none⟩ = some (.slice A0_1 d0.segs.length c0_1) := cell_onV (ABX0.out.2) B8.out
      obtain ⟨z_x0_0, z_x0_1, _⟩ := x0_8.out
      have DD := Lib.hid ((Below.refl (w8).heap.size (w8)).drew)
      go_upto_region 19 with fail
      go_cut [72] (fun sL wx => sL = .bool false ∧ Hid (Below (w8).heap.size (w8) wx))
      case first =>
        refine wp_region_held_drew (S := (fun w' => w'.cell? ⟨w4.heap.size, 0, none⟩ = some (.slice D4_0 d0.points.length k4_0) ∧ w'.cell? ⟨w4.heap.size, 1, none⟩ = some (.slice D4_1 d0.segs.length k4_1) ∧ w'.cell? ⟨w.heap.size, 0, none⟩ = some (.slice A0_0 d0.points.length c0_0) ∧ w'.cell? ⟨w.heap.size, 1, none⟩ = some (.slice A0_1 d0.segs.length c0_1) ∧ Hid (Below (w8).heap.size (w8) w'))) (by kernel_rfl) ?_ (fun hHeld => ?_)
        · (try dsimp only); go_keep
        refine wpAnyH_take (i := 0) (v := ?_) (by simp only [List.getElem?_toArray, List.getElem?_cons_zero]; rfl) (by kernel_rfl) (by kernel_rfl) (by kernel_rfl) (by exact fun _ _ _ h => h) (Or.inl ⟨by rfl, ?_⟩) (by assumption) ?_; rotate_left; focus (intro w hSw; (try dsimp only at hSw); first | (go_simp; done) | (go_simp; with_reducible rfl))
        try simp only [Act.put, List.setIfInBounds_toArray, List.set_cons_zero, List.set_cons_succ]
        refine wpAnyH_take (i := 1) (v := ?_) (by simp only [List.getElem?_toArray, List.getElem?_cons_succ, List.getElem?_cons_zero]; rfl) (by kernel_rfl) (by kernel_rfl) (by kernel_rfl) (by exact fun _ _ _ h => h) (Or.inl ⟨by rfl, ?_⟩) (by assumption) ?_; rotate_left; focus (intro w hSw; (try dsimp only at hSw); first | (go_simp; done) | (go_simp; with_reducible rfl))
        try simp only [Act.put, List.setIfInBounds_toArray, List.set_cons_zero, List.set_cons_succ]
        refine wpAnyH_ready (rs := [2]) (by kernel_rfl) (by simp) ?_
        refine AllReadyH.cons rfl (fun K hK => ?_) AllReadyH.nil
        rw [if_pos (by rfl)]
        go_simp
        go_at_call 18
        have kB := hHeld.2.2.2.2
        refine (toChart_any _ _ d0 _ (R0.out.below (BW.out.trans ((B8.out.trans (kB.out.mono B8.out.size)).mono hs0)))).mono ?_
        intro e wt hN
        obtain ⟨Q0, q0, Q1, q1, rfl, hRD, hbk⟩ := hN.rd (by omega) (by omega)
        have HRD := Lib.hid hRD
        have HBK := kB.out.trans (hbk.mono kB.out.size)
        have QS := Lib.hid (show wt.cell? ⟨w4.heap.size, 0, none⟩ = some (.slice D4_0 d0.points.length k4_0) ∧ wt.cell? ⟨w4.heap.size, 1, none⟩ = some (.slice D4_1 d0.segs.length k4_1) ∧ wt.cell? ⟨w.heap.size, 0, none⟩ = some (.slice A0_0 d0.points.length c0_0) ∧ wt.cell? ⟨w.heap.size, 1, none⟩ = some (.slice A0_1 d0.segs.length c0_1) ∧ Hid (Below (w8).heap.size (w8) wt) from ⟨(x0_8.out.below HBK).1, (x0_8.out.below HBK).2.1, cell_onV (cell_onV (ABX0.out.1) B8.out) HBK, cell_onV (cell_onV (ABX0.out.2) B8.out) HBK, Lib.hid HBK⟩)
        clear hbk kB hHeld hN hRD HBK
        go_simp
        refine hK.out _ _ ?_ (fun hHeld => ?_)
        · (try dsimp only); exact QS.out
        clear hK K
        try simp only [Act.put, List.setIfInBounds_toArray, List.set_cons_zero, List.set_cons_succ]
        refine wpAnyH_ready (rs := [3]) (by kernel_rfl) (by simp) ?_
        refine AllReadyH.cons rfl (fun K hK => ?_) AllReadyH.nil
        rw [if_pos (by rfl)]
        go_simp
        go_at_call 22
        have kB := hHeld.2.2.2.2
        refine (eqChart_same _ _ _ _ d0 _ (x0_8.out.below kB.out).2.2 HRD.out).mono ?_
        rintro e wq ⟨rfl, hbk⟩
        have HBK := kB.out.trans (hbk.mono kB.out.size)
        have QQ := Lib.hid (show wq.cell? ⟨w4.heap.size, 0, none⟩ = some (.slice D4_0 d0.points.length k4_0) ∧ wq.cell? ⟨w4.heap.size, 1, none⟩ = some (.slice D4_1 d0.segs.length k4_1) ∧ wq.cell? ⟨w.heap.size, 0, none⟩ = some (.slice A0_0 d0.points.length c0_0) ∧ wq.cell? ⟨w.heap.size, 1, none⟩ = some (.slice A0_1 d0.segs.length c0_1) ∧ Hid (Below (w8).heap.size (w8) wq) from ⟨(x0_8.out.below HBK).1, (x0_8.out.below HBK).2.1, cell_onV (cell_onV (ABX0.out.1) B8.out) HBK, cell_onV (cell_onV (ABX0.out.2) B8.out) HBK, Lib.hid HBK⟩)
        clear hbk kB hHeld HBK
        go_simp
        refine hK.out _ _ ?_ (fun hHeld => ?_)
        · (try dsimp only); exact QQ.out
        clear hK K
        try simp only [Act.put, List.setIfInBounds_toArray, List.set_cons_zero, List.set_cons_succ]
        refine wpAnyH_take (i := 4) (v := ?_) (by simp only [List.getElem?_toArray, List.getElem?_cons_succ, List.getElem?_cons_zero]; rfl) (by kernel_rfl) (by kernel_rfl) (by kernel_rfl) (by exact fun _ _ _ h => h) (Or.inl ⟨by rfl, ?_⟩) (by assumption) ?_; rotate_left; focus (intro w hSw; (try dsimp only at hSw); first | (go_simp; done) | (go_simp; with_reducible rfl))
        try simp only [Act.put, List.setIfInBounds_toArray, List.set_cons_zero, List.set_cons_succ]
        refine wpAnyH_done (by kernel_rfl) ?_ _
        go_wp2_with fail
        go_meet
        exact ⟨rfl, hHeld.2.2.2.2⟩
      case rest =>
        obtain ⟨rfl, hbH⟩ := hcut
        have hb9 := hbH.out
        obtain ⟨w9, rfl⟩ : ∃ W, W = wc := ⟨_, rfl⟩
        clear hbH DD y0_0 y0_1 z_x0_0 z_x0_1
        have B9 := Lib.hid (B8.out.trans (hb9.mono B8.out.size))
        have w0_9 := Lib.hid (w0_8.out.below hb9)
        have w0F_9 := Lib.hid (w0F_8.out.below hb9)
        have x0_9 := Lib.hid (x0_8.out.below hb9)
        have x0F0_9 := Lib.hid (x0F0_8.out.below hb9)
        have x0F1_9 := Lib.hid (x0F1_8.out.below hb9)
        have x4_9 := Lib.hid (x4_8.out.below hb9)
        have x4F_9 := Lib.hid (x4F_8.out.below hb9)
        have x5_9 := Lib.hid (x5_8.out.below hb9)
        have x5F_9 := Lib.hid (x5F_8.out.below hb9)
        have g0_9 := Lib.hid (g0_8.out.below hb9)
        have g0F_9 := Lib.hid (g0F_8.out.below hb9)
        have hz9 : (w8).heap.size ≤ w9.heap.size := hb9.size
        clear hb9
        -- if !eqIntS(x4, toIntS(aRoute)) {
        go_wp2_with fail
        refine (toIntS_any _ l4 _ (R4.out.below (BW.out.trans (B9.out.mono hs0)))).mono ?_
        rintro e w10 ⟨u10, rfl, o10, hb10⟩
        have S10 := Lib.hid (OwnInt.sl o10 (by omega))
        have RG10 := Lib.hid (own_range o10)
        have FR10 := Lib.hid (own_freeV o10)
        obtain ⟨D10, k10, rfl⟩ := own_form o10
        have B10 := Lib.hid (B9.out.trans (hb10.mono B9.out.size))
        have w0_10 := Lib.hid (w0_9.out.below hb10)
        have w0F_10 := Lib.hid (w0F_9.out.below hb10)
        have x0_10 := Lib.hid (x0_9.out.below hb10)
        have x0F0_10 := Lib.hid (x0F0_9.out.below hb10)
        have x0F1_10 := Lib.hid (x0F1_9.out.below hb10)
        have x4_10 := Lib.hid (x4_9.out.below hb10)
        have x4F_10 := Lib.hid (x4F_9.out.below hb10)
        have x5_10 := Lib.hid (x5_9.out.below hb10)
        have x5F_10 := Lib.hid (x5F_9.out.below hb10)
        have g0_10 := Lib.hid (g0_9.out.below hb10)
        have g0F_10 := Lib.hid (g0F_9.out.below hb10)
        have hz10 : (w9).heap.size ≤ w10.heap.size := hb10.size
        clear hb10 o10
        go_wp2_with fail
        refine (eqIntS_same _ _ l4 _ x4_10.out S10.out).mono ?_
        rintro e w11 ⟨rfl, hb11⟩
        have B11 := Lib.hid (B10.out.trans (hb11.mono B10.out.size))
        have w0_11 := Lib.hid (w0_10.out.below hb11)
        have w0F_11 := Lib.hid (w0F_10.out.below hb11)
        have x0_11 := Lib.hid (x0_10.out.below hb11)
        have x0F0_11 := Lib.hid (x0F0_10.out.below hb11)
        have x0F1_11 := Lib.hid (x0F1_10.out.below hb11)
        have x4_11 := Lib.hid (x4_10.out.below hb11)
        have x4F_11 := Lib.hid (x4F_10.out.below hb11)
        have x5_11 := Lib.hid (x5_10.out.below hb11)
        have x5F_11 := Lib.hid (x5F_10.out.below hb11)
        have g0_11 := Lib.hid (g0_10.out.below hb11)
        have g0F_11 := Lib.hid (g0F_10.out.below hb11)
        have hz11 : (w10).heap.size ≤ w11.heap.size := hb11.size
        clear hb11
        -- if !eqIntS(x5, toIntS(aStarts)) {
        go_wp2_with fail
        refine (toIntS_any _ l5 _ (R5.out.below (BW.out.trans (B11.out.mono hs0)))).mono ?_
        rintro e w12 ⟨u12, rfl, o12, hb12⟩
        have S12 := Lib.hid (OwnInt.sl o12 (by omega))
        have RG12 := Lib.hid (own_range o12)
        have FR12 := Lib.hid (own_freeV o12)
        obtain ⟨D12, k12, rfl⟩ := own_form o12
        have B12 := Lib.hid (B11.out.trans (hb12.mono B11.out.size))
        have w0_12 := Lib.hid (w0_11.out.below hb12)
        have w0F_12 := Lib.hid (w0F_11.out.below hb12)
        have x0_12 := Lib.hid (x0_11.out.below hb12)
        have x0F0_12 := Lib.hid (x0F0_11.out.below hb12)
        have x0F1_12 := Lib.hid (x0F1_11.out.below hb12)
        have x4_12 := Lib.hid (x4_11.out.below hb12)
        have x4F_12 := Lib.hid (x4F_11.out.below hb12)
        have x5_12 := Lib.hid (x5_11.out.below hb12)
        have x5F_12 := Lib.hid (x5F_11.out.below hb12)
        have g0_12 := Lib.hid (g0_11.out.below hb12)
        have g0F_12 := Lib.hid (g0F_11.out.below hb12)
        have hz12 : (w11).heap.size ≤ w12.heap.size := hb12.size
        clear hb12 o12
        go_wp2_with fail
        refine (eqIntS_same _ _ l5 _ x5_12.out S12.out).mono ?_
        rintro e w13 ⟨rfl, hb13⟩
        have B13 := Lib.hid (B12.out.trans (hb13.mono B12.out.size))
        have w0_13 := Lib.hid (w0_12.out.below hb13)
        have w0F_13 := Lib.hid (w0F_12.out.below hb13)
        have x0_13 := Lib.hid (x0_12.out.below hb13)
        have x0F0_13 := Lib.hid (x0F0_12.out.below hb13)
        have x0F1_13 := Lib.hid (x0F1_12.out.below hb13)
        have x4_13 := Lib.hid (x4_12.out.below hb13)
        have x4F_13 := Lib.hid (x4F_12.out.below hb13)
        have x5_13 := Lib.hid (x5_12.out.below hb13)
        have x5F_13 := Lib.hid (x5F_12.out.below hb13)
        have g0_13 := Lib.hid (g0_12.out.below hb13)
        have g0F_13 := Lib.hid (g0F_12.out.below hb13)
        have hz13 : (w12).heap.size ≤ w13.heap.size := hb13.size
        clear hb13
        -- k := 1
        -- k = markChart(x0, k)
        obtain ⟨z_x0_0, z_x0_1, _⟩ := x0_13.out
        go_wp2_with fail
        refine (markChart_any _ _ d0 (1) _ _ _ x0_13.out.2.2 x0F0_13.out x0F1_13.out RG4_0.out RG4_1.out AP4_0_1.out (by omega) (by omega) (by omega) (by omega)).mono ?_
        rintro e w14 ⟨rfl, mm14_0, mm14_1, ht14⟩
        have B14 := Lib.hid (TouchR.below B13.out ht14 B13.out.size (by omega))
        have w0_14 := Lib.hid (SlOf.touch w0_13.out ht14 RG3.out (by omega))
        have w0F_14 := Lib.hid (FreeV.touch w0F_13.out ht14 RG3.out (by omega))
        have x4_14 := Lib.hid (SlOf.touch x4_13.out ht14 RG5.out (by omega))
        have x4F_14 := Lib.hid (FreeV.touch x4F_13.out ht14 RG5.out (by omega))
        have x5_14 := Lib.hid (SlOf.touch x5_13.out ht14 RG6.out (by omega))
        have x5F_14 := Lib.hid (FreeV.touch x5F_13.out ht14 RG6.out (by omega))
        have g0_14 := Lib.hid (SlOf.touch g0_13.out ht14 RG7.out (by omega))
        have g0F_14 := Lib.hid (FreeV.touch g0F_13.out ht14 RG7.out (by omega))
        have hz14 : (w13).heap.size ≤ w14.heap.size := ht14.size
        clear ht14 mm14_0 mm14_1 z_x0_0 z_x0_1
        -- k = markIntS(x4, k)
        go_wp2_with fail
        refine (markIntS_any _ l4 (1 + (d0.points.length : Int) * 2 + (d0.segs.length : Int) * 5) _ x4_14.out (fun g hg => (x4F_14.out g hg).1) (by omega) (by omega) (by omega)).mono ?_
        rintro e w15 ⟨rfl, mm15, hg15⟩
        have ht15 := touch_grown hg15 RG5.out
        have B15 := Lib.hid (TouchR.below B14.out ht15 B14.out.size (by omega))
        have w0_15 := Lib.hid (SlOf.touch w0_14.out ht15 RG3.out (by omega))
        have w0F_15 := Lib.hid (FreeV.touch w0F_14.out ht15 RG3.out (by omega))
        have x5_15 := Lib.hid (SlOf.touch x5_14.out ht15 RG6.out (by omega))
        have x5F_15 := Lib.hid (FreeV.touch x5F_14.out ht15 RG6.out (by omega))
        have g0_15 := Lib.hid (SlOf.touch g0_14.out ht15 RG7.out (by omega))
        have g0F_15 := Lib.hid (FreeV.touch g0F_14.out ht15 RG7.out (by omega))
        have hz15 : (w14).heap.size ≤ w15.heap.size := ht15.size
        have MK_x4 := Lib.hid mm15
        clear ht15 hg15 mm15
        -- k = markIntS(x5, k)
        go_wp2_with fail
        refine (markIntS_any _ l5 (1 + (d0.points.length : Int) * 2 + (d0.segs.length : Int) * 5 + (l4.length : Int)) _ x5_15.out (fun g hg => (x5F_15.out g hg).1) (by omega) (by omega) (by omega)).mono ?_
        rintro e w16 ⟨rfl, mm16, hg16⟩
        have ht16 := touch_grown hg16 RG6.out
        have B16 := Lib.hid (TouchR.below B15.out ht16 B15.out.size (by omega))
        have w0_16 := Lib.hid (SlOf.touch w0_15.out ht16 RG3.out (by omega))
        have w0F_16 := Lib.hid (FreeV.touch w0F_15.out ht16 RG3.out (by omega))
        have g0_16 := Lib.hid (SlOf.touch g0_15.out ht16 RG7.out (by omega))
        have g0F_16 := Lib.hid (FreeV.touch g0F_15.out ht16 RG7.out (by omega))
        have mkx4_16 := Lib.hid (MarkedV.touch MK_x4.out ht16 RG5.out (by omega))
        have hz16 : (w15).heap.size ≤ w16.heap.size := ht16.size
        have MK_x5 := Lib.hid mm16
        clear ht16 hg16 mm16
        -- if k < 0 || !eqPassageS(g0, w0) {
        go_wp2_with fail
        refine (eqPassageS_same _ _ r0 _ g0_16.out w0_16.out).mono ?_
        rintro e w17 ⟨rfl, hb17⟩
        have B17 := Lib.hid (B16.out.trans (hb17.mono B16.out.size))
        have w0_17 := Lib.hid (w0_16.out.below hb17)
        have w0F_17 := Lib.hid (w0F_16.out.below hb17)
        have g0_17 := Lib.hid (g0_16.out.below hb17)
        have g0F_17 := Lib.hid (g0F_16.out.below hb17)
        have mkx4_17 := Lib.hid (mkx4_16.out.below hb17)
        have mkx5_17 := Lib.hid (MK_x5.out.below hb17)
        have hz17 : (w16).heap.size ≤ w17.heap.size := hb17.size
        clear hb17
        -- m := 1
        -- m = markPassageS(g0, m)
        go_wp2_with fail
        refine (markPassageS_any _ r0 (1) _ g0_17.out (fun g hg => (g0F_17.out g hg).1) (by omega) (by omega) (by omega)).mono ?_
        rintro e w18 ⟨rfl, mm18, hg18⟩
        have ht18 := touch_grown hg18 RG7.out
        have B18 := Lib.hid (TouchR.below B17.out ht18 B17.out.size (by omega))
        have w0_18 := Lib.hid (SlOf.touch w0_17.out ht18 RG3.out (by omega))
        have w0F_18 := Lib.hid (FreeV.touch w0F_17.out ht18 RG3.out (by omega))
        have mkx4_18 := Lib.hid (MarkedV.touch mkx4_17.out ht18 RG5.out (by omega))
        have mkx5_18 := Lib.hid (MarkedV.touch mkx5_17.out ht18 RG6.out (by omega))
        have hz18 : (w17).heap.size ≤ w18.heap.size := ht18.size
        have MK_g0 := Lib.hid mm18
        clear ht18 hg18 mm18
        -- q := 1
        -- q = heldPassageS(g0, q)
        go_wp2_with fail
        refine (heldPassageS_any _ r0.length D7 k7 rfl (1) _ MK_g0.out (by omega) (by omega) (by omega)).mono ?_
        rintro e w19 ⟨rfl, hb19⟩
        have B19 := Lib.hid (B18.out.trans (hb19.mono B18.out.size))
        have w0_19 := Lib.hid (w0_18.out.below hb19)
        have w0F_19 := Lib.hid (w0F_18.out.below hb19)
        have mkx4_19 := Lib.hid (mkx4_18.out.below hb19)
        have mkx5_19 := Lib.hid (mkx5_18.out.below hb19)
        have mkg0_19 := Lib.hid (MK_g0.out.below hb19)
        have hz19 : (w18).heap.size ≤ w19.heap.size := hb19.size
        clear hb19
        -- if q < 0 {
        -- if q != m {
        -- h0 := impl.PassagesOf(toChart(aC), aShip, toShip(aS), aFrom, toIntS(aRoute), toIntS(aStarts))
        have y0_0 : (w19).cell? ⟨w.heap.size, 0, none⟩ = some (.slice A0_0 d0.points.length c0_0) := cell_onV (ABX0.out.1) B19.out
        have y0_1 : (w19).cell? ⟨w.heap.size, 1, none⟩ = some (.slice A0_1 d0.segs.length c0_1) := cell_onV (ABX0.out.2) B19.out
        have y2_0 : (w19).cell? ⟨w.heap.size + 1, 0, none⟩ = some (.string d2.name) := cell_onV (ABX2.out.1) B19.out
        have y2_1 : (w19).cell? ⟨w.heap.size + 1, 1, none⟩ = some (.int .i64 d2.length) := cell_onV (ABX2.out.2.1) B19.out
        have y2_2 : (w19).cell? ⟨w.heap.size + 1, 2, none⟩ = some (.int .i64 d2.draught) := cell_onV (ABX2.out.2.2.1) B19.out
        have y2_3 : (w19).cell? ⟨w.heap.size + 1, 3, none⟩ = some (.int .i64 d2.line) := cell_onV (ABX2.out.2.2.2.1) B19.out
        have y2_4 : (w19).cell? ⟨w.heap.size + 1, 4, none⟩ = some (.int .i64 d2.tugs) := cell_onV (ABX2.out.2.2.2.2.1) B19.out
        have y2_5 : (w19).cell? ⟨w.heap.size + 1, 5, none⟩ = some (.bool d2.slow) := cell_onV (ABX2.out.2.2.2.2.2) B19.out
        have DD := Lib.hid ((Below.refl (w19).heap.size (w19)).drew)
        go_upto_region 39 with fail
        go_cut [22] (fun sL wx => ∃ v, sL = v ∧ Hid (OwnPassage wx (w19).heap.size v r0) ∧ Hid (Below (w19).heap.size (w19) wx))
        case first =>
          refine wp_region_held_drew (S := (fun w' => w'.cell? ⟨w.heap.size, 0, none⟩ = some (.slice A0_0 d0.points.length c0_0) ∧ w'.cell? ⟨w.heap.size, 1, none⟩ = some (.slice A0_1 d0.segs.length c0_1) ∧ w'.cell? ⟨w.heap.size + 1, 0, none⟩ = some (.string d2.name) ∧ w'.cell? ⟨w.heap.size + 1, 1, none⟩ = some (.int .i64 d2.length) ∧ w'.cell? ⟨w.heap.size + 1, 2, none⟩ = some (.int .i64 d2.draught) ∧ w'.cell? ⟨w.heap.size + 1, 3, none⟩ = some (.int .i64 d2.line) ∧ w'.cell? ⟨w.heap.size + 1, 4, none⟩ = some (.int .i64 d2.tugs) ∧ w'.cell? ⟨w.heap.size + 1, 5, none⟩ = some (.bool d2.slow) ∧ Hid (Below (w19).heap.size (w19) w'))) (by kernel_rfl) ?_ (fun hHeld => ?_)
          · (try dsimp only); go_keep
          refine wpAnyH_take (i := 0) (v := ?_) (by simp only [List.getElem?_toArray, List.getElem?_cons_zero]; rfl) (by kernel_rfl) (by kernel_rfl) (by kernel_rfl) (by exact fun _ _ _ h => h) (Or.inl ⟨by rfl, ?_⟩) (by assumption) ?_; rotate_left; focus (intro w hSw; (try dsimp only at hSw); first | (go_simp; done) | (go_simp; with_reducible rfl))
          try simp only [Act.put, List.setIfInBounds_toArray, List.set_cons_zero, List.set_cons_succ]
          refine wpAnyH_take (i := 2) (v := ?_) (by simp only [List.getElem?_toArray, List.getElem?_cons_succ, List.getElem?_cons_zero]; rfl) (by kernel_rfl) (by kernel_rfl) (by kernel_rfl) (by exact fun _ _ _ h => h) (Or.inl ⟨by rfl, ?_⟩) (by assumption) ?_; rotate_left; focus (intro w hSw; (try dsimp only at hSw); first | (go_simp; done) | (go_simp; with_reducible rfl))
          try simp only [Act.put, List.setIfInBounds_toArray, List.set_cons_zero, List.set_cons_succ]
          refine wpAnyH_take (i := 3) (v := ?_) (by simp only [List.getElem?_toArray, List.getElem?_cons_succ, List.getElem?_cons_zero]; rfl) (by kernel_rfl) (by kernel_rfl) (by kernel_rfl) (by exact fun _ _ _ h => h) (Or.inl ⟨by rfl, ?_⟩) (by assumption) ?_; rotate_left; focus (intro w hSw; (try dsimp only at hSw); first | (go_simp; done) | (go_simp; with_reducible rfl))
          try simp only [Act.put, List.setIfInBounds_toArray, List.set_cons_zero, List.set_cons_succ]
          refine wpAnyH_take (i := 5) (v := ?_) (by simp only [List.getElem?_toArray, List.getElem?_cons_succ, List.getElem?_cons_zero]; rfl) (by kernel_rfl) (by kernel_rfl) (by kernel_rfl) (by exact fun _ _ _ h => h) (Or.inl ⟨by rfl, ?_⟩) (by assumption) ?_; rotate_left; focus (intro w hSw; (try dsimp only at hSw); first | (go_simp; done) | (go_simp; with_reducible rfl))
          try simp only [Act.put, List.setIfInBounds_toArray, List.set_cons_zero, List.set_cons_succ]
          refine wpAnyH_take (i := 6) (v := ?_) (by simp only [List.getElem?_toArray, List.getElem?_cons_succ, List.getElem?_cons_zero]; rfl) (by kernel_rfl) (by kernel_rfl) (by kernel_rfl) (by exact fun _ _ _ h => h) (Or.inl ⟨by rfl, ?_⟩) (by assumption) ?_; rotate_left; focus (intro w hSw; (try dsimp only at hSw); first | (go_simp; done) | (go_simp; with_reducible rfl))
          try simp only [Act.put, List.setIfInBounds_toArray, List.set_cons_zero, List.set_cons_succ]
          refine wpAnyH_take (i := 8) (v := ?_) (by simp only [List.getElem?_toArray, List.getElem?_cons_succ, List.getElem?_cons_zero]; rfl) (by kernel_rfl) (by kernel_rfl) (by kernel_rfl) (by exact fun _ _ _ h => h) (Or.inl ⟨by rfl, ?_⟩) (by assumption) ?_; rotate_left; focus (intro w hSw; (try dsimp only at hSw); first | (go_simp; done) | (go_simp; with_reducible rfl))
          try simp only [Act.put, List.setIfInBounds_toArray, List.set_cons_zero, List.set_cons_succ]
          refine wpAnyH_ready (rs := [1]) (by kernel_rfl) (by simp) ?_
          refine AllReadyH.cons rfl (fun K hK => ?_) AllReadyH.nil
          rw [if_pos (by rfl)]
          go_simp
          go_at_call 18
          have kB := hHeld.2.2.2.2.2.2.2.2
          refine (toChart_any _ _ d0 _ (R0.out.below (BW.out.trans ((B19.out.trans (kB.out.mono B19.out.size)).mono hs0)))).mono ?_
          intro e wt0 hN
          obtain ⟨Q0_0, q0_0, Q0_1, q0_1, rfl, hRD, hbk⟩ := hN.rd (by omega) (by omega)
          have HRD0 := Lib.hid hRD
          have HBK := kB.out.trans (hbk.mono kB.out.size)
          have QS0 := Lib.hid (show wt0.cell? ⟨w.heap.size, 0, none⟩ = some (.slice A0_0 d0.points.length c0_0) ∧ wt0.cell? ⟨w.heap.size, 1, none⟩ = some (.slice A0_1 d0.segs.length c0_1) ∧ wt0.cell? ⟨w.heap.size + 1, 0, none⟩ = some (.string d2.name) ∧ wt0.cell? ⟨w.heap.size + 1, 1, none⟩ = some (.int .i64 d2.length) ∧ wt0.cell? ⟨w.heap.size + 1, 2, none⟩ = some (.int .i64 d2.draught) ∧ wt0.cell? ⟨w.heap.size + 1, 3, none⟩ = some (.int .i64 d2.line) ∧ wt0.cell? ⟨w.heap.size + 1, 4, none⟩ = some (.int .i64 d2.tugs) ∧ wt0.cell? ⟨w.heap.size + 1, 5, none⟩ = some (.bool d2.slow) ∧ Hid (Below (w19).heap.size (w19) wt0) from ⟨cell_onV (cell_onV (ABX0.out.1) B19.out) HBK, cell_onV (cell_onV (ABX0.out.2) B19.out) HBK, cell_onV (cell_onV (ABX2.out.1) B19.out) HBK, cell_onV (cell_onV (ABX2.out.2.1) B19.out) HBK, cell_onV (cell_onV (ABX2.out.2.2.1) B19.out) HBK, cell_onV (cell_onV (ABX2.out.2.2.2.1) B19.out) HBK, cell_onV (cell_onV (ABX2.out.2.2.2.2.1) B19.out) HBK, cell_onV (cell_onV (ABX2.out.2.2.2.2.2) B19.out) HBK, Lib.hid HBK⟩)
          clear hbk kB hHeld hN hRD HBK
          go_simp
          refine hK.out _ _ ?_ (fun hHeld => ?_)
          · (try dsimp only); exact QS0.out
          clear hK K
          try simp only [Act.put, List.setIfInBounds_toArray, List.set_cons_zero, List.set_cons_succ]
          refine wpAnyH_ready (rs := [4]) (by kernel_rfl) (by simp) ?_
          refine AllReadyH.cons rfl (fun K hK => ?_) AllReadyH.nil
          rw [if_pos (by rfl)]
          go_simp
          go_at_call 26
          have kB := hHeld.2.2.2.2.2.2.2.2
          refine (toShip_any d2.name d2.length d2.draught d2.line d2.tugs d2.slow _).mono ?_
          rintro e wt1 ⟨rfl, hbk⟩
          have HRD0' := Lib.hid (HRD0.out.below hbk)
          clear HRD0
          have HRD0 := HRD0'
          clear HRD0'
          have HBK := kB.out.trans (hbk.mono kB.out.size)
          have QS1 := Lib.hid (show wt1.cell? ⟨w.heap.size, 0, none⟩ = some (.slice A0_0 d0.points.length c0_0) ∧ wt1.cell? ⟨w.heap.size, 1, none⟩ = some (.slice A0_1 d0.segs.length c0_1) ∧ wt1.cell? ⟨w.heap.size + 1, 0, none⟩ = some (.string d2.name) ∧ wt1.cell? ⟨w.heap.size + 1, 1, none⟩ = some (.int .i64 d2.length) ∧ wt1.cell? ⟨w.heap.size + 1, 2, none⟩ = some (.int .i64 d2.draught) ∧ wt1.cell? ⟨w.heap.size + 1, 3, none⟩ = some (.int .i64 d2.line) ∧ wt1.cell? ⟨w.heap.size + 1, 4, none⟩ = some (.int .i64 d2.tugs) ∧ wt1.cell? ⟨w.heap.size + 1, 5, none⟩ = some (.bool d2.slow) ∧ Hid (Below (w19).heap.size (w19) wt1) from ⟨cell_onV (cell_onV (ABX0.out.1) B19.out) HBK, cell_onV (cell_onV (ABX0.out.2) B19.out) HBK, cell_onV (cell_onV (ABX2.out.1) B19.out) HBK, cell_onV (cell_onV (ABX2.out.2.1) B19.out) HBK, cell_onV (cell_onV (ABX2.out.2.2.1) B19.out) HBK, cell_onV (cell_onV (ABX2.out.2.2.2.1) B19.out) HBK, cell_onV (cell_onV (ABX2.out.2.2.2.2.1) B19.out) HBK, cell_onV (cell_onV (ABX2.out.2.2.2.2.2) B19.out) HBK, Lib.hid HBK⟩)
          clear hbk kB hHeld HBK
          go_simp
          refine hK.out _ _ ?_ (fun hHeld => ?_)
          · (try dsimp only); exact QS1.out
          clear hK K
          try simp only [Act.put, List.setIfInBounds_toArray, List.set_cons_zero, List.set_cons_succ]
          refine wpAnyH_ready (rs := [7]) (by kernel_rfl) (by simp) ?_
          refine AllReadyH.cons rfl (fun K hK => ?_) AllReadyH.nil
          rw [if_pos (by rfl)]
          go_simp
          go_at_call 27
          have kB := hHeld.2.2.2.2.2.2.2.2
          refine (toIntS_any _ l4 _ (R4.out.below (BW.out.trans ((B19.out.trans (kB.out.mono B19.out.size)).mono hs0)))).mono ?_
          rintro e wt2 ⟨uz2, rfl, oz2, hbk⟩
          have hRD := OwnInt.sl oz2 (by omega)
          obtain ⟨Dz2, kz2, rfl⟩ := own_form oz2
          have HRD0' := Lib.hid (HRD0.out.below hbk)
          clear HRD0
          have HRD0 := HRD0'
          clear HRD0'
          have HRD2 := Lib.hid hRD
          have HBK := kB.out.trans (hbk.mono kB.out.size)
          have QS2 := Lib.hid (show wt2.cell? ⟨w.heap.size, 0, none⟩ = some (.slice A0_0 d0.points.length c0_0) ∧ wt2.cell? ⟨w.heap.size, 1, none⟩ = some (.slice A0_1 d0.segs.length c0_1) ∧ wt2.cell? ⟨w.heap.size + 1, 0, none⟩ = some (.string d2.name) ∧ wt2.cell? ⟨w.heap.size + 1, 1, none⟩ = some (.int .i64 d2.length) ∧ wt2.cell? ⟨w.heap.size + 1, 2, none⟩ = some (.int .i64 d2.draught) ∧ wt2.cell? ⟨w.heap.size + 1, 3, none⟩ = some (.int .i64 d2.line) ∧ wt2.cell? ⟨w.heap.size + 1, 4, none⟩ = some (.int .i64 d2.tugs) ∧ wt2.cell? ⟨w.heap.size + 1, 5, none⟩ = some (.bool d2.slow) ∧ Hid (Below (w19).heap.size (w19) wt2) from ⟨cell_onV (cell_onV (ABX0.out.1) B19.out) HBK, cell_onV (cell_onV (ABX0.out.2) B19.out) HBK, cell_onV (cell_onV (ABX2.out.1) B19.out) HBK, cell_onV (cell_onV (ABX2.out.2.1) B19.out) HBK, cell_onV (cell_onV (ABX2.out.2.2.1) B19.out) HBK, cell_onV (cell_onV (ABX2.out.2.2.2.1) B19.out) HBK, cell_onV (cell_onV (ABX2.out.2.2.2.2.1) B19.out) HBK, cell_onV (cell_onV (ABX2.out.2.2.2.2.2) B19.out) HBK, Lib.hid HBK⟩)
          clear hbk kB hHeld oz2 hRD HBK
          go_simp
          refine hK.out _ _ ?_ (fun hHeld => ?_)
          · (try dsimp only); exact QS2.out
          clear hK K
          try simp only [Act.put, List.setIfInBounds_toArray, List.set_cons_zero, List.set_cons_succ]
          refine wpAnyH_ready (rs := [9]) (by kernel_rfl) (by simp) ?_
          refine AllReadyH.cons rfl (fun K hK => ?_) AllReadyH.nil
          rw [if_pos (by rfl)]
          go_simp
          go_at_call 27
          have kB := hHeld.2.2.2.2.2.2.2.2
          refine (toIntS_any _ l5 _ (R5.out.below (BW.out.trans ((B19.out.trans (kB.out.mono B19.out.size)).mono hs0)))).mono ?_
          rintro e wt3 ⟨uz3, rfl, oz3, hbk⟩
          have hRD := OwnInt.sl oz3 (by omega)
          obtain ⟨Dz3, kz3, rfl⟩ := own_form oz3
          have HRD0' := Lib.hid (HRD0.out.below hbk)
          clear HRD0
          have HRD0 := HRD0'
          clear HRD0'
          have HRD2' := Lib.hid (HRD2.out.below hbk)
          clear HRD2
          have HRD2 := HRD2'
          clear HRD2'
          have HRD3 := Lib.hid hRD
          have HBK := kB.out.trans (hbk.mono kB.out.size)
          have QS3 := Lib.hid (show wt3.cell? ⟨w.heap.size, 0, none⟩ = some (.slice A0_0 d0.points.length c0_0) ∧ wt3.cell? ⟨w.heap.size, 1, none⟩ = some (.slice A0_1 d0.segs.length c0_1) ∧ wt3.cell? ⟨w.heap.size + 1, 0, none⟩ = some (.string d2.name) ∧ wt3.cell? ⟨w.heap.size + 1, 1, none⟩ = some (.int .i64 d2.length) ∧ wt3.cell? ⟨w.heap.size + 1, 2, none⟩ = some (.int .i64 d2.draught) ∧ wt3.cell? ⟨w.heap.size + 1, 3, none⟩ = some (.int .i64 d2.line) ∧ wt3.cell? ⟨w.heap.size + 1, 4, none⟩ = some (.int .i64 d2.tugs) ∧ wt3.cell? ⟨w.heap.size + 1, 5, none⟩ = some (.bool d2.slow) ∧ Hid (Below (w19).heap.size (w19) wt3) from ⟨cell_onV (cell_onV (ABX0.out.1) B19.out) HBK, cell_onV (cell_onV (ABX0.out.2) B19.out) HBK, cell_onV (cell_onV (ABX2.out.1) B19.out) HBK, cell_onV (cell_onV (ABX2.out.2.1) B19.out) HBK, cell_onV (cell_onV (ABX2.out.2.2.1) B19.out) HBK, cell_onV (cell_onV (ABX2.out.2.2.2.1) B19.out) HBK, cell_onV (cell_onV (ABX2.out.2.2.2.2.1) B19.out) HBK, cell_onV (cell_onV (ABX2.out.2.2.2.2.2) B19.out) HBK, Lib.hid HBK⟩)
          clear hbk kB hHeld oz3 hRD HBK
          go_simp
          refine hK.out _ _ ?_ (fun hHeld => ?_)
          · (try dsimp only); exact QS3.out
          clear hK K
          try simp only [Act.put, List.setIfInBounds_toArray, List.set_cons_zero, List.set_cons_succ]
          refine wpAnyH_ready (rs := [10]) (by kernel_rfl) (by simp) ?_
          refine AllReadyH.cons rfl (fun K hK => ?_) AllReadyH.nil
          rw [if_pos (by rfl)]
          go_simp
          go_at_call 30
          have kB := hHeld.2.2.2.2.2.2.2.2
          refine (implPassagesOf _ _ d0 a1 d2 a3 _ l4 _ l5 _ HRD0.out HRD2.out HRD3.out WF0_0.out hin2).mono ?_
          intro e wq hN
          rw [HR0.out] at hN
          obtain ⟨uz, rfl, oz, hbk⟩ := hN
          have OZ := Lib.hid (own_lo (base' := (w19).heap.size) oz kB.out.size)
          obtain ⟨DZ, kz, rfl⟩ := own_form oz
          clear oz
          have HBK := kB.out.trans (hbk.mono kB.out.size)
          have QQ := Lib.hid (show wq.cell? ⟨w.heap.size, 0, none⟩ = some (.slice A0_0 d0.points.length c0_0) ∧ wq.cell? ⟨w.heap.size, 1, none⟩ = some (.slice A0_1 d0.segs.length c0_1) ∧ wq.cell? ⟨w.heap.size + 1, 0, none⟩ = some (.string d2.name) ∧ wq.cell? ⟨w.heap.size + 1, 1, none⟩ = some (.int .i64 d2.length) ∧ wq.cell? ⟨w.heap.size + 1, 2, none⟩ = some (.int .i64 d2.draught) ∧ wq.cell? ⟨w.heap.size + 1, 3, none⟩ = some (.int .i64 d2.line) ∧ wq.cell? ⟨w.heap.size + 1, 4, none⟩ = some (.int .i64 d2.tugs) ∧ wq.cell? ⟨w.heap.size + 1, 5, none⟩ = some (.bool d2.slow) ∧ Hid (Below (w19).heap.size (w19) wq) from ⟨cell_onV (cell_onV (ABX0.out.1) B19.out) HBK, cell_onV (cell_onV (ABX0.out.2) B19.out) HBK, cell_onV (cell_onV (ABX2.out.1) B19.out) HBK, cell_onV (cell_onV (ABX2.out.2.1) B19.out) HBK, cell_onV (cell_onV (ABX2.out.2.2.1) B19.out) HBK, cell_onV (cell_onV (ABX2.out.2.2.2.1) B19.out) HBK, cell_onV (cell_onV (ABX2.out.2.2.2.2.1) B19.out) HBK, cell_onV (cell_onV (ABX2.out.2.2.2.2.2) B19.out) HBK, Lib.hid HBK⟩)
          clear hbk kB hHeld HBK
          go_simp
          refine hK.out _ _ ?_ (fun hHeld => ?_)
          · (try dsimp only); exact QQ.out
          clear hK K
          try simp only [Act.put, List.setIfInBounds_toArray, List.set_cons_zero, List.set_cons_succ]
          refine wpAnyH_take (i := 11) (v := ?_) (by simp only [List.getElem?_toArray, List.getElem?_cons_succ, List.getElem?_cons_zero]; rfl) (by kernel_rfl) (by kernel_rfl) (by kernel_rfl) (by exact fun _ _ _ h => h) (Or.inl ⟨by rfl, ?_⟩) (by assumption) ?_; rotate_left; focus (intro w hSw; (try dsimp only at hSw); first | (go_simp; done) | (go_simp; with_reducible rfl))
          try simp only [Act.put, List.setIfInBounds_toArray, List.set_cons_zero, List.set_cons_succ]
          refine wpAnyH_done (by kernel_rfl) ?_ _
          go_wp2_with fail
          go_meet
          exact ⟨_, rfl, OZ, hHeld.2.2.2.2.2.2.2.2⟩
        case rest =>
          obtain ⟨u20, rfl, oH, hbH⟩ := hcut
          have o20 := oH.out
          clear oH
          have hb20 := hbH.out
          obtain ⟨w20, rfl⟩ : ∃ W, W = wc := ⟨_, rfl⟩
          clear hbH DD y0_0 y0_1 y2_0 y2_1 y2_2 y2_3 y2_4 y2_5 
          have S20 := Lib.hid (OwnPassage.sl o20 (by omega))
          have RG20 := Lib.hid (own_range o20)
          have FR20 := Lib.hid (own_freeV o20)
          obtain ⟨D20, k20, rfl⟩ := own_form o20
          have B20 := Lib.hid (B19.out.trans (hb20.mono B19.out.size))
          have w0_20 := Lib.hid (w0_19.out.below hb20)
          have w0F_20 := Lib.hid (w0F_19.out.below hb20)
          have mkx4_20 := Lib.hid (mkx4_19.out.below hb20)
          have mkx5_20 := Lib.hid (mkx5_19.out.below hb20)
          have mkg0_20 := Lib.hid (mkg0_19.out.below hb20)
          have hz20 : (w19).heap.size ≤ w20.heap.size := hb20.size
          clear hb20
          clear o20
          -- if !eqPassageS(h0, w0) {
          go_wp2_with fail
          refine (eqPassageS_same _ _ r0 _ S20.out w0_20.out).mono ?_
          rintro e w21 ⟨rfl, hb21⟩
          have B21 := Lib.hid (B20.out.trans (hb21.mono B20.out.size))
          have w0_21 := Lib.hid (w0_20.out.below hb21)
          have w0F_21 := Lib.hid (w0F_20.out.below hb21)
          have mkx4_21 := Lib.hid (mkx4_20.out.below hb21)
          have mkx5_21 := Lib.hid (mkx5_20.out.below hb21)
          have mkg0_21 := Lib.hid (mkg0_20.out.below hb21)
          have h0_21 := Lib.hid (S20.out.below hb21)
          have h0F_21 := Lib.hid (FR20.out.below hb21)
          have hz21 : (w20).heap.size ≤ w21.heap.size := hb21.size
          clear hb21
          -- q = 1
          -- q = heldPassageS(g0, q)
          go_wp2_with fail
          refine (heldPassageS_any _ r0.length D7 k7 rfl (1) _ mkg0_21.out (by omega) (by omega) (by omega)).mono ?_
          rintro e w22 ⟨rfl, hb22⟩
          have B22 := Lib.hid (B21.out.trans (hb22.mono B21.out.size))
          have w0_22 := Lib.hid (w0_21.out.below hb22)
          have w0F_22 := Lib.hid (w0F_21.out.below hb22)
          have mkx4_22 := Lib.hid (mkx4_21.out.below hb22)
          have mkx5_22 := Lib.hid (mkx5_21.out.below hb22)
          have mkg0_22 := Lib.hid (mkg0_21.out.below hb22)
          have h0_22 := Lib.hid (h0_21.out.below hb22)
          have h0F_22 := Lib.hid (h0F_21.out.below hb22)
          have hz22 : (w21).heap.size ≤ w22.heap.size := hb22.size
          clear hb22
          -- if q < 0 {
          -- if q != m {
          -- return true
          go_wp2
          go_ret
          exact ⟨rfl, BW.out.trans (B22.out.mono hs0)⟩
set_option maxRecDepth 100000 in
theorem lifted (os : Os) (started : os.Started) (H : Type) (enc : TypeId × Value → H) :
    ReturnsInHanded {} Try.checked os 6 .any (Rows.fnExactPassagesOfSpec.pre6 enc Try.prog Try.f6 Rows.fnExactPassagesOfRow.domain false) (Rows.fnExactPassagesOfSpec.post enc Try.prog Try.f6 false true false false) := by
  refine returnsInHanded_of_change (C := Try.checked) own started (by kernel_rfl) Try.func6
    (ChangeSpec.witness6 (enc := enc) (C := Try.checked) false ⟨#[], #[.agg #[.slice none 0 0, .slice none 0 0], .int .i64 0, .agg #[.string ⟨#[]⟩, .int .i64 0, .int .i64 0, .int .i64 0, .int .i64 0, .bool false], .int .i64 0, .slice none 0 0, .slice none 0 0], []⟩ 8 (by kernel_rfl) (by kernel_rfl) (by kernel_rfl) (by kernel_rfl)) ?_
  intro W base args ds gs before hval0 hW _ _
  have hval : ∀ (j : Nat) t v, Try.f6.params[j]? = some t → args[j]? = some v → Value.okWide Try.prog W .any base t v := hval0
  have hW' := hW
  obtain ⟨p, q, hA0, hV, rfl, _, _⟩ := hW
  have hA : DataW.TrodAll enc Try.prog W 0 (fun _ => true) true Try.f6.params.toList args.toList ds p := hA0
  rw [Try.params6] at hA hval
  obtain ⟨v0, vs0, d0, ds0, p0, q0, hargs, rfl, rfl, h0, r0⟩ := trodAll_cons hA
  obtain ⟨v1, vs1, d1, ds1, p1, q1, rfl, rfl, rfl, h1, r1⟩ := trodAll_cons r0
  obtain ⟨v2, vs2, d2, ds2, p2, q2, rfl, rfl, rfl, h2, r2⟩ := trodAll_cons r1
  obtain ⟨v3, vs3, d3, ds3, p3, q3, rfl, rfl, rfl, h3, r3⟩ := trodAll_cons r2
  obtain ⟨v4, vs4, d4, ds4, p4, q4, rfl, rfl, rfl, h4, r4⟩ := trodAll_cons r3
  obtain ⟨v5, vs5, d5, ds5, p5, q5, rfl, rfl, rfl, h5, r5⟩ := trodAll_cons r4
  obtain ⟨rfl, rfl, rfl⟩ := trodAll_nil r5
  obtain rfl : args = #[v0, v1, v2, v3, v4, v5] := by cases args; simp_all
  obtain ⟨A0_0, c0_0, A0_1, c0_1, d0', rfl, g0⟩ := open_chart_arg (hval 0 58 v0 rfl rfl) h0
  obtain ⟨a1, rfl, rfl, rfl, g1⟩ := open_int Try.underlying3 (hval 1 3 v1 rfl rfl) h1
  obtain ⟨d2', rfl, g2⟩ := open_ship_arg (hval 2 72 v2 rfl rfl) h2
  obtain ⟨a3, rfl, rfl, rfl, g3⟩ := open_int Try.underlying3 (hval 3 3 v3 rfl rfl) h3
  obtain ⟨A4, c4, l4, rfl, g4⟩ := open_ints_arg (hval 4 36 v4 rfl rfl) h4
  obtain ⟨A5, c5, l5, rfl, g5⟩ := open_ints_arg (hval 5 36 v5 rfl rfl) h5
  refine (law A0_0 c0_0 A0_1 c0_1 d0' a1 d2' a3 A4 c4 l4 A5 c5 l5 W g0 g1 g2 g3 g4 g5).mono fun e W' ⟨he, hb⟩ => ⟨_, he, ?_⟩
  exact law_post laidOut (by kernel_rfl) rfl (by kernel_rfl) Try.underlying4 rfl rfl rfl hW' hb
theorem holds : Rows.FnExactPassagesOfSaid :=
  OpenClaim.holds_of_wide 6 Try.f6 rfl rfl rfl rfl rfl rfl rfl ⟨rfl, rfl, rfl, rfl, rfl⟩ rfl rfl rfl rfl rfl (by kernel_rfl) Try.func6 (by kernel_rfl)
    (of_decide_eq_true (by kernel_rfl)) (by unfold Func.isWrapper; first | (rw [if_pos (by decide +kernel)]; kernel_rfl) | (rw [if_neg (by decide +kernel)]; exact ⟨rfl, rfl⟩))
    (fun os started H enc _ => lifted os started H enc)
end Go.Proofs.Ytooeikimoheecaa.exactPassagesOf
