
/- The exact law of LevelFor holds for all arguments: impl.LevelFor answers as its model, and the arguments read as before. No condition. -/
import Derived.Test.YtpimcbhjkednpaaRows
import Derived.Test.YtpimcbhjkednpaaNl0
import Derived.Test.YtpimcbhjkednpaaNl11
import Derived.Test.YtpimcbhjkednpaaNl12
import Derived.Test.YtpimcbhjkednpaaNl4
import Derived.Deep.RegionHeld3
import Derived.Deep.DeepCutAuto
namespace Go.Proofs.Ytpimcbhjkednpaa.exactLevelFor
open Go.ChangeShapes Go.WideShapes Go.ChangeAt Go.RowKit
set_option maxRecDepth 100000
theorem own : ownKnob Try.prog.godebug = none := by kernel_rfl
theorem laidOut : laidOutB Try.prog = true := by kernel_rfl
set_option maxHeartbeats 16000000 in
theorem law (A0_0 : Option Addr) (c0_0 : Nat) (A0_1 : Option Addr) (c0_1 : Nat) (d0 : ChartD) (a1 : Int) (d2 : ShipD) (w : World) (hin0 : ChartIn w A0_0 A0_1 c0_0 c0_1 d0) (_ : (Lit.int .i64 a1).wf = true) (hin2 : d2.wf) :
    Calls Try.prog 6 #[.agg #[.slice A0_0 d0.points.length c0_0, .slice A0_1 d0.segs.length c0_1], .int .i64 a1, .agg #[.string d2.name, .int .i64 d2.length, .int .i64 d2.draught, .int .i64 d2.line, .int .i64 d2.tugs, .bool d2.slow]] w fun e w' => e = .returned (.bool true) ∧ Below w.heap.size w w' := by
  have hsz0 : SizChart w A0_0 A0_1 c0_0 c0_1 d0 := hin0
  clear hin0
  have SZ0 := Lib.hid hsz0
  obtain ⟨m0_0, s0_0, f0_0, m0_1, s0_1, f0_1⟩ := hsz0
  have SS0_0 := Lib.hid s0_0
  have SS0_1 := Lib.hid s0_1
  have WF0_0 := Lib.hid f0_0
  clear s0_0 f0_0 s0_1 f0_1
  have bp0 := bulkChart_pos d0
  have HB0 : Below w.heap.size w ((w.alloc (.cells #[.slice A0_0 d0.points.length c0_0, .slice A0_1 d0.segs.length c0_1] 54)).alloc (.cells #[.string d2.name, .int .i64 d2.length, .int .i64 d2.draught, .int .i64 d2.line, .int .i64 d2.tugs, .bool d2.slow] 55)) := by
    repeat (first | exact Below.refl _ _ | refine Below.alloc ?_ (by simp <;> omega) _)
  have BW := Lib.hid HB0
  clear HB0
  go_enter Try.func6, Try.ntmps6
  have B0 := Lib.hid (Below.refl (((w.alloc (.cells #[.slice A0_0 d0.points.length c0_0, .slice A0_1 d0.segs.length c0_1] 54)).alloc (.cells #[.string d2.name, .int .i64 d2.length, .int .i64 d2.draught, .int .i64 d2.line, .int .i64 d2.tugs, .bool d2.slow] 55))).heap.size ((w.alloc (.cells #[.slice A0_0 d0.points.length c0_0, .slice A0_1 d0.segs.length c0_1] 54)).alloc (.cells #[.string d2.name, .int .i64 d2.length, .int .i64 d2.draught, .int .i64 d2.line, .int .i64 d2.tugs, .bool d2.slow] 55)))
  have hs0 : w.heap.size ≤ (((w.alloc (.cells #[.slice A0_0 d0.points.length c0_0, .slice A0_1 d0.segs.length c0_1] 54)).alloc (.cells #[.string d2.name, .int .i64 d2.length, .int .i64 d2.draught, .int .i64 d2.line, .int .i64 d2.tugs, .bool d2.slow] 55))).heap.size := BW.out.size
  have ABX0 := Lib.hid (show (((w.alloc (.cells #[.slice A0_0 d0.points.length c0_0, .slice A0_1 d0.segs.length c0_1] 54)).alloc (.cells #[.string d2.name, .int .i64 d2.length, .int .i64 d2.draught, .int .i64 d2.line, .int .i64 d2.tugs, .bool d2.slow] 55))).cell? ⟨w.heap.size, 0, none⟩ = some (.slice A0_0 d0.points.length c0_0) ∧ (((w.alloc (.cells #[.slice A0_0 d0.points.length c0_0, .slice A0_1 d0.segs.length c0_1] 54)).alloc (.cells #[.string d2.name, .int .i64 d2.length, .int .i64 d2.draught, .int .i64 d2.line, .int .i64 d2.tugs, .bool d2.slow] 55))).cell? ⟨w.heap.size, 1, none⟩ = some (.slice A0_1 d0.segs.length c0_1) from by
    have hBk0 : Blk (w.alloc (.cells #[.slice A0_0 d0.points.length c0_0, .slice A0_1 d0.segs.length c0_1] 54)) (w.heap.size) #[.slice A0_0 d0.points.length c0_0, .slice A0_1 d0.segs.length c0_1] 54 := Blk.newAt (w := w) (by first | rfl | simp) _ _
    have hBk : Blk ((w.alloc (.cells #[.slice A0_0 d0.points.length c0_0, .slice A0_1 d0.segs.length c0_1] 54)).alloc (.cells #[.string d2.name, .int .i64 d2.length, .int .i64 d2.draught, .int .i64 d2.line, .int .i64 d2.tugs, .bool d2.slow] 55)) (w.heap.size) #[.slice A0_0 d0.points.length c0_0, .slice A0_1 d0.segs.length c0_1] 54 := hBk0.below (by repeat (first | exact Below.refl _ _ | refine Below.alloc ?_ (by simp) _))
    exact ⟨hBk.cell 0, hBk.cell 1⟩)
  have ABX2 := Lib.hid (show (((w.alloc (.cells #[.slice A0_0 d0.points.length c0_0, .slice A0_1 d0.segs.length c0_1] 54)).alloc (.cells #[.string d2.name, .int .i64 d2.length, .int .i64 d2.draught, .int .i64 d2.line, .int .i64 d2.tugs, .bool d2.slow] 55))).cell? ⟨w.heap.size + 1, 0, none⟩ = some (.string d2.name) ∧ (((w.alloc (.cells #[.slice A0_0 d0.points.length c0_0, .slice A0_1 d0.segs.length c0_1] 54)).alloc (.cells #[.string d2.name, .int .i64 d2.length, .int .i64 d2.draught, .int .i64 d2.line, .int .i64 d2.tugs, .bool d2.slow] 55))).cell? ⟨w.heap.size + 1, 1, none⟩ = some (.int .i64 d2.length) ∧ (((w.alloc (.cells #[.slice A0_0 d0.points.length c0_0, .slice A0_1 d0.segs.length c0_1] 54)).alloc (.cells #[.string d2.name, .int .i64 d2.length, .int .i64 d2.draught, .int .i64 d2.line, .int .i64 d2.tugs, .bool d2.slow] 55))).cell? ⟨w.heap.size + 1, 2, none⟩ = some (.int .i64 d2.draught) ∧ (((w.alloc (.cells #[.slice A0_0 d0.points.length c0_0, .slice A0_1 d0.segs.length c0_1] 54)).alloc (.cells #[.string d2.name, .int .i64 d2.length, .int .i64 d2.draught, .int .i64 d2.line, .int .i64 d2.tugs, .bool d2.slow] 55))).cell? ⟨w.heap.size + 1, 3, none⟩ = some (.int .i64 d2.line) ∧ (((w.alloc (.cells #[.slice A0_0 d0.points.length c0_0, .slice A0_1 d0.segs.length c0_1] 54)).alloc (.cells #[.string d2.name, .int .i64 d2.length, .int .i64 d2.draught, .int .i64 d2.line, .int .i64 d2.tugs, .bool d2.slow] 55))).cell? ⟨w.heap.size + 1, 4, none⟩ = some (.int .i64 d2.tugs) ∧ (((w.alloc (.cells #[.slice A0_0 d0.points.length c0_0, .slice A0_1 d0.segs.length c0_1] 54)).alloc (.cells #[.string d2.name, .int .i64 d2.length, .int .i64 d2.draught, .int .i64 d2.line, .int .i64 d2.tugs, .bool d2.slow] 55))).cell? ⟨w.heap.size + 1, 5, none⟩ = some (.bool d2.slow) from by
    have hBk0 : Blk ((w.alloc (.cells #[.slice A0_0 d0.points.length c0_0, .slice A0_1 d0.segs.length c0_1] 54)).alloc (.cells #[.string d2.name, .int .i64 d2.length, .int .i64 d2.draught, .int .i64 d2.line, .int .i64 d2.tugs, .bool d2.slow] 55)) (w.heap.size + 1) #[.string d2.name, .int .i64 d2.length, .int .i64 d2.draught, .int .i64 d2.line, .int .i64 d2.tugs, .bool d2.slow] 55 := Blk.newAt (w := (w.alloc (.cells #[.slice A0_0 d0.points.length c0_0, .slice A0_1 d0.segs.length c0_1] 54))) (by first | rfl | simp) _ _
    have hBk : Blk ((w.alloc (.cells #[.slice A0_0 d0.points.length c0_0, .slice A0_1 d0.segs.length c0_1] 54)).alloc (.cells #[.string d2.name, .int .i64 d2.length, .int .i64 d2.draught, .int .i64 d2.line, .int .i64 d2.tugs, .bool d2.slow] 55)) (w.heap.size + 1) #[.string d2.name, .int .i64 d2.length, .int .i64 d2.draught, .int .i64 d2.line, .int .i64 d2.tugs, .bool d2.slow] 55 := hBk0.below (by repeat (first | exact Below.refl _ _ | refine Below.alloc ?_ (by simp) _))
    exact ⟨hBk.cell 0, hBk.cell 1, hBk.cell 2, hBk.cell 3, hBk.cell 4, hBk.cell 5⟩)
  obtain ⟨r0, hr0⟩ : ∃ r0, (levForI d0 a1 d2) = r0 := ⟨_, rfl⟩
  have HR0 := Lib.hid hr0
  clear hr0
  -- left := 1 << 20
  -- left = szChart(aC, left)
  have y0_0 : (((w.alloc (.cells #[.slice A0_0 d0.points.length c0_0, .slice A0_1 d0.segs.length c0_1] 54)).alloc (.cells #[.string d2.name, .int .i64 d2.length, .int .i64 d2.draught, .int .i64 d2.line, .int .i64 d2.tugs, .bool d2.slow] 55))).cell? ⟨w.heap.size, 0, none⟩ = some (.slice A0_0 d0.points.length c0_0) := cell_onV (ABX0.out.1) B0.out
  have y0_1 : (((w.alloc (.cells #[.slice A0_0 d0.points.length c0_0, .slice A0_1 d0.segs.length c0_1] 54)).alloc (.cells #[.string d2.name, .int .i64 d2.length, .int .i64 d2.draught, .int .i64 d2.line, .int .i64 d2.tugs, .bool d2.slow] 55))).cell? ⟨w.heap.size, 1, none⟩ = some (.slice A0_1 d0.segs.length c0_1) := cell_onV (ABX0.out.2) B0.out
  have hl1 : 0 ≤ (1048576 : Int) := by omega
  have hll1 : (1048576 : Int) ≤ 1048576 := by omega
  go_wp2_with fail
  refine (szChart_any _ _ _ _ d0 _ (SizChart.below SZ0.out (BW.out.trans (B0.out.mono hs0))) (1048576) hl1 hll1).mono ?_
  rintro e w1 ⟨rfl, hb1⟩
  have B1 := Lib.hid (B0.out.trans (hb1.mono B0.out.size))
  have hz1 : (((w.alloc (.cells #[.slice A0_0 d0.points.length c0_0, .slice A0_1 d0.segs.length c0_1] 54)).alloc (.cells #[.string d2.name, .int .i64 d2.length, .int .i64 d2.draught, .int .i64 d2.line, .int .i64 d2.tugs, .bool d2.slow] 55))).heap.size ≤ w1.heap.size := hb1.size
  clear hb1 y0_0 y0_1
  by_cases neg1 : (1048576 : Int) < bulkChart d0
  · rw [leftOf_no neg1]
    go_wp2
    go_ret
    exact ⟨rfl, BW.out.trans (B1.out.mono hs0)⟩
  rw [leftOf_yes neg1]
  have ne1 : ¬ (1048576 - bulkChart d0 : Int) < 0 := by omega
  have le0 := bulkChart_le d0
  have R0 : Hid (RdChart w (.slice A0_0 d0.points.length c0_0) (.slice A0_1 d0.segs.length c0_1) d0) := Lib.hid ⟨SS0_0.out (by omega), SS0_1.out (by omega)⟩
  -- left = szShip(aS, left)
  have y2_0 : (w1).cell? ⟨w.heap.size + 1, 0, none⟩ = some (.string d2.name) := cell_onV (ABX2.out.1) B1.out
  have y2_1 : (w1).cell? ⟨w.heap.size + 1, 1, none⟩ = some (.int .i64 d2.length) := cell_onV (ABX2.out.2.1) B1.out
  have y2_2 : (w1).cell? ⟨w.heap.size + 1, 2, none⟩ = some (.int .i64 d2.draught) := cell_onV (ABX2.out.2.2.1) B1.out
  have y2_3 : (w1).cell? ⟨w.heap.size + 1, 3, none⟩ = some (.int .i64 d2.line) := cell_onV (ABX2.out.2.2.2.1) B1.out
  have y2_4 : (w1).cell? ⟨w.heap.size + 1, 4, none⟩ = some (.int .i64 d2.tugs) := cell_onV (ABX2.out.2.2.2.2.1) B1.out
  have y2_5 : (w1).cell? ⟨w.heap.size + 1, 5, none⟩ = some (.bool d2.slow) := cell_onV (ABX2.out.2.2.2.2.2) B1.out
  have hl2 : 0 ≤ (1048576 - bulkChart d0 : Int) := by omega
  have hll2 : (1048576 - bulkChart d0 : Int) ≤ 1048576 := by omega
  go_wp2_with fail
  refine (szShip_any d2.name d2.length d2.draught d2.line d2.tugs d2.slow (1048576 - bulkChart d0) _ hl2 hll2 (wfszShip hin2)).mono ?_
  rintro e w2 ⟨rfl, hb2⟩
  have B2 := Lib.hid (B1.out.trans (hb2.mono B1.out.size))
  have hz2 : (w1).heap.size ≤ w2.heap.size := hb2.size
  clear hb2 y2_0 y2_1 y2_2 y2_3 y2_4 y2_5
  have ps2 := oneShip_pos ⟨d2.name, d2.length, d2.draught, d2.line, d2.tugs, d2.slow⟩
  by_cases neg2 : (1048576 - bulkChart d0 : Int) < oneShip ⟨d2.name, d2.length, d2.draught, d2.line, d2.tugs, d2.slow⟩
  · rw [leftOf_no neg2]
    go_wp2
    go_ret
    exact ⟨rfl, BW.out.trans (B2.out.mono hs0)⟩
  rw [leftOf_yes neg2]
  have ne2 : ¬ (1048576 - bulkChart d0 - oneShip ⟨d2.name, d2.length, d2.draught, d2.line, d2.tugs, d2.slow⟩ : Int) < 0 := by omega
  -- w0 := spec.LevelFor(toChart(aC), aSegment, toShip(aS))
  have y0_0 : (w2).cell? ⟨w.heap.size, 0, none⟩ = some (.slice A0_0 d0.points.length c0_0) := cell_onV (ABX0.out.1) B2.out
  have y0_1 : (w2).cell? ⟨w.heap.size, 1, none⟩ = some (.slice A0_1 d0.segs.length c0_1) := cell_onV (ABX0.out.2) B2.out
  have y2_0 : (w2).cell? ⟨w.heap.size + 1, 0, none⟩ = some (.string d2.name) := cell_onV (ABX2.out.1) B2.out
  have y2_1 : (w2).cell? ⟨w.heap.size + 1, 1, none⟩ = some (.int .i64 d2.length) := cell_onV (ABX2.out.2.1) B2.out
  have y2_2 : (w2).cell? ⟨w.heap.size + 1, 2, none⟩ = some (.int .i64 d2.draught) := cell_onV (ABX2.out.2.2.1) B2.out
  have y2_3 : (w2).cell? ⟨w.heap.size + 1, 3, none⟩ = some (.int .i64 d2.line) := cell_onV (ABX2.out.2.2.2.1) B2.out
  have y2_4 : (w2).cell? ⟨w.heap.size + 1, 4, none⟩ = some (.int .i64 d2.tugs) := cell_onV (ABX2.out.2.2.2.2.1) B2.out
  have y2_5 : (w2).cell? ⟨w.heap.size + 1, 5, none⟩ = some (.bool d2.slow) := cell_onV (ABX2.out.2.2.2.2.2) B2.out
  have DD := Lib.hid ((Below.refl (w2).heap.size (w2)).drew)
  go_upto_region 8 with fail
  go_cut [8] (fun sL wx => sL = .int .i64 r0 ∧ Hid (Below (w2).heap.size (w2) wx))
  case first =>
    refine wp_region_held_drew (S := (fun w' => w'.cell? ⟨w.heap.size, 0, none⟩ = some (.slice A0_0 d0.points.length c0_0) ∧ w'.cell? ⟨w.heap.size, 1, none⟩ = some (.slice A0_1 d0.segs.length c0_1) ∧ w'.cell? ⟨w.heap.size + 1, 0, none⟩ = some (.string d2.name) ∧ w'.cell? ⟨w.heap.size + 1, 1, none⟩ = some (.int .i64 d2.length) ∧ w'.cell? ⟨w.heap.size + 1, 2, none⟩ = some (.int .i64 d2.draught) ∧ w'.cell? ⟨w.heap.size + 1, 3, none⟩ = some (.int .i64 d2.line) ∧ w'.cell? ⟨w.heap.size + 1, 4, none⟩ = some (.int .i64 d2.tugs) ∧ w'.cell? ⟨w.heap.size + 1, 5, none⟩ = some (.bool d2.slow) ∧ Hid (Below (w2).heap.size (w2) w'))) (by kernel_rfl) ?_ (fun hHeld => ?_)
    · (try dsimp only); go_keep
    refine wpAnyH_take (i := 0) (v := ?_) (by simp only [List.getElem?_toArray, List.getElem?_cons_zero]; rfl) (by kernel_rfl) (by kernel_rfl) (by kernel_rfl) (by exact fun _ _ _ h => h) (Or.inl ⟨by rfl, ?_⟩) (by assumption) ?_; rotate_left; focus (intro w hSw; (try dsimp only at hSw); first | (go_simp; done) | (go_simp; with_reducible rfl))
    try simp only [Act.put, List.setIfInBounds_toArray, List.set_cons_zero, List.set_cons_succ]
    refine wpAnyH_take (i := 2) (v := ?_) (by simp only [List.getElem?_toArray, List.getElem?_cons_succ, List.getElem?_cons_zero]; rfl) (by kernel_rfl) (by kernel_rfl) (by kernel_rfl) (by exact fun _ _ _ h => h) (Or.inl ⟨by rfl, ?_⟩) (by assumption) ?_; rotate_left; focus (intro w hSw; (try dsimp only at hSw); first | (go_simp; done) | (go_simp; with_reducible rfl))
    try simp only [Act.put, List.setIfInBounds_toArray, List.set_cons_zero, List.set_cons_succ]
    refine wpAnyH_take (i := 3) (v := ?_) (by simp only [List.getElem?_toArray, List.getElem?_cons_succ, List.getElem?_cons_zero]; rfl) (by kernel_rfl) (by kernel_rfl) (by kernel_rfl) (by exact fun _ _ _ h => h) (Or.inl ⟨by rfl, ?_⟩) (by assumption) ?_; rotate_left; focus (intro w hSw; (try dsimp only at hSw); first | (go_simp; done) | (go_simp; with_reducible rfl))
    try simp only [Act.put, List.setIfInBounds_toArray, List.set_cons_zero, List.set_cons_succ]
    refine wpAnyH_ready (rs := [1]) (by kernel_rfl) (by simp) ?_
    refine AllReadyH.cons rfl (fun K hK => ?_) AllReadyH.nil
    rw [if_pos (by rfl)]
    go_simp
    go_at_call 27
    have kB := hHeld.2.2.2.2.2.2.2.2
    refine (toChart_any _ _ d0 _ (R0.out.below (BW.out.trans ((B2.out.trans (kB.out.mono B2.out.size)).mono hs0)))).mono ?_
    intro e wt0 hN
    obtain ⟨Q0_0, q0_0, Q0_1, q0_1, rfl, hRD, hbk⟩ := hN.rd (by omega) (by omega)
    have HRD0 := Lib.hid hRD
    have HBK := kB.out.trans (hbk.mono kB.out.size)
    have QS0 := Lib.hid (show wt0.cell? ⟨w.heap.size, 0, none⟩ = some (.slice A0_0 d0.points.length c0_0) ∧ wt0.cell? ⟨w.heap.size, 1, none⟩ = some (.slice A0_1 d0.segs.length c0_1) ∧ wt0.cell? ⟨w.heap.size + 1, 0, none⟩ = some (.string d2.name) ∧ wt0.cell? ⟨w.heap.size + 1, 1, none⟩ = some (.int .i64 d2.length) ∧ wt0.cell? ⟨w.heap.size + 1, 2, none⟩ = some (.int .i64 d2.draught) ∧ wt0.cell? ⟨w.heap.size + 1, 3, none⟩ = some (.int .i64 d2.line) ∧ wt0.cell? ⟨w.heap.size + 1, 4, none⟩ = some (.int .i64 d2.tugs) ∧ wt0.cell? ⟨w.heap.size + 1, 5, none⟩ = some (.bool d2.slow) ∧ Hid (Below (w2).heap.size (w2) wt0) from ⟨cell_onV (cell_onV (ABX0.out.1) B2.out) HBK, cell_onV (cell_onV (ABX0.out.2) B2.out) HBK, cell_onV (cell_onV (ABX2.out.1) B2.out) HBK, cell_onV (cell_onV (ABX2.out.2.1) B2.out) HBK, cell_onV (cell_onV (ABX2.out.2.2.1) B2.out) HBK, cell_onV (cell_onV (ABX2.out.2.2.2.1) B2.out) HBK, cell_onV (cell_onV (ABX2.out.2.2.2.2.1) B2.out) HBK, cell_onV (cell_onV (ABX2.out.2.2.2.2.2) B2.out) HBK, Lib.hid HBK⟩)
    clear hbk kB hHeld hN hRD HBK
    go_simp
    refine hK.out _ _ ?_ (fun hHeld => ?_)
    · (try dsimp only); exact QS0.out
    clear hK K
    try simp only [Act.put, List.setIfInBounds_toArray, List.set_cons_zero, List.set_cons_succ]
    refine wpAnyH_ready (rs := [4]) (by kernel_rfl) (by simp) ?_
    refine AllReadyH.cons rfl (fun K hK => ?_) AllReadyH.nil
    rw [if_pos (by rfl)]
    go_simp
    go_at_call 28
    have kB := hHeld.2.2.2.2.2.2.2.2
    refine (toShip_any d2.name d2.length d2.draught d2.line d2.tugs d2.slow _).mono ?_
    rintro e wt1 ⟨rfl, hbk⟩
    have HRD0' := Lib.hid (HRD0.out.below hbk)
    clear HRD0
    have HRD0 := HRD0'
    clear HRD0'
    have HBK := kB.out.trans (hbk.mono kB.out.size)
    have QS1 := Lib.hid (show wt1.cell? ⟨w.heap.size, 0, none⟩ = some (.slice A0_0 d0.points.length c0_0) ∧ wt1.cell? ⟨w.heap.size, 1, none⟩ = some (.slice A0_1 d0.segs.length c0_1) ∧ wt1.cell? ⟨w.heap.size + 1, 0, none⟩ = some (.string d2.name) ∧ wt1.cell? ⟨w.heap.size + 1, 1, none⟩ = some (.int .i64 d2.length) ∧ wt1.cell? ⟨w.heap.size + 1, 2, none⟩ = some (.int .i64 d2.draught) ∧ wt1.cell? ⟨w.heap.size + 1, 3, none⟩ = some (.int .i64 d2.line) ∧ wt1.cell? ⟨w.heap.size + 1, 4, none⟩ = some (.int .i64 d2.tugs) ∧ wt1.cell? ⟨w.heap.size + 1, 5, none⟩ = some (.bool d2.slow) ∧ Hid (Below (w2).heap.size (w2) wt1) from ⟨cell_onV (cell_onV (ABX0.out.1) B2.out) HBK, cell_onV (cell_onV (ABX0.out.2) B2.out) HBK, cell_onV (cell_onV (ABX2.out.1) B2.out) HBK, cell_onV (cell_onV (ABX2.out.2.1) B2.out) HBK, cell_onV (cell_onV (ABX2.out.2.2.1) B2.out) HBK, cell_onV (cell_onV (ABX2.out.2.2.2.1) B2.out) HBK, cell_onV (cell_onV (ABX2.out.2.2.2.2.1) B2.out) HBK, cell_onV (cell_onV (ABX2.out.2.2.2.2.2) B2.out) HBK, Lib.hid HBK⟩)
    clear hbk kB hHeld HBK
    go_simp
    refine hK.out _ _ ?_ (fun hHeld => ?_)
    · (try dsimp only); exact QS1.out
    clear hK K
    try simp only [Act.put, List.setIfInBounds_toArray, List.set_cons_zero, List.set_cons_succ]
    refine wpAnyH_ready (rs := [5]) (by kernel_rfl) (by simp) ?_
    refine AllReadyH.cons rfl (fun K hK => ?_) AllReadyH.nil
    rw [if_pos (by rfl)]
    go_simp
    go_at_call 31
    have kB := hHeld.2.2.2.2.2.2.2.2
    refine (specLevelFor _ _ d0 a1 d2 _ HRD0.out WF0_0.out hin2).mono ?_
    rw [HR0.out]
    rintro e wq ⟨rfl, hbk⟩
    have HBK := kB.out.trans (hbk.mono kB.out.size)
    have QQ := Lib.hid (show wq.cell? ⟨w.heap.size, 0, none⟩ = some (.slice A0_0 d0.points.length c0_0) ∧ wq.cell? ⟨w.heap.size, 1, none⟩ = some (.slice A0_1 d0.segs.length c0_1) ∧ wq.cell? ⟨w.heap.size + 1, 0, none⟩ = some (.string d2.name) ∧ wq.cell? ⟨w.heap.size + 1, 1, none⟩ = some (.int .i64 d2.length) ∧ wq.cell? ⟨w.heap.size + 1, 2, none⟩ = some (.int .i64 d2.draught) ∧ wq.cell? ⟨w.heap.size + 1, 3, none⟩ = some (.int .i64 d2.line) ∧ wq.cell? ⟨w.heap.size + 1, 4, none⟩ = some (.int .i64 d2.tugs) ∧ wq.cell? ⟨w.heap.size + 1, 5, none⟩ = some (.bool d2.slow) ∧ Hid (Below (w2).heap.size (w2) wq) from ⟨cell_onV (cell_onV (ABX0.out.1) B2.out) HBK, cell_onV (cell_onV (ABX0.out.2) B2.out) HBK, cell_onV (cell_onV (ABX2.out.1) B2.out) HBK, cell_onV (cell_onV (ABX2.out.2.1) B2.out) HBK, cell_onV (cell_onV (ABX2.out.2.2.1) B2.out) HBK, cell_onV (cell_onV (ABX2.out.2.2.2.1) B2.out) HBK, cell_onV (cell_onV (ABX2.out.2.2.2.2.1) B2.out) HBK, cell_onV (cell_onV (ABX2.out.2.2.2.2.2) B2.out) HBK, Lib.hid HBK⟩)
    clear hbk kB hHeld HBK
    go_simp
    refine hK.out _ _ ?_ (fun hHeld => ?_)
    · (try dsimp only); exact QQ.out
    clear hK K
    try simp only [Act.put, List.setIfInBounds_toArray, List.set_cons_zero, List.set_cons_succ]
    refine wpAnyH_take (i := 6) (v := ?_) (by simp only [List.getElem?_toArray, List.getElem?_cons_succ, List.getElem?_cons_zero]; rfl) (by kernel_rfl) (by kernel_rfl) (by kernel_rfl) (by exact fun _ _ _ h => h) (Or.inl ⟨by rfl, ?_⟩) (by assumption) ?_; rotate_left; focus (intro w hSw; (try dsimp only at hSw); first | (go_simp; done) | (go_simp; with_reducible rfl))
    try simp only [Act.put, List.setIfInBounds_toArray, List.set_cons_zero, List.set_cons_succ]
    refine wpAnyH_done (by kernel_rfl) ?_ _
    go_wp2_with fail
    go_meet
    exact ⟨rfl, hHeld.2.2.2.2.2.2.2.2⟩
  case rest =>
    obtain ⟨rfl, hbH⟩ := hcut
    have hb3 := hbH.out
    obtain ⟨w3, rfl⟩ : ∃ W, W = wc := ⟨_, rfl⟩
    clear hbH DD y0_0 y0_1 y2_0 y2_1 y2_2 y2_3 y2_4 y2_5 
    have B3 := Lib.hid (B2.out.trans (hb3.mono B2.out.size))
    have hz3 : (w2).heap.size ≤ w3.heap.size := hb3.size
    clear hb3
    -- x0 := toChart(aC)
    have y0_0 : (w3).cell? ⟨w.heap.size, 0, none⟩ = some (.slice A0_0 d0.points.length c0_0) := cell_onV (ABX0.out.1) B3.out
    have y0_1 : (w3).cell? ⟨w.heap.size, 1, none⟩ = some (.slice A0_1 d0.segs.length c0_1) := cell_onV (ABX0.out.2) B3.out
    go_wp2_with fail
    refine (toChart_any _ _ d0 _ (R0.out.below (BW.out.trans (B3.out.mono hs0)))).mono ?_
    intro e w4 hN
    obtain ⟨u4_0, u4_1, rfl, o4_0, o4_1, ap4_0_1, hb4⟩ := hN
    have S4_0 := Lib.hid (OwnPoint.sl o4_0 (by omega))
    have RG4_0 := Lib.hid (own_range o4_0)
    have FR4_0 := Lib.hid (own_freeV o4_0)
    obtain ⟨D4_0, k4_0, rfl⟩ := own_form o4_0
    have S4_1 := Lib.hid (OwnSegment.sl o4_1 (by omega))
    have RG4_1 := Lib.hid (own_range o4_1)
    have FR4_1 := Lib.hid (own_freeV o4_1)
    obtain ⟨D4_1, k4_1, rfl⟩ := own_form o4_1
    have AP4_0_1 := Lib.hid ap4_0_1
    clear ap4_0_1
    have B4 := Lib.hid (B3.out.trans (hb4.mono B3.out.size))
    have hz4 : (w3).heap.size ≤ w4.heap.size := hb4.size
    clear hb4 o4_0 o4_1 y0_0 y0_1
    have BX_x0 := Lib.hid (ChartBox.new 33 (show RdChart w4 (.slice D4_0 d0.points.length k4_0) (.slice D4_1 d0.segs.length k4_1) d0 from ⟨S4_0.out, S4_1.out⟩))
    have hb4b := Joins.below_alloc1 w4 (.cells #[.slice D4_0 d0.points.length k4_0, .slice D4_1 d0.segs.length k4_1] 33)
    have B4x := Lib.hid (B4.out.trans (hb4b.mono B4.out.size))
    have FX_x0_0 := Lib.hid (FR4_0.out.below hb4b)
    have FX_x0_1 := Lib.hid (FR4_1.out.below hb4b)
    clear hb4b
    have hsx4 : ((w4.alloc (.cells #[.slice D4_0 d0.points.length k4_0, .slice D4_1 d0.segs.length k4_1] 33))).heap.size = w4.heap.size + 1 := by simp
    -- g0 := impl.LevelFor(x0, aSegment, toShip(aS))
    have y2_0 : ((w4.alloc (.cells #[.slice D4_0 d0.points.length k4_0, .slice D4_1 d0.segs.length k4_1] 33))).cell? ⟨w.heap.size + 1, 0, none⟩ = some (.string d2.name) := cell_onV (ABX2.out.1) B4x.out
    have y2_1 : ((w4.alloc (.cells #[.slice D4_0 d0.points.length k4_0, .slice D4_1 d0.segs.length k4_1] 33))).cell? ⟨w.heap.size + 1, 1, none⟩ = some (.int .i64 d2.length) := cell_onV (ABX2.out.2.1) B4x.out
    have y2_2 : ((w4.alloc (.cells #[.slice D4_0 d0.points.length k4_0, .slice D4_1 d0.segs.length k4_1] 33))).cell? ⟨w.heap.size + 1, 2, none⟩ = some (.int .i64 d2.draught) := cell_onV (ABX2.out.2.2.1) B4x.out
    have y2_3 : ((w4.alloc (.cells #[.slice D4_0 d0.points.length k4_0, .slice D4_1 d0.segs.length k4_1] 33))).cell? ⟨w.heap.size + 1, 3, none⟩ = some (.int .i64 d2.line) := cell_onV (ABX2.out.2.2.2.1) B4x.out
    have y2_4 : ((w4.alloc (.cells #[.slice D4_0 d0.points.length k4_0, .slice D4_1 d0.segs.length k4_1] 33))).cell? ⟨w.heap.size + 1, 4, none⟩ = some (.int .i64 d2.tugs) := cell_onV (ABX2.out.2.2.2.2.1) B4x.out
    have y2_5 : ((w4.alloc (.cells #[.slice D4_0 d0.points.length k4_0, .slice D4_1 d0.segs.length k4_1] 33))).cell? ⟨w.heap.size + 1, 5, none⟩ = some (.bool d2.slow) := cell_onV (ABX2.out.2.2.2.2.2) B4x.out
    obtain ⟨z_x0_0, z_x0_1, _⟩ := BX_x0.out
    have hDD := (Below.refl ((w4.alloc (.cells #[.slice D4_0 d0.points.length k4_0, .slice D4_1 d0.segs.length k4_1] 33))).heap.size ((w4.alloc (.cells #[.slice D4_0 d0.points.length k4_0, .slice D4_1 d0.segs.length k4_1] 33)))).drew
    rw [World.size_alloc] at hDD
    have DD := Lib.hid hDD
    clear hDD
    go_upto_region 10 with fail
    go_cut [10] (fun sL wx => sL = .int .i64 r0 ∧ Hid (Below ((w4.alloc (.cells #[.slice D4_0 d0.points.length k4_0, .slice D4_1 d0.segs.length k4_1] 33))).heap.size ((w4.alloc (.cells #[.slice D4_0 d0.points.length k4_0, .slice D4_1 d0.segs.length k4_1] 33))) wx))
    case first =>
      refine wp_region_held_drew (S := (fun w' => w'.cell? ⟨w4.heap.size, 0, none⟩ = some (.slice D4_0 d0.points.length k4_0) ∧ w'.cell? ⟨w4.heap.size, 1, none⟩ = some (.slice D4_1 d0.segs.length k4_1) ∧ w'.cell? ⟨w.heap.size + 1, 0, none⟩ = some (.string d2.name) ∧ w'.cell? ⟨w.heap.size + 1, 1, none⟩ = some (.int .i64 d2.length) ∧ w'.cell? ⟨w.heap.size + 1, 2, none⟩ = some (.int .i64 d2.draught) ∧ w'.cell? ⟨w.heap.size + 1, 3, none⟩ = some (.int .i64 d2.line) ∧ w'.cell? ⟨w.heap.size + 1, 4, none⟩ = some (.int .i64 d2.tugs) ∧ w'.cell? ⟨w.heap.size + 1, 5, none⟩ = some (.bool d2.slow) ∧ Hid (Below ((w4.alloc (.cells #[.slice D4_0 d0.points.length k4_0, .slice D4_1 d0.segs.length k4_1] 33))).heap.size ((w4.alloc (.cells #[.slice D4_0 d0.points.length k4_0, .slice D4_1 d0.segs.length k4_1] 33))) w'))) (by kernel_rfl) ?_ (fun hHeld => ?_)
      · (try dsimp only); go_keep
      refine wpAnyH_take (i := 0) (v := ?_) (by simp only [List.getElem?_toArray, List.getElem?_cons_zero]; rfl) (by kernel_rfl) (by kernel_rfl) (by kernel_rfl) (by exact fun _ _ _ h => h) (Or.inl ⟨by rfl, ?_⟩) (by assumption) ?_; rotate_left; focus (intro w hSw; (try dsimp only at hSw); first | (go_simp; done) | (go_simp; with_reducible rfl))
      try simp only [Act.put, List.setIfInBounds_toArray, List.set_cons_zero, List.set_cons_succ]
      refine wpAnyH_take (i := 1) (v := ?_) (by simp only [List.getElem?_toArray, List.getElem?_cons_succ, List.getElem?_cons_zero]; rfl) (by kernel_rfl) (by kernel_rfl) (by kernel_rfl) (by exact fun _ _ _ h => h) (Or.inl ⟨by rfl, ?_⟩) (by assumption) ?_; rotate_left; focus (intro w hSw; (try dsimp only at hSw); first | (go_simp; done) | (go_simp; with_reducible rfl))
      try simp only [Act.put, List.setIfInBounds_toArray, List.set_cons_zero, List.set_cons_succ]
      refine wpAnyH_take (i := 2) (v := ?_) (by simp only [List.getElem?_toArray, List.getElem?_cons_succ, List.getElem?_cons_zero]; rfl) (by kernel_rfl) (by kernel_rfl) (by kernel_rfl) (by exact fun _ _ _ h => h) (Or.inl ⟨by rfl, ?_⟩) (by assumption) ?_; rotate_left; focus (intro w hSw; (try dsimp only at hSw); first | (go_simp; done) | (go_simp; with_reducible rfl))
      try simp only [Act.put, List.setIfInBounds_toArray, List.set_cons_zero, List.set_cons_succ]
      refine wpAnyH_ready (rs := [3]) (by kernel_rfl) (by simp) ?_
      refine AllReadyH.cons rfl (fun K hK => ?_) AllReadyH.nil
      rw [if_pos (by rfl)]
      go_simp
      go_at_call 28
      have kB := hHeld.2.2.2.2.2.2.2.2
      refine (toShip_any d2.name d2.length d2.draught d2.line d2.tugs d2.slow _).mono ?_
      rintro e wt0 ⟨rfl, hbk⟩
      have HBK := kB.out.trans (hbk.mono kB.out.size)
      have QS0 := Lib.hid (show wt0.cell? ⟨w4.heap.size, 0, none⟩ = some (.slice D4_0 d0.points.length k4_0) ∧ wt0.cell? ⟨w4.heap.size, 1, none⟩ = some (.slice D4_1 d0.segs.length k4_1) ∧ wt0.cell? ⟨w.heap.size + 1, 0, none⟩ = some (.string d2.name) ∧ wt0.cell? ⟨w.heap.size + 1, 1, none⟩ = some (.int .i64 d2.length) ∧ wt0.cell? ⟨w.heap.size + 1, 2, none⟩ = some (.int .i64 d2.draught) ∧ wt0.cell? ⟨w.heap.size + 1, 3, none⟩ = some (.int .i64 d2.line) ∧ wt0.cell? ⟨w.heap.size + 1, 4, none⟩ = some (.int .i64 d2.tugs) ∧ wt0.cell? ⟨w.heap.size + 1, 5, none⟩ = some (.bool d2.slow) ∧ Hid (Below ((w4.alloc (.cells #[.slice D4_0 d0.points.length k4_0, .slice D4_1 d0.segs.length k4_1] 33))).heap.size ((w4.alloc (.cells #[.slice D4_0 d0.points.length k4_0, .slice D4_1 d0.segs.length k4_1] 33))) wt0) from ⟨(BX_x0.out.below HBK).1, (BX_x0.out.below HBK).2.1, cell_onV (cell_onV (ABX2.out.1) B4x.out) HBK, cell_onV (cell_onV (ABX2.out.2.1) B4x.out) HBK, cell_onV (cell_onV (ABX2.out.2.2.1) B4x.out) HBK, cell_onV (cell_onV (ABX2.out.2.2.2.1) B4x.out) HBK, cell_onV (cell_onV (ABX2.out.2.2.2.2.1) B4x.out) HBK, cell_onV (cell_onV (ABX2.out.2.2.2.2.2) B4x.out) HBK, Lib.hid HBK⟩)
      clear hbk kB hHeld HBK
      go_simp
      refine hK.out _ _ ?_ (fun hHeld => ?_)
      · (try dsimp only); exact QS0.out
      clear hK K
      try simp only [Act.put, List.setIfInBounds_toArray, List.set_cons_zero, List.set_cons_succ]
      refine wpAnyH_ready (rs := [4]) (by kernel_rfl) (by simp) ?_
      refine AllReadyH.cons rfl (fun K hK => ?_) AllReadyH.nil
      rw [if_pos (by rfl)]
      go_simp
      go_at_call 23
      have kB := hHeld.2.2.2.2.2.2.2.2
      refine (implLevelFor _ _ d0 a1 d2 _ (BX_x0.out.below kB.out).2.2 WF0_0.out hin2).mono ?_
      rw [HR0.out]
      rintro e wq ⟨rfl, hbk⟩
      have HBK := kB.out.trans (hbk.mono kB.out.size)
      have QQ := Lib.hid (show wq.cell? ⟨w4.heap.size, 0, none⟩ = some (.slice D4_0 d0.points.length k4_0) ∧ wq.cell? ⟨w4.heap.size, 1, none⟩ = some (.slice D4_1 d0.segs.length k4_1) ∧ wq.cell? ⟨w.heap.size + 1, 0, none⟩ = some (.string d2.name) ∧ wq.cell? ⟨w.heap.size + 1, 1, none⟩ = some (.int .i64 d2.length) ∧ wq.cell? ⟨w.heap.size + 1, 2, none⟩ = some (.int .i64 d2.draught) ∧ wq.cell? ⟨w.heap.size + 1, 3, none⟩ = some (.int .i64 d2.line) ∧ wq.cell? ⟨w.heap.size + 1, 4, none⟩ = some (.int .i64 d2.tugs) ∧ wq.cell? ⟨w.heap.size + 1, 5, none⟩ = some (.bool d2.slow) ∧ Hid (Below ((w4.alloc (.cells #[.slice D4_0 d0.points.length k4_0, .slice D4_1 d0.segs.length k4_1] 33))).heap.size ((w4.alloc (.cells #[.slice D4_0 d0.points.length k4_0, .slice D4_1 d0.segs.length k4_1] 33))) wq) from ⟨(BX_x0.out.below HBK).1, (BX_x0.out.below HBK).2.1, cell_onV (cell_onV (ABX2.out.1) B4x.out) HBK, cell_onV (cell_onV (ABX2.out.2.1) B4x.out) HBK, cell_onV (cell_onV (ABX2.out.2.2.1) B4x.out) HBK, cell_onV (cell_onV (ABX2.out.2.2.2.1) B4x.out) HBK, cell_onV (cell_onV (ABX2.out.2.2.2.2.1) B4x.out) HBK, cell_onV (cell_onV (ABX2.out.2.2.2.2.2) B4x.out) HBK, Lib.hid HBK⟩)
      clear hbk kB hHeld HBK
      go_simp
      refine hK.out _ _ ?_ (fun hHeld => ?_)
      · (try dsimp only); exact QQ.out
      clear hK K
      try simp only [Act.put, List.setIfInBounds_toArray, List.set_cons_zero, List.set_cons_succ]
      refine wpAnyH_take (i := 5) (v := ?_) (by simp only [List.getElem?_toArray, List.getElem?_cons_succ, List.getElem?_cons_zero]; rfl) (by kernel_rfl) (by kernel_rfl) (by kernel_rfl) (by exact fun _ _ _ h => h) (Or.inl ⟨by rfl, ?_⟩) (by assumption) ?_; rotate_left; focus (intro w hSw; (try dsimp only at hSw); first | (go_simp; done) | (go_simp; with_reducible rfl))
      try simp only [Act.put, List.setIfInBounds_toArray, List.set_cons_zero, List.set_cons_succ]
      refine wpAnyH_done (by kernel_rfl) ?_ _
      go_wp2_with fail
      go_meet
      exact ⟨rfl, hHeld.2.2.2.2.2.2.2.2⟩
    case rest =>
      obtain ⟨rfl, hbH⟩ := hcut
      have hb5 := hbH.out
      obtain ⟨w5, rfl⟩ : ∃ W, W = wc := ⟨_, rfl⟩
      clear hbH DD y2_0 y2_1 y2_2 y2_3 y2_4 y2_5 z_x0_0 z_x0_1
      have B5 := Lib.hid (B4x.out.trans (hb5.mono B4x.out.size))
      have x0_5 := Lib.hid (BX_x0.out.below hb5)
      have x0F0_5 := Lib.hid (FX_x0_0.out.below hb5)
      have x0F1_5 := Lib.hid (FX_x0_1.out.below hb5)
      have hz5 : ((w4.alloc (.cells #[.slice D4_0 d0.points.length k4_0, .slice D4_1 d0.segs.length k4_1] 33))).heap.size ≤ w5.heap.size := hb5.size
      clear hb5
      -- if g0 != w0 {
      -- if !eqChart(x0, toChart(aC)) {
      have y0_0 : (w5).cell? ⟨w.heap.size, 0, none⟩ = some (.slice A0_0 d0.points.length c0_0) := cell_onV (ABX0.out.1) B5.out
      have y0_1 : (w5).cell? ⟨w.heap.size, 1, none⟩ = some (.slice A0_1 d0.segs.length c0_1) := cell_onV (ABX0.out.2) B5.out
      obtain ⟨z_x0_0, z_x0_1, _⟩ := x0_5.out
      have DD := Lib.hid ((Below.refl (w5).heap.size (w5)).drew)
      go_upto_region 13 with fail
      go_cut [41] (fun sL wx => sL = .bool false ∧ Hid (Below (w5).heap.size (w5) wx))
      case first =>
        refine wp_region_held_drew (S := (fun w' => w'.cell? ⟨w4.heap.size, 0, none⟩ = some (.slice D4_0 d0.points.length k4_0) ∧ w'.cell? ⟨w4.heap.size, 1, none⟩ = some (.slice D4_1 d0.segs.length k4_1) ∧ w'.cell? ⟨w.heap.size, 0, none⟩ = some (.slice A0_0 d0.points.length c0_0) ∧ w'.cell? ⟨w.heap.size, 1, none⟩ = some (.slice A0_1 d0.segs.length c0_1) ∧ Hid (Below (w5).heap.size (w5) w'))) (by kernel_rfl) ?_ (fun hHeld => ?_)
        · (try dsimp only); go_keep
        refine wpAnyH_take (i := 0) (v := ?_) (by simp only [List.getElem?_toArray, List.getElem?_cons_zero]; rfl) (by kernel_rfl) (by kernel_rfl) (by kernel_rfl) (by exact fun _ _ _ h => h) (Or.inl ⟨by rfl, ?_⟩) (by assumption) ?_; rotate_left; focus (intro w hSw; (try dsimp only at hSw); first | (go_simp; done) | (go_simp; with_reducible rfl))
        try simp only [Act.put, List.setIfInBounds_toArray, List.set_cons_zero, List.set_cons_succ]
        refine wpAnyH_take (i := 1) (v := ?_) (by simp only [List.getElem?_toArray, List.getElem?_cons_succ, List.getElem?_cons_zero]; rfl) (by kernel_rfl) (by kernel_rfl) (by kernel_rfl) (by exact fun _ _ _ h => h) (Or.inl ⟨by rfl, ?_⟩) (by assumption) ?_; rotate_left; focus (intro w hSw; (try dsimp only at hSw); first | (go_simp; done) | (go_simp; with_reducible rfl))
        try simp only [Act.put, List.setIfInBounds_toArray, List.set_cons_zero, List.set_cons_succ]
        refine wpAnyH_ready (rs := [2]) (by kernel_rfl) (by simp) ?_
        refine AllReadyH.cons rfl (fun K hK => ?_) AllReadyH.nil
        rw [if_pos (by rfl)]
        go_simp
        go_at_call 27
        have kB := hHeld.2.2.2.2
        refine (toChart_any _ _ d0 _ (R0.out.below (BW.out.trans ((B5.out.trans (kB.out.mono B5.out.size)).mono hs0)))).mono ?_
        intro e wt hN
        obtain ⟨Q0, q0, Q1, q1, rfl, hRD, hbk⟩ := hN.rd (by omega) (by omega)
        have HRD := Lib.hid hRD
        have HBK := kB.out.trans (hbk.mono kB.out.size)
        have QS := Lib.hid (show wt.cell? ⟨w4.heap.size, 0, none⟩ = some (.slice D4_0 d0.points.length k4_0) ∧ wt.cell? ⟨w4.heap.size, 1, none⟩ = some (.slice D4_1 d0.segs.length k4_1) ∧ wt.cell? ⟨w.heap.size, 0, none⟩ = some (.slice A0_0 d0.points.length c0_0) ∧ wt.cell? ⟨w.heap.size, 1, none⟩ = some (.slice A0_1 d0.segs.length c0_1) ∧ Hid (Below (w5).heap.size (w5) wt) from ⟨(x0_5.out.below HBK).1, (x0_5.out.below HBK).2.1, cell_onV (cell_onV (ABX0.out.1) B5.out) HBK, cell_onV (cell_onV (ABX0.out.2) B5.out) HBK, Lib.hid HBK⟩)
        clear hbk kB hHeld hN hRD HBK
        go_simp
        refine hK.out _ _ ?_ (fun hHeld => ?_)
        · (try dsimp only); exact QS.out
        clear hK K
        try simp only [Act.put, List.setIfInBounds_toArray, List.set_cons_zero, List.set_cons_succ]
        refine wpAnyH_ready (rs := [3]) (by kernel_rfl) (by simp) ?_
        refine AllReadyH.cons rfl (fun K hK => ?_) AllReadyH.nil
        rw [if_pos (by rfl)]
        go_simp
        go_at_call 29
        have kB := hHeld.2.2.2.2
        refine (eqChart_same _ _ _ _ d0 _ (x0_5.out.below kB.out).2.2 HRD.out).mono ?_
        rintro e wq ⟨rfl, hbk⟩
        have HBK := kB.out.trans (hbk.mono kB.out.size)
        have QQ := Lib.hid (show wq.cell? ⟨w4.heap.size, 0, none⟩ = some (.slice D4_0 d0.points.length k4_0) ∧ wq.cell? ⟨w4.heap.size, 1, none⟩ = some (.slice D4_1 d0.segs.length k4_1) ∧ wq.cell? ⟨w.heap.size, 0, none⟩ = some (.slice A0_0 d0.points.length c0_0) ∧ wq.cell? ⟨w.heap.size, 1, none⟩ = some (.slice A0_1 d0.segs.length c0_1) ∧ Hid (Below (w5).heap.size (w5) wq) from ⟨(x0_5.out.below HBK).1, (x0_5.out.below HBK).2.1, cell_onV (cell_onV (ABX0.out.1) B5.out) HBK, cell_onV (cell_onV (ABX0.out.2) B5.out) HBK, Lib.hid HBK⟩)
        clear hbk kB hHeld HBK
        go_simp
        refine hK.out _ _ ?_ (fun hHeld => ?_)
        · (try dsimp only); exact QQ.out
        clear hK K
        try simp only [Act.put, List.setIfInBounds_toArray, List.set_cons_zero, List.set_cons_succ]
        refine wpAnyH_take (i := 4) (v := ?_) (by simp only [List.getElem?_toArray, List.getElem?_cons_succ, List.getElem?_cons_zero]; rfl) (by kernel_rfl) (by kernel_rfl) (by kernel_rfl) (by exact fun _ _ _ h => h) (Or.inl ⟨by rfl, ?_⟩) (by assumption) ?_; rotate_left; focus (intro w hSw; (try dsimp only at hSw); first | (go_simp; done) | (go_simp; with_reducible rfl))
        try simp only [Act.put, List.setIfInBounds_toArray, List.set_cons_zero, List.set_cons_succ]
        refine wpAnyH_done (by kernel_rfl) ?_ _
        go_wp2_with fail
        go_meet
        exact ⟨rfl, hHeld.2.2.2.2⟩
      case rest =>
        obtain ⟨rfl, hbH⟩ := hcut
        have hb6 := hbH.out
        obtain ⟨w6, rfl⟩ : ∃ W, W = wc := ⟨_, rfl⟩
        clear hbH DD y0_0 y0_1 z_x0_0 z_x0_1
        have B6 := Lib.hid (B5.out.trans (hb6.mono B5.out.size))
        have x0_6 := Lib.hid (x0_5.out.below hb6)
        have x0F0_6 := Lib.hid (x0F0_5.out.below hb6)
        have x0F1_6 := Lib.hid (x0F1_5.out.below hb6)
        have hz6 : (w5).heap.size ≤ w6.heap.size := hb6.size
        clear hb6
        -- return true
        go_wp2
        go_ret
        exact ⟨rfl, BW.out.trans (B6.out.mono hs0)⟩
set_option maxRecDepth 100000 in
theorem lifted (os : Os) (started : os.Started) (H : Type) (enc : TypeId × Value → H) :
    ReturnsInHanded {} Try.checked os 6 .any (Rows.fnExactLevelForSpec.pre6 enc Try.prog Try.f6 Rows.fnExactLevelForRow.domain false) (Rows.fnExactLevelForSpec.post enc Try.prog Try.f6 false true false false) := by
  refine returnsInHanded_of_change (C := Try.checked) own started (by kernel_rfl) Try.func6
    (ChangeSpec.witness6 (enc := enc) (C := Try.checked) false ⟨#[], #[.agg #[.slice none 0 0, .slice none 0 0], .int .i64 0, .agg #[.string ⟨#[]⟩, .int .i64 0, .int .i64 0, .int .i64 0, .int .i64 0, .bool false]], []⟩ 8 (by kernel_rfl) (by kernel_rfl) (by kernel_rfl) (by kernel_rfl)) ?_
  intro W base args ds gs before hval0 hW _ _
  have hval : ∀ (j : Nat) t v, Try.f6.params[j]? = some t → args[j]? = some v → Value.okWide Try.prog W .any base t v := hval0
  have hW' := hW
  obtain ⟨p, q, hA0, hV, rfl, _, _⟩ := hW
  have hA : DataW.TrodAll enc Try.prog W 0 (fun _ => true) true Try.f6.params.toList args.toList ds p := hA0
  rw [Try.params6] at hA hval
  obtain ⟨v0, vs0, d0, ds0, p0, q0, hargs, rfl, rfl, h0, r0⟩ := trodAll_cons hA
  obtain ⟨v1, vs1, d1, ds1, p1, q1, rfl, rfl, rfl, h1, r1⟩ := trodAll_cons r0
  obtain ⟨v2, vs2, d2, ds2, p2, q2, rfl, rfl, rfl, h2, r2⟩ := trodAll_cons r1
  obtain ⟨rfl, rfl, rfl⟩ := trodAll_nil r2
  obtain rfl : args = #[v0, v1, v2] := by cases args; simp_all
  obtain ⟨A0_0, c0_0, A0_1, c0_1, d0', rfl, g0⟩ := open_chart_arg (hval 0 54 v0 rfl rfl) h0
  obtain ⟨a1, rfl, rfl, rfl, g1⟩ := open_int Try.underlying3 (hval 1 3 v1 rfl rfl) h1
  obtain ⟨d2', rfl, g2⟩ := open_ship_arg (hval 2 55 v2 rfl rfl) h2
  refine (law A0_0 c0_0 A0_1 c0_1 d0' a1 d2' W g0 g1 g2).mono fun e W' ⟨he, hb⟩ => ⟨_, he, ?_⟩
  exact law_post laidOut (by kernel_rfl) rfl (by kernel_rfl) Try.underlying4 rfl rfl rfl hW' hb
theorem holds : Rows.FnExactLevelForSaid :=
  OpenClaim.holds_of_wide 6 Try.f6 rfl rfl rfl rfl rfl rfl rfl ⟨rfl, rfl, rfl, rfl, rfl⟩ rfl rfl rfl rfl rfl (by kernel_rfl) Try.func6 (by kernel_rfl)
    (of_decide_eq_true (by kernel_rfl)) (by unfold Func.isWrapper; first | (rw [if_pos (by decide +kernel)]; kernel_rfl) | (rw [if_neg (by decide +kernel)]; exact ⟨rfl, rfl⟩))
    (fun os started H enc _ => lifted os started H enc)
end Go.Proofs.Ytpimcbhjkednpaa.exactLevelFor
