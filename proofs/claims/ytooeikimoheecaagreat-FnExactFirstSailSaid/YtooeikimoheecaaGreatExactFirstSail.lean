
/- The exact law of FirstSail holds for all arguments: impl.FirstSail answers as its model, its answer owns its memory, and the arguments read as before. No condition. -/
import Derived.Test.YtooeikimoheecaaGreatRows
import Derived.Test.YtooeikimoheecaaGreatSf0
import Derived.Test.YtooeikimoheecaaGreatSf35
import Derived.Test.YtooeikimoheecaaGreatSf36
import Derived.Test.YtooeikimoheecaaGreatSf21
import Derived.Test.YtooeikimoheecaaGreatSf7
import Derived.Test.YtooeikimoheecaaGreatSf3
import Derived.Test.YtooeikimoheecaaGreatSf6
import Derived.Deep.RegionHeld3
import Derived.Deep.DeepCutAuto
namespace Go.Proofs.YtooeikimoheecaaGreat.exactFirstSail
open Go.ChangeShapes Go.WideShapes Go.ChangeAt Go.RowKit
set_option maxRecDepth 100000
theorem own : ownKnob Tryz.prog.godebug = none := by kernel_rfl
theorem laidOut : laidOutB Tryz.prog = true := by kernel_rfl
set_option maxHeartbeats 16000000 in
theorem law (A0_1 : Option Addr) (c0_1 : Nat) (A0_2 : Option Addr) (c0_2 : Nat) (d0 : ForecastD) (A1_0 : Option Addr) (c1_0 : Nat) (A1_1 : Option Addr) (c1_1 : Nat) (d1 : ChartD) (d2 : ShipD) (a3 : Int) (A4 : Option Addr) (c4 : Nat) (l4 : List IntD) (a5 : Int) (w : World) (hin0 : ForecastIn w A0_1 A0_2 c0_1 c0_2 d0) (hin1 : ChartIn w A1_0 A1_1 c1_0 c1_1 d1) (hin2 : d2.wf) (_ : (Lit.int .i64 a3).wf = true) (hin4 : l4.length ≤ maxLen ∧ (l4.length ≤ 1000000000 → SlInt w (.slice A4 l4.length c4) l4) ∧ ∀ x ∈ l4, IntD.wf x) (_ : (Lit.int .i64 a5).wf = true) :
    Calls Tryz.prog 5 #[.agg #[.int .i64 d0.mean, .slice A0_1 d0.parts.length c0_1, .slice A0_2 d0.surges.length c0_2], .agg #[.slice A1_0 d1.points.length c1_0, .slice A1_1 d1.segs.length c1_1], .agg #[.string d2.name, .int .i64 d2.length, .int .i64 d2.draught, .int .i64 d2.line, .int .i64 d2.tugs, .bool d2.slow], .int .i64 a3, .slice A4 l4.length c4, .int .i64 a5] w fun e w' => e = .returned (.bool true) ∧ Below w.heap.size w w' := by
  obtain ⟨_, hsz0⟩ := hin0
  have SZ0 := Lib.hid hsz0
  obtain ⟨m0_1, s0_1, f0_1, m0_2, s0_2, f0_2⟩ := hsz0
  have SS0_1 := Lib.hid s0_1
  have SS0_2 := Lib.hid s0_2
  clear s0_1 f0_1 s0_2 f0_2
  have bp0 := bulkForecast_pos d0
  have hsz1 : SizChart w A1_0 A1_1 c1_0 c1_1 d1 := hin1
  clear hin1
  have SZ1 := Lib.hid hsz1
  obtain ⟨m1_0, s1_0, f1_0, m1_1, s1_1, f1_1⟩ := hsz1
  have SS1_0 := Lib.hid s1_0
  have SS1_1 := Lib.hid s1_1
  have WF1_0 := Lib.hid f1_0
  clear s1_0 f1_0 s1_1 f1_1
  have bp1 := bulkChart_pos d1
  obtain ⟨m4, s4, f4⟩ := hin4
  unfold maxLen at m4
  have SS4 := Lib.hid s4
  have FF4 := Lib.hid f4
  clear s4 f4
  have HB0 : Below w.heap.size w (((w.alloc (.cells #[.int .i64 d0.mean, .slice A0_1 d0.parts.length c0_1, .slice A0_2 d0.surges.length c0_2] 27)).alloc (.cells #[.slice A1_0 d1.points.length c1_0, .slice A1_1 d1.segs.length c1_1] 31)).alloc (.cells #[.string d2.name, .int .i64 d2.length, .int .i64 d2.draught, .int .i64 d2.line, .int .i64 d2.tugs, .bool d2.slow] 60)) := by
    repeat (first | exact Below.refl _ _ | refine Below.alloc ?_ (by simp <;> omega) _)
  have BW := Lib.hid HB0
  clear HB0
  go_enter Tryz.func5, Tryz.ntmps5
  have B0 := Lib.hid (Below.refl ((((w.alloc (.cells #[.int .i64 d0.mean, .slice A0_1 d0.parts.length c0_1, .slice A0_2 d0.surges.length c0_2] 27)).alloc (.cells #[.slice A1_0 d1.points.length c1_0, .slice A1_1 d1.segs.length c1_1] 31)).alloc (.cells #[.string d2.name, .int .i64 d2.length, .int .i64 d2.draught, .int .i64 d2.line, .int .i64 d2.tugs, .bool d2.slow] 60))).heap.size (((w.alloc (.cells #[.int .i64 d0.mean, .slice A0_1 d0.parts.length c0_1, .slice A0_2 d0.surges.length c0_2] 27)).alloc (.cells #[.slice A1_0 d1.points.length c1_0, .slice A1_1 d1.segs.length c1_1] 31)).alloc (.cells #[.string d2.name, .int .i64 d2.length, .int .i64 d2.draught, .int .i64 d2.line, .int .i64 d2.tugs, .bool d2.slow] 60)))
  have hs0 : w.heap.size ≤ ((((w.alloc (.cells #[.int .i64 d0.mean, .slice A0_1 d0.parts.length c0_1, .slice A0_2 d0.surges.length c0_2] 27)).alloc (.cells #[.slice A1_0 d1.points.length c1_0, .slice A1_1 d1.segs.length c1_1] 31)).alloc (.cells #[.string d2.name, .int .i64 d2.length, .int .i64 d2.draught, .int .i64 d2.line, .int .i64 d2.tugs, .bool d2.slow] 60))).heap.size := BW.out.size
  have ABX0 := Lib.hid (show ((((w.alloc (.cells #[.int .i64 d0.mean, .slice A0_1 d0.parts.length c0_1, .slice A0_2 d0.surges.length c0_2] 27)).alloc (.cells #[.slice A1_0 d1.points.length c1_0, .slice A1_1 d1.segs.length c1_1] 31)).alloc (.cells #[.string d2.name, .int .i64 d2.length, .int .i64 d2.draught, .int .i64 d2.line, .int .i64 d2.tugs, .bool d2.slow] 60))).cell? ⟨w.heap.size, 0, none⟩ = some (.int .i64 d0.mean) ∧ ((((w.alloc (.cells #[.int .i64 d0.mean, .slice A0_1 d0.parts.length c0_1, .slice A0_2 d0.surges.length c0_2] 27)).alloc (.cells #[.slice A1_0 d1.points.length c1_0, .slice A1_1 d1.segs.length c1_1] 31)).alloc (.cells #[.string d2.name, .int .i64 d2.length, .int .i64 d2.draught, .int .i64 d2.line, .int .i64 d2.tugs, .bool d2.slow] 60))).cell? ⟨w.heap.size, 1, none⟩ = some (.slice A0_1 d0.parts.length c0_1) ∧ ((((w.alloc (.cells #[.int .i64 d0.mean, .slice A0_1 d0.parts.length c0_1, .slice A0_2 d0.surges.length c0_2] 27)).alloc (.cells #[.slice A1_0 d1.points.length c1_0, .slice A1_1 d1.segs.length c1_1] 31)).alloc (.cells #[.string d2.name, .int .i64 d2.length, .int .i64 d2.draught, .int .i64 d2.line, .int .i64 d2.tugs, .bool d2.slow] 60))).cell? ⟨w.heap.size, 2, none⟩ = some (.slice A0_2 d0.surges.length c0_2) from by
    have hBk0 : Blk (w.alloc (.cells #[.int .i64 d0.mean, .slice A0_1 d0.parts.length c0_1, .slice A0_2 d0.surges.length c0_2] 27)) (w.heap.size) #[.int .i64 d0.mean, .slice A0_1 d0.parts.length c0_1, .slice A0_2 d0.surges.length c0_2] 27 := Blk.newAt (w := w) (by first | rfl | simp) _ _
    have hBk : Blk (((w.alloc (.cells #[.int .i64 d0.mean, .slice A0_1 d0.parts.length c0_1, .slice A0_2 d0.surges.length c0_2] 27)).alloc (.cells #[.slice A1_0 d1.points.length c1_0, .slice A1_1 d1.segs.length c1_1] 31)).alloc (.cells #[.string d2.name, .int .i64 d2.length, .int .i64 d2.draught, .int .i64 d2.line, .int .i64 d2.tugs, .bool d2.slow] 60)) (w.heap.size) #[.int .i64 d0.mean, .slice A0_1 d0.parts.length c0_1, .slice A0_2 d0.surges.length c0_2] 27 := hBk0.below (by repeat (first | exact Below.refl _ _ | refine Below.alloc ?_ (by simp) _))
    exact ⟨hBk.cell 0, hBk.cell 1, hBk.cell 2⟩)
  have ABX1 := Lib.hid (show ((((w.alloc (.cells #[.int .i64 d0.mean, .slice A0_1 d0.parts.length c0_1, .slice A0_2 d0.surges.length c0_2] 27)).alloc (.cells #[.slice A1_0 d1.points.length c1_0, .slice A1_1 d1.segs.length c1_1] 31)).alloc (.cells #[.string d2.name, .int .i64 d2.length, .int .i64 d2.draught, .int .i64 d2.line, .int .i64 d2.tugs, .bool d2.slow] 60))).cell? ⟨w.heap.size + 1, 0, none⟩ = some (.slice A1_0 d1.points.length c1_0) ∧ ((((w.alloc (.cells #[.int .i64 d0.mean, .slice A0_1 d0.parts.length c0_1, .slice A0_2 d0.surges.length c0_2] 27)).alloc (.cells #[.slice A1_0 d1.points.length c1_0, .slice A1_1 d1.segs.length c1_1] 31)).alloc (.cells #[.string d2.name, .int .i64 d2.length, .int .i64 d2.draught, .int .i64 d2.line, .int .i64 d2.tugs, .bool d2.slow] 60))).cell? ⟨w.heap.size + 1, 1, none⟩ = some (.slice A1_1 d1.segs.length c1_1) from by
    have hBk0 : Blk ((w.alloc (.cells #[.int .i64 d0.mean, .slice A0_1 d0.parts.length c0_1, .slice A0_2 d0.surges.length c0_2] 27)).alloc (.cells #[.slice A1_0 d1.points.length c1_0, .slice A1_1 d1.segs.length c1_1] 31)) (w.heap.size + 1) #[.slice A1_0 d1.points.length c1_0, .slice A1_1 d1.segs.length c1_1] 31 := Blk.newAt (w := (w.alloc (.cells #[.int .i64 d0.mean, .slice A0_1 d0.parts.length c0_1, .slice A0_2 d0.surges.length c0_2] 27))) (by first | rfl | simp) _ _
    have hBk : Blk (((w.alloc (.cells #[.int .i64 d0.mean, .slice A0_1 d0.parts.length c0_1, .slice A0_2 d0.surges.length c0_2] 27)).alloc (.cells #[.slice A1_0 d1.points.length c1_0, .slice A1_1 d1.segs.length c1_1] 31)).alloc (.cells #[.string d2.name, .int .i64 d2.length, .int .i64 d2.draught, .int .i64 d2.line, .int .i64 d2.tugs, .bool d2.slow] 60)) (w.heap.size + 1) #[.slice A1_0 d1.points.length c1_0, .slice A1_1 d1.segs.length c1_1] 31 := hBk0.below (by repeat (first | exact Below.refl _ _ | refine Below.alloc ?_ (by simp) _))
    exact ⟨hBk.cell 0, hBk.cell 1⟩)
  have ABX2 := Lib.hid (show ((((w.alloc (.cells #[.int .i64 d0.mean, .slice A0_1 d0.parts.length c0_1, .slice A0_2 d0.surges.length c0_2] 27)).alloc (.cells #[.slice A1_0 d1.points.length c1_0, .slice A1_1 d1.segs.length c1_1] 31)).alloc (.cells #[.string d2.name, .int .i64 d2.length, .int .i64 d2.draught, .int .i64 d2.line, .int .i64 d2.tugs, .bool d2.slow] 60))).cell? ⟨w.heap.size + 2, 0, none⟩ = some (.string d2.name) ∧ ((((w.alloc (.cells #[.int .i64 d0.mean, .slice A0_1 d0.parts.length c0_1, .slice A0_2 d0.surges.length c0_2] 27)).alloc (.cells #[.slice A1_0 d1.points.length c1_0, .slice A1_1 d1.segs.length c1_1] 31)).alloc (.cells #[.string d2.name, .int .i64 d2.length, .int .i64 d2.draught, .int .i64 d2.line, .int .i64 d2.tugs, .bool d2.slow] 60))).cell? ⟨w.heap.size + 2, 1, none⟩ = some (.int .i64 d2.length) ∧ ((((w.alloc (.cells #[.int .i64 d0.mean, .slice A0_1 d0.parts.length c0_1, .slice A0_2 d0.surges.length c0_2] 27)).alloc (.cells #[.slice A1_0 d1.points.length c1_0, .slice A1_1 d1.segs.length c1_1] 31)).alloc (.cells #[.string d2.name, .int .i64 d2.length, .int .i64 d2.draught, .int .i64 d2.line, .int .i64 d2.tugs, .bool d2.slow] 60))).cell? ⟨w.heap.size + 2, 2, none⟩ = some (.int .i64 d2.draught) ∧ ((((w.alloc (.cells #[.int .i64 d0.mean, .slice A0_1 d0.parts.length c0_1, .slice A0_2 d0.surges.length c0_2] 27)).alloc (.cells #[.slice A1_0 d1.points.length c1_0, .slice A1_1 d1.segs.length c1_1] 31)).alloc (.cells #[.string d2.name, .int .i64 d2.length, .int .i64 d2.draught, .int .i64 d2.line, .int .i64 d2.tugs, .bool d2.slow] 60))).cell? ⟨w.heap.size + 2, 3, none⟩ = some (.int .i64 d2.line) ∧ ((((w.alloc (.cells #[.int .i64 d0.mean, .slice A0_1 d0.parts.length c0_1, .slice A0_2 d0.surges.length c0_2] 27)).alloc (.cells #[.slice A1_0 d1.points.length c1_0, .slice A1_1 d1.segs.length c1_1] 31)).alloc (.cells #[.string d2.name, .int .i64 d2.length, .int .i64 d2.draught, .int .i64 d2.line, .int .i64 d2.tugs, .bool d2.slow] 60))).cell? ⟨w.heap.size + 2, 4, none⟩ = some (.int .i64 d2.tugs) ∧ ((((w.alloc (.cells #[.int .i64 d0.mean, .slice A0_1 d0.parts.length c0_1, .slice A0_2 d0.surges.length c0_2] 27)).alloc (.cells #[.slice A1_0 d1.points.length c1_0, .slice A1_1 d1.segs.length c1_1] 31)).alloc (.cells #[.string d2.name, .int .i64 d2.length, .int .i64 d2.draught, .int .i64 d2.line, .int .i64 d2.tugs, .bool d2.slow] 60))).cell? ⟨w.heap.size + 2, 5, none⟩ = some (.bool d2.slow) from by
    have hBk0 : Blk (((w.alloc (.cells #[.int .i64 d0.mean, .slice A0_1 d0.parts.length c0_1, .slice A0_2 d0.surges.length c0_2] 27)).alloc (.cells #[.slice A1_0 d1.points.length c1_0, .slice A1_1 d1.segs.length c1_1] 31)).alloc (.cells #[.string d2.name, .int .i64 d2.length, .int .i64 d2.draught, .int .i64 d2.line, .int .i64 d2.tugs, .bool d2.slow] 60)) (w.heap.size + 2) #[.string d2.name, .int .i64 d2.length, .int .i64 d2.draught, .int .i64 d2.line, .int .i64 d2.tugs, .bool d2.slow] 60 := Blk.newAt (w := ((w.alloc (.cells #[.int .i64 d0.mean, .slice A0_1 d0.parts.length c0_1, .slice A0_2 d0.surges.length c0_2] 27)).alloc (.cells #[.slice A1_0 d1.points.length c1_0, .slice A1_1 d1.segs.length c1_1] 31))) (by first | rfl | simp) _ _
    have hBk : Blk (((w.alloc (.cells #[.int .i64 d0.mean, .slice A0_1 d0.parts.length c0_1, .slice A0_2 d0.surges.length c0_2] 27)).alloc (.cells #[.slice A1_0 d1.points.length c1_0, .slice A1_1 d1.segs.length c1_1] 31)).alloc (.cells #[.string d2.name, .int .i64 d2.length, .int .i64 d2.draught, .int .i64 d2.line, .int .i64 d2.tugs, .bool d2.slow] 60)) (w.heap.size + 2) #[.string d2.name, .int .i64 d2.length, .int .i64 d2.draught, .int .i64 d2.line, .int .i64 d2.tugs, .bool d2.slow] 60 := hBk0.below (by repeat (first | exact Below.refl _ _ | refine Below.alloc ?_ (by simp) _))
    exact ⟨hBk.cell 0, hBk.cell 1, hBk.cell 2, hBk.cell 3, hBk.cell 4, hBk.cell 5⟩)
  obtain ⟨r0, hr0⟩ : ∃ r0, ((firstSail d0 d1 d2 a3 l4 a5).getD []) = r0 := ⟨_, rfl⟩
  have HR0 := Lib.hid hr0
  clear hr0
  obtain ⟨r1, hr1⟩ : ∃ r1, ((firstSail d0 d1 d2 a3 l4 a5).isSome) = r1 := ⟨_, rfl⟩
  have HR1 := Lib.hid hr1
  clear hr1
  -- if len(aRoute) > 1<<20 {
  by_cases big4 : 1048576 < l4.length
  · go_wp2
    go_ret
    exact ⟨rfl, BW.out.trans (B0.out.mono hs0)⟩
  have R4 := Lib.hid (SS4.out (by omega))
  clear SS4
  -- left := 1 << 20
  -- left = szForecast(aF, left)
  have y0_0 : ((((w.alloc (.cells #[.int .i64 d0.mean, .slice A0_1 d0.parts.length c0_1, .slice A0_2 d0.surges.length c0_2] 27)).alloc (.cells #[.slice A1_0 d1.points.length c1_0, .slice A1_1 d1.segs.length c1_1] 31)).alloc (.cells #[.string d2.name, .int .i64 d2.length, .int .i64 d2.draught, .int .i64 d2.line, .int .i64 d2.tugs, .bool d2.slow] 60))).cell? ⟨w.heap.size, 0, none⟩ = some (.int .i64 d0.mean) := cell_onV (ABX0.out.1) B0.out
  have y0_1 : ((((w.alloc (.cells #[.int .i64 d0.mean, .slice A0_1 d0.parts.length c0_1, .slice A0_2 d0.surges.length c0_2] 27)).alloc (.cells #[.slice A1_0 d1.points.length c1_0, .slice A1_1 d1.segs.length c1_1] 31)).alloc (.cells #[.string d2.name, .int .i64 d2.length, .int .i64 d2.draught, .int .i64 d2.line, .int .i64 d2.tugs, .bool d2.slow] 60))).cell? ⟨w.heap.size, 1, none⟩ = some (.slice A0_1 d0.parts.length c0_1) := cell_onV (ABX0.out.2.1) B0.out
  have y0_2 : ((((w.alloc (.cells #[.int .i64 d0.mean, .slice A0_1 d0.parts.length c0_1, .slice A0_2 d0.surges.length c0_2] 27)).alloc (.cells #[.slice A1_0 d1.points.length c1_0, .slice A1_1 d1.segs.length c1_1] 31)).alloc (.cells #[.string d2.name, .int .i64 d2.length, .int .i64 d2.draught, .int .i64 d2.line, .int .i64 d2.tugs, .bool d2.slow] 60))).cell? ⟨w.heap.size, 2, none⟩ = some (.slice A0_2 d0.surges.length c0_2) := cell_onV (ABX0.out.2.2) B0.out
  have hl1 : 0 ≤ (1048576 : Int) := by omega
  have hll1 : (1048576 : Int) ≤ 1048576 := by omega
  go_wp2_with fail
  refine (szForecastC_any _ _ _ _ d0 _ (SizForecast.below SZ0.out (BW.out.trans (B0.out.mono hs0))) (1048576) hl1 hll1).mono ?_
  rintro e w1 ⟨rfl, hb1⟩
  have B1 := Lib.hid (B0.out.trans (hb1.mono B0.out.size))
  have hz1 : ((((w.alloc (.cells #[.int .i64 d0.mean, .slice A0_1 d0.parts.length c0_1, .slice A0_2 d0.surges.length c0_2] 27)).alloc (.cells #[.slice A1_0 d1.points.length c1_0, .slice A1_1 d1.segs.length c1_1] 31)).alloc (.cells #[.string d2.name, .int .i64 d2.length, .int .i64 d2.draught, .int .i64 d2.line, .int .i64 d2.tugs, .bool d2.slow] 60))).heap.size ≤ w1.heap.size := hb1.size
  clear hb1 y0_0 y0_1 y0_2
  by_cases neg1 : (1048576 : Int) < bulkForecast d0
  · rw [leftOf_no neg1]
    go_wp2
    go_ret
    exact ⟨rfl, BW.out.trans (B1.out.mono hs0)⟩
  rw [leftOf_yes neg1]
  have ne1 : ¬ (1048576 - bulkForecast d0 : Int) < 0 := by omega
  have le0 := bulkForecast_le d0
  have R0 : Hid (RdForecast w (.slice A0_1 d0.parts.length c0_1) (.slice A0_2 d0.surges.length c0_2) d0) := Lib.hid ⟨SS0_1.out (by omega), SS0_2.out (by omega)⟩
  -- left = szChart(aC, left)
  have y1_0 : (w1).cell? ⟨w.heap.size + 1, 0, none⟩ = some (.slice A1_0 d1.points.length c1_0) := cell_onV (ABX1.out.1) B1.out
  have y1_1 : (w1).cell? ⟨w.heap.size + 1, 1, none⟩ = some (.slice A1_1 d1.segs.length c1_1) := cell_onV (ABX1.out.2) B1.out
  have hl2 : 0 ≤ (1048576 - bulkForecast d0 : Int) := by omega
  have hll2 : (1048576 - bulkForecast d0 : Int) ≤ 1048576 := by omega
  go_wp2_with fail
  refine (szChart_any _ _ _ _ d1 _ (SizChart.below SZ1.out (BW.out.trans (B1.out.mono hs0))) (1048576 - bulkForecast d0) hl2 hll2).mono ?_
  rintro e w2 ⟨rfl, hb2⟩
  have B2 := Lib.hid (B1.out.trans (hb2.mono B1.out.size))
  have hz2 : (w1).heap.size ≤ w2.heap.size := hb2.size
  clear hb2 y1_0 y1_1
  by_cases neg2 : (1048576 - bulkForecast d0 : Int) < bulkChart d1
  · rw [leftOf_no neg2]
    go_wp2
    go_ret
    exact ⟨rfl, BW.out.trans (B2.out.mono hs0)⟩
  rw [leftOf_yes neg2]
  have ne2 : ¬ (1048576 - bulkForecast d0 - bulkChart d1 : Int) < 0 := by omega
  have le1 := bulkChart_le d1
  have R1 : Hid (RdChart w (.slice A1_0 d1.points.length c1_0) (.slice A1_1 d1.segs.length c1_1) d1) := Lib.hid ⟨SS1_0.out (by omega), SS1_1.out (by omega)⟩
  -- left = szShip(aS, left)
  have y2_0 : (w2).cell? ⟨w.heap.size + 2, 0, none⟩ = some (.string d2.name) := cell_onV (ABX2.out.1) B2.out
  have y2_1 : (w2).cell? ⟨w.heap.size + 2, 1, none⟩ = some (.int .i64 d2.length) := cell_onV (ABX2.out.2.1) B2.out
  have y2_2 : (w2).cell? ⟨w.heap.size + 2, 2, none⟩ = some (.int .i64 d2.draught) := cell_onV (ABX2.out.2.2.1) B2.out
  have y2_3 : (w2).cell? ⟨w.heap.size + 2, 3, none⟩ = some (.int .i64 d2.line) := cell_onV (ABX2.out.2.2.2.1) B2.out
  have y2_4 : (w2).cell? ⟨w.heap.size + 2, 4, none⟩ = some (.int .i64 d2.tugs) := cell_onV (ABX2.out.2.2.2.2.1) B2.out
  have y2_5 : (w2).cell? ⟨w.heap.size + 2, 5, none⟩ = some (.bool d2.slow) := cell_onV (ABX2.out.2.2.2.2.2) B2.out
  have hl3 : 0 ≤ (1048576 - bulkForecast d0 - bulkChart d1 : Int) := by omega
  have hll3 : (1048576 - bulkForecast d0 - bulkChart d1 : Int) ≤ 1048576 := by omega
  go_wp2_with fail
  refine (szShip_any d2.name d2.length d2.draught d2.line d2.tugs d2.slow (1048576 - bulkForecast d0 - bulkChart d1) _ hl3 hll3 (wfszShip hin2)).mono ?_
  rintro e w3 ⟨rfl, hb3⟩
  have B3 := Lib.hid (B2.out.trans (hb3.mono B2.out.size))
  have hz3 : (w2).heap.size ≤ w3.heap.size := hb3.size
  clear hb3 y2_0 y2_1 y2_2 y2_3 y2_4 y2_5
  have ps3 := oneShip_pos ⟨d2.name, d2.length, d2.draught, d2.line, d2.tugs, d2.slow⟩
  by_cases neg3 : (1048576 - bulkForecast d0 - bulkChart d1 : Int) < oneShip ⟨d2.name, d2.length, d2.draught, d2.line, d2.tugs, d2.slow⟩
  · rw [leftOf_no neg3]
    go_wp2
    go_ret
    exact ⟨rfl, BW.out.trans (B3.out.mono hs0)⟩
  rw [leftOf_yes neg3]
  have ne3 : ¬ (1048576 - bulkForecast d0 - bulkChart d1 - oneShip ⟨d2.name, d2.length, d2.draught, d2.line, d2.tugs, d2.slow⟩ : Int) < 0 := by omega
  -- w0, w1 := spec.FirstSail(toForecast(aF), toChart(aC), toShip(aS), aFrom, toIntS(aRoute), aReady)
  have y0_0 : (w3).cell? ⟨w.heap.size, 0, none⟩ = some (.int .i64 d0.mean) := cell_onV (ABX0.out.1) B3.out
  have y0_1 : (w3).cell? ⟨w.heap.size, 1, none⟩ = some (.slice A0_1 d0.parts.length c0_1) := cell_onV (ABX0.out.2.1) B3.out
  have y0_2 : (w3).cell? ⟨w.heap.size, 2, none⟩ = some (.slice A0_2 d0.surges.length c0_2) := cell_onV (ABX0.out.2.2) B3.out
  have y1_0 : (w3).cell? ⟨w.heap.size + 1, 0, none⟩ = some (.slice A1_0 d1.points.length c1_0) := cell_onV (ABX1.out.1) B3.out
  have y1_1 : (w3).cell? ⟨w.heap.size + 1, 1, none⟩ = some (.slice A1_1 d1.segs.length c1_1) := cell_onV (ABX1.out.2) B3.out
  have y2_0 : (w3).cell? ⟨w.heap.size + 2, 0, none⟩ = some (.string d2.name) := cell_onV (ABX2.out.1) B3.out
  have y2_1 : (w3).cell? ⟨w.heap.size + 2, 1, none⟩ = some (.int .i64 d2.length) := cell_onV (ABX2.out.2.1) B3.out
  have y2_2 : (w3).cell? ⟨w.heap.size + 2, 2, none⟩ = some (.int .i64 d2.draught) := cell_onV (ABX2.out.2.2.1) B3.out
  have y2_3 : (w3).cell? ⟨w.heap.size + 2, 3, none⟩ = some (.int .i64 d2.line) := cell_onV (ABX2.out.2.2.2.1) B3.out
  have y2_4 : (w3).cell? ⟨w.heap.size + 2, 4, none⟩ = some (.int .i64 d2.tugs) := cell_onV (ABX2.out.2.2.2.2.1) B3.out
  have y2_5 : (w3).cell? ⟨w.heap.size + 2, 5, none⟩ = some (.bool d2.slow) := cell_onV (ABX2.out.2.2.2.2.2) B3.out
  have DD := Lib.hid ((Below.refl (w3).heap.size (w3)).drew)
  have hlen : r0.length ≤ 10000000 := by rw [← HR0.out]; exact (Nat.le_trans (firstO_len _ _) (by omega))
  go_upto_region 13 with fail
  go_cut [14, 15] (fun sL0 sL1 wx => ∃ v, sL0 = v ∧ sL1 = .bool r1 ∧ Hid (OwnInt wx (w3).heap.size v r0) ∧ Hid (Below (w3).heap.size (w3) wx))
  case first =>
    refine wp_region_held_drew (S := (fun w' => w'.cell? ⟨w.heap.size, 0, none⟩ = some (.int .i64 d0.mean) ∧ w'.cell? ⟨w.heap.size, 1, none⟩ = some (.slice A0_1 d0.parts.length c0_1) ∧ w'.cell? ⟨w.heap.size, 2, none⟩ = some (.slice A0_2 d0.surges.length c0_2) ∧ w'.cell? ⟨w.heap.size + 1, 0, none⟩ = some (.slice A1_0 d1.points.length c1_0) ∧ w'.cell? ⟨w.heap.size + 1, 1, none⟩ = some (.slice A1_1 d1.segs.length c1_1) ∧ w'.cell? ⟨w.heap.size + 2, 0, none⟩ = some (.string d2.name) ∧ w'.cell? ⟨w.heap.size + 2, 1, none⟩ = some (.int .i64 d2.length) ∧ w'.cell? ⟨w.heap.size + 2, 2, none⟩ = some (.int .i64 d2.draught) ∧ w'.cell? ⟨w.heap.size + 2, 3, none⟩ = some (.int .i64 d2.line) ∧ w'.cell? ⟨w.heap.size + 2, 4, none⟩ = some (.int .i64 d2.tugs) ∧ w'.cell? ⟨w.heap.size + 2, 5, none⟩ = some (.bool d2.slow) ∧ Hid (Below (w3).heap.size (w3) w'))) (by kernel_rfl) ?_ (fun hHeld => ?_)
    · (try dsimp only); go_keep
    refine wpAnyH_take (i := 0) (v := ?_) (by simp only [List.getElem?_toArray, List.getElem?_cons_zero]; rfl) (by kernel_rfl) (by kernel_rfl) (by kernel_rfl) (by exact fun _ _ _ h => h) (Or.inl ⟨by rfl, ?_⟩) (by assumption) ?_; rotate_left; focus (intro w hSw; (try dsimp only at hSw); first | (go_simp; done) | (go_simp; with_reducible rfl))
    try simp only [Act.put, List.setIfInBounds_toArray, List.set_cons_zero, List.set_cons_succ]
    refine wpAnyH_take (i := 2) (v := ?_) (by simp only [List.getElem?_toArray, List.getElem?_cons_succ, List.getElem?_cons_zero]; rfl) (by kernel_rfl) (by kernel_rfl) (by kernel_rfl) (by exact fun _ _ _ h => h) (Or.inl ⟨by rfl, ?_⟩) (by assumption) ?_; rotate_left; focus (intro w hSw; (try dsimp only at hSw); first | (go_simp; done) | (go_simp; with_reducible rfl))
    try simp only [Act.put, List.setIfInBounds_toArray, List.set_cons_zero, List.set_cons_succ]
    refine wpAnyH_take (i := 4) (v := ?_) (by simp only [List.getElem?_toArray, List.getElem?_cons_succ, List.getElem?_cons_zero]; rfl) (by kernel_rfl) (by kernel_rfl) (by kernel_rfl) (by exact fun _ _ _ h => h) (Or.inl ⟨by rfl, ?_⟩) (by assumption) ?_; rotate_left; focus (intro w hSw; (try dsimp only at hSw); first | (go_simp; done) | (go_simp; with_reducible rfl))
    try simp only [Act.put, List.setIfInBounds_toArray, List.set_cons_zero, List.set_cons_succ]
    refine wpAnyH_take (i := 6) (v := ?_) (by simp only [List.getElem?_toArray, List.getElem?_cons_succ, List.getElem?_cons_zero]; rfl) (by kernel_rfl) (by kernel_rfl) (by kernel_rfl) (by exact fun _ _ _ h => h) (Or.inl ⟨by rfl, ?_⟩) (by assumption) ?_; rotate_left; focus (intro w hSw; (try dsimp only at hSw); first | (go_simp; done) | (go_simp; with_reducible rfl))
    try simp only [Act.put, List.setIfInBounds_toArray, List.set_cons_zero, List.set_cons_succ]
    refine wpAnyH_take (i := 7) (v := ?_) (by simp only [List.getElem?_toArray, List.getElem?_cons_succ, List.getElem?_cons_zero]; rfl) (by kernel_rfl) (by kernel_rfl) (by kernel_rfl) (by exact fun _ _ _ h => h) (Or.inl ⟨by rfl, ?_⟩) (by assumption) ?_; rotate_left; focus (intro w hSw; (try dsimp only at hSw); first | (go_simp; done) | (go_simp; with_reducible rfl))
    try simp only [Act.put, List.setIfInBounds_toArray, List.set_cons_zero, List.set_cons_succ]
    refine wpAnyH_take (i := 9) (v := ?_) (by simp only [List.getElem?_toArray, List.getElem?_cons_succ, List.getElem?_cons_zero]; rfl) (by kernel_rfl) (by kernel_rfl) (by kernel_rfl) (by exact fun _ _ _ h => h) (Or.inl ⟨by rfl, ?_⟩) (by assumption) ?_; rotate_left; focus (intro w hSw; (try dsimp only at hSw); first | (go_simp; done) | (go_simp; with_reducible rfl))
    try simp only [Act.put, List.setIfInBounds_toArray, List.set_cons_zero, List.set_cons_succ]
    refine wpAnyH_ready (rs := [1]) (by kernel_rfl) (by simp) ?_
    refine AllReadyH.cons rfl (fun K hK => ?_) AllReadyH.nil
    rw [if_pos (by rfl)]
    go_simp
    go_at_call 10
    have kB := hHeld.2.2.2.2.2.2.2.2.2.2.2
    refine (toForecastC_any _ _ d0 _ (R0.out.below (BW.out.trans ((B3.out.trans (kB.out.mono B3.out.size)).mono hs0)))).mono ?_
    intro e wt0 hN
    obtain ⟨Q0_1, q0_1, Q0_2, q0_2, rfl, hRD, hbk⟩ := hN.rd (by omega) (by omega)
    have HRD0 := Lib.hid hRD
    have HBK := kB.out.trans (hbk.mono kB.out.size)
    have QS0 := Lib.hid (show wt0.cell? ⟨w.heap.size, 0, none⟩ = some (.int .i64 d0.mean) ∧ wt0.cell? ⟨w.heap.size, 1, none⟩ = some (.slice A0_1 d0.parts.length c0_1) ∧ wt0.cell? ⟨w.heap.size, 2, none⟩ = some (.slice A0_2 d0.surges.length c0_2) ∧ wt0.cell? ⟨w.heap.size + 1, 0, none⟩ = some (.slice A1_0 d1.points.length c1_0) ∧ wt0.cell? ⟨w.heap.size + 1, 1, none⟩ = some (.slice A1_1 d1.segs.length c1_1) ∧ wt0.cell? ⟨w.heap.size + 2, 0, none⟩ = some (.string d2.name) ∧ wt0.cell? ⟨w.heap.size + 2, 1, none⟩ = some (.int .i64 d2.length) ∧ wt0.cell? ⟨w.heap.size + 2, 2, none⟩ = some (.int .i64 d2.draught) ∧ wt0.cell? ⟨w.heap.size + 2, 3, none⟩ = some (.int .i64 d2.line) ∧ wt0.cell? ⟨w.heap.size + 2, 4, none⟩ = some (.int .i64 d2.tugs) ∧ wt0.cell? ⟨w.heap.size + 2, 5, none⟩ = some (.bool d2.slow) ∧ Hid (Below (w3).heap.size (w3) wt0) from ⟨cell_onV (cell_onV (ABX0.out.1) B3.out) HBK, cell_onV (cell_onV (ABX0.out.2.1) B3.out) HBK, cell_onV (cell_onV (ABX0.out.2.2) B3.out) HBK, cell_onV (cell_onV (ABX1.out.1) B3.out) HBK, cell_onV (cell_onV (ABX1.out.2) B3.out) HBK, cell_onV (cell_onV (ABX2.out.1) B3.out) HBK, cell_onV (cell_onV (ABX2.out.2.1) B3.out) HBK, cell_onV (cell_onV (ABX2.out.2.2.1) B3.out) HBK, cell_onV (cell_onV (ABX2.out.2.2.2.1) B3.out) HBK, cell_onV (cell_onV (ABX2.out.2.2.2.2.1) B3.out) HBK, cell_onV (cell_onV (ABX2.out.2.2.2.2.2) B3.out) HBK, Lib.hid HBK⟩)
    clear hbk kB hHeld hN hRD HBK
    go_simp
    refine hK.out _ _ ?_ (fun hHeld => ?_)
    · (try dsimp only); exact QS0.out
    clear hK K
    try simp only [Act.put, List.setIfInBounds_toArray, List.set_cons_zero, List.set_cons_succ]
    refine wpAnyH_ready (rs := [3]) (by kernel_rfl) (by simp) ?_
    refine AllReadyH.cons rfl (fun K hK => ?_) AllReadyH.nil
    rw [if_pos (by rfl)]
    go_simp
    go_at_call 11
    have kB := hHeld.2.2.2.2.2.2.2.2.2.2.2
    refine (toChart_any _ _ d1 _ (R1.out.below (BW.out.trans ((B3.out.trans (kB.out.mono B3.out.size)).mono hs0)))).mono ?_
    intro e wt1 hN
    obtain ⟨Q1_0, q1_0, Q1_1, q1_1, rfl, hRD, hbk⟩ := hN.rd (by omega) (by omega)
    have HRD0' := Lib.hid (HRD0.out.below hbk)
    clear HRD0
    have HRD0 := HRD0'
    clear HRD0'
    have HRD1 := Lib.hid hRD
    have HBK := kB.out.trans (hbk.mono kB.out.size)
    have QS1 := Lib.hid (show wt1.cell? ⟨w.heap.size, 0, none⟩ = some (.int .i64 d0.mean) ∧ wt1.cell? ⟨w.heap.size, 1, none⟩ = some (.slice A0_1 d0.parts.length c0_1) ∧ wt1.cell? ⟨w.heap.size, 2, none⟩ = some (.slice A0_2 d0.surges.length c0_2) ∧ wt1.cell? ⟨w.heap.size + 1, 0, none⟩ = some (.slice A1_0 d1.points.length c1_0) ∧ wt1.cell? ⟨w.heap.size + 1, 1, none⟩ = some (.slice A1_1 d1.segs.length c1_1) ∧ wt1.cell? ⟨w.heap.size + 2, 0, none⟩ = some (.string d2.name) ∧ wt1.cell? ⟨w.heap.size + 2, 1, none⟩ = some (.int .i64 d2.length) ∧ wt1.cell? ⟨w.heap.size + 2, 2, none⟩ = some (.int .i64 d2.draught) ∧ wt1.cell? ⟨w.heap.size + 2, 3, none⟩ = some (.int .i64 d2.line) ∧ wt1.cell? ⟨w.heap.size + 2, 4, none⟩ = some (.int .i64 d2.tugs) ∧ wt1.cell? ⟨w.heap.size + 2, 5, none⟩ = some (.bool d2.slow) ∧ Hid (Below (w3).heap.size (w3) wt1) from ⟨cell_onV (cell_onV (ABX0.out.1) B3.out) HBK, cell_onV (cell_onV (ABX0.out.2.1) B3.out) HBK, cell_onV (cell_onV (ABX0.out.2.2) B3.out) HBK, cell_onV (cell_onV (ABX1.out.1) B3.out) HBK, cell_onV (cell_onV (ABX1.out.2) B3.out) HBK, cell_onV (cell_onV (ABX2.out.1) B3.out) HBK, cell_onV (cell_onV (ABX2.out.2.1) B3.out) HBK, cell_onV (cell_onV (ABX2.out.2.2.1) B3.out) HBK, cell_onV (cell_onV (ABX2.out.2.2.2.1) B3.out) HBK, cell_onV (cell_onV (ABX2.out.2.2.2.2.1) B3.out) HBK, cell_onV (cell_onV (ABX2.out.2.2.2.2.2) B3.out) HBK, Lib.hid HBK⟩)
    clear hbk kB hHeld hN hRD HBK
    go_simp
    refine hK.out _ _ ?_ (fun hHeld => ?_)
    · (try dsimp only); exact QS1.out
    clear hK K
    try simp only [Act.put, List.setIfInBounds_toArray, List.set_cons_zero, List.set_cons_succ]
    refine wpAnyH_ready (rs := [5]) (by kernel_rfl) (by simp) ?_
    refine AllReadyH.cons rfl (fun K hK => ?_) AllReadyH.nil
    rw [if_pos (by rfl)]
    go_simp
    go_at_call 20
    have kB := hHeld.2.2.2.2.2.2.2.2.2.2.2
    refine (toShip_any d2.name d2.length d2.draught d2.line d2.tugs d2.slow _).mono ?_
    rintro e wt2 ⟨rfl, hbk⟩
    have HRD0' := Lib.hid (HRD0.out.below hbk)
    clear HRD0
    have HRD0 := HRD0'
    clear HRD0'
    have HRD1' := Lib.hid (HRD1.out.below hbk)
    clear HRD1
    have HRD1 := HRD1'
    clear HRD1'
    have HBK := kB.out.trans (hbk.mono kB.out.size)
    have QS2 := Lib.hid (show wt2.cell? ⟨w.heap.size, 0, none⟩ = some (.int .i64 d0.mean) ∧ wt2.cell? ⟨w.heap.size, 1, none⟩ = some (.slice A0_1 d0.parts.length c0_1) ∧ wt2.cell? ⟨w.heap.size, 2, none⟩ = some (.slice A0_2 d0.surges.length c0_2) ∧ wt2.cell? ⟨w.heap.size + 1, 0, none⟩ = some (.slice A1_0 d1.points.length c1_0) ∧ wt2.cell? ⟨w.heap.size + 1, 1, none⟩ = some (.slice A1_1 d1.segs.length c1_1) ∧ wt2.cell? ⟨w.heap.size + 2, 0, none⟩ = some (.string d2.name) ∧ wt2.cell? ⟨w.heap.size + 2, 1, none⟩ = some (.int .i64 d2.length) ∧ wt2.cell? ⟨w.heap.size + 2, 2, none⟩ = some (.int .i64 d2.draught) ∧ wt2.cell? ⟨w.heap.size + 2, 3, none⟩ = some (.int .i64 d2.line) ∧ wt2.cell? ⟨w.heap.size + 2, 4, none⟩ = some (.int .i64 d2.tugs) ∧ wt2.cell? ⟨w.heap.size + 2, 5, none⟩ = some (.bool d2.slow) ∧ Hid (Below (w3).heap.size (w3) wt2) from ⟨cell_onV (cell_onV (ABX0.out.1) B3.out) HBK, cell_onV (cell_onV (ABX0.out.2.1) B3.out) HBK, cell_onV (cell_onV (ABX0.out.2.2) B3.out) HBK, cell_onV (cell_onV (ABX1.out.1) B3.out) HBK, cell_onV (cell_onV (ABX1.out.2) B3.out) HBK, cell_onV (cell_onV (ABX2.out.1) B3.out) HBK, cell_onV (cell_onV (ABX2.out.2.1) B3.out) HBK, cell_onV (cell_onV (ABX2.out.2.2.1) B3.out) HBK, cell_onV (cell_onV (ABX2.out.2.2.2.1) B3.out) HBK, cell_onV (cell_onV (ABX2.out.2.2.2.2.1) B3.out) HBK, cell_onV (cell_onV (ABX2.out.2.2.2.2.2) B3.out) HBK, Lib.hid HBK⟩)
    clear hbk kB hHeld HBK
    go_simp
    refine hK.out _ _ ?_ (fun hHeld => ?_)
    · (try dsimp only); exact QS2.out
    clear hK K
    try simp only [Act.put, List.setIfInBounds_toArray, List.set_cons_zero, List.set_cons_succ]
    refine wpAnyH_ready (rs := [8]) (by kernel_rfl) (by simp) ?_
    refine AllReadyH.cons rfl (fun K hK => ?_) AllReadyH.nil
    rw [if_pos (by rfl)]
    go_simp
    go_at_call 21
    have kB := hHeld.2.2.2.2.2.2.2.2.2.2.2
    refine (toIntS_any _ l4 _ (R4.out.below (BW.out.trans ((B3.out.trans (kB.out.mono B3.out.size)).mono hs0)))).mono ?_
    rintro e wt3 ⟨uz3, rfl, oz3, hbk⟩
    have hRD := OwnInt.sl oz3 (by omega)
    obtain ⟨Dz3, kz3, rfl⟩ := own_form oz3
    have HRD0' := Lib.hid (HRD0.out.below hbk)
    clear HRD0
    have HRD0 := HRD0'
    clear HRD0'
    have HRD1' := Lib.hid (HRD1.out.below hbk)
    clear HRD1
    have HRD1 := HRD1'
    clear HRD1'
    have HRD3 := Lib.hid hRD
    have HBK := kB.out.trans (hbk.mono kB.out.size)
    have QS3 := Lib.hid (show wt3.cell? ⟨w.heap.size, 0, none⟩ = some (.int .i64 d0.mean) ∧ wt3.cell? ⟨w.heap.size, 1, none⟩ = some (.slice A0_1 d0.parts.length c0_1) ∧ wt3.cell? ⟨w.heap.size, 2, none⟩ = some (.slice A0_2 d0.surges.length c0_2) ∧ wt3.cell? ⟨w.heap.size + 1, 0, none⟩ = some (.slice A1_0 d1.points.length c1_0) ∧ wt3.cell? ⟨w.heap.size + 1, 1, none⟩ = some (.slice A1_1 d1.segs.length c1_1) ∧ wt3.cell? ⟨w.heap.size + 2, 0, none⟩ = some (.string d2.name) ∧ wt3.cell? ⟨w.heap.size + 2, 1, none⟩ = some (.int .i64 d2.length) ∧ wt3.cell? ⟨w.heap.size + 2, 2, none⟩ = some (.int .i64 d2.draught) ∧ wt3.cell? ⟨w.heap.size + 2, 3, none⟩ = some (.int .i64 d2.line) ∧ wt3.cell? ⟨w.heap.size + 2, 4, none⟩ = some (.int .i64 d2.tugs) ∧ wt3.cell? ⟨w.heap.size + 2, 5, none⟩ = some (.bool d2.slow) ∧ Hid (Below (w3).heap.size (w3) wt3) from ⟨cell_onV (cell_onV (ABX0.out.1) B3.out) HBK, cell_onV (cell_onV (ABX0.out.2.1) B3.out) HBK, cell_onV (cell_onV (ABX0.out.2.2) B3.out) HBK, cell_onV (cell_onV (ABX1.out.1) B3.out) HBK, cell_onV (cell_onV (ABX1.out.2) B3.out) HBK, cell_onV (cell_onV (ABX2.out.1) B3.out) HBK, cell_onV (cell_onV (ABX2.out.2.1) B3.out) HBK, cell_onV (cell_onV (ABX2.out.2.2.1) B3.out) HBK, cell_onV (cell_onV (ABX2.out.2.2.2.1) B3.out) HBK, cell_onV (cell_onV (ABX2.out.2.2.2.2.1) B3.out) HBK, cell_onV (cell_onV (ABX2.out.2.2.2.2.2) B3.out) HBK, Lib.hid HBK⟩)
    clear hbk kB hHeld oz3 hRD HBK
    go_simp
    refine hK.out _ _ ?_ (fun hHeld => ?_)
    · (try dsimp only); exact QS3.out
    clear hK K
    try simp only [Act.put, List.setIfInBounds_toArray, List.set_cons_zero, List.set_cons_succ]
    refine wpAnyH_ready (rs := [10]) (by kernel_rfl) (by simp) ?_
    refine AllReadyH.cons rfl (fun K hK => ?_) AllReadyH.nil
    rw [if_pos (by rfl)]
    go_simp
    go_at_call 28
    have kB := hHeld.2.2.2.2.2.2.2.2.2.2.2
    refine (specFirstSail _ _ d0 _ _ d1 d2 a3 _ l4 a5 _ HRD0.out HRD1.out HRD3.out WF1_0.out hin2).mono ?_
    intro e wq hN
    unfold SailPost at hN
    rw [HR1.out, HR0.out] at hN
    obtain ⟨uz, rfl, oz, hbk⟩ := hN
    have OZ := Lib.hid (own_lo (base' := (w3).heap.size) oz kB.out.size)
    obtain ⟨DZ, kz, rfl⟩ := own_form oz
    clear oz
    have HBK := kB.out.trans (hbk.mono kB.out.size)
    have QQ := Lib.hid (show wq.cell? ⟨w.heap.size, 0, none⟩ = some (.int .i64 d0.mean) ∧ wq.cell? ⟨w.heap.size, 1, none⟩ = some (.slice A0_1 d0.parts.length c0_1) ∧ wq.cell? ⟨w.heap.size, 2, none⟩ = some (.slice A0_2 d0.surges.length c0_2) ∧ wq.cell? ⟨w.heap.size + 1, 0, none⟩ = some (.slice A1_0 d1.points.length c1_0) ∧ wq.cell? ⟨w.heap.size + 1, 1, none⟩ = some (.slice A1_1 d1.segs.length c1_1) ∧ wq.cell? ⟨w.heap.size + 2, 0, none⟩ = some (.string d2.name) ∧ wq.cell? ⟨w.heap.size + 2, 1, none⟩ = some (.int .i64 d2.length) ∧ wq.cell? ⟨w.heap.size + 2, 2, none⟩ = some (.int .i64 d2.draught) ∧ wq.cell? ⟨w.heap.size + 2, 3, none⟩ = some (.int .i64 d2.line) ∧ wq.cell? ⟨w.heap.size + 2, 4, none⟩ = some (.int .i64 d2.tugs) ∧ wq.cell? ⟨w.heap.size + 2, 5, none⟩ = some (.bool d2.slow) ∧ Hid (Below (w3).heap.size (w3) wq) from ⟨cell_onV (cell_onV (ABX0.out.1) B3.out) HBK, cell_onV (cell_onV (ABX0.out.2.1) B3.out) HBK, cell_onV (cell_onV (ABX0.out.2.2) B3.out) HBK, cell_onV (cell_onV (ABX1.out.1) B3.out) HBK, cell_onV (cell_onV (ABX1.out.2) B3.out) HBK, cell_onV (cell_onV (ABX2.out.1) B3.out) HBK, cell_onV (cell_onV (ABX2.out.2.1) B3.out) HBK, cell_onV (cell_onV (ABX2.out.2.2.1) B3.out) HBK, cell_onV (cell_onV (ABX2.out.2.2.2.1) B3.out) HBK, cell_onV (cell_onV (ABX2.out.2.2.2.2.1) B3.out) HBK, cell_onV (cell_onV (ABX2.out.2.2.2.2.2) B3.out) HBK, Lib.hid HBK⟩)
    clear hbk kB hHeld HBK
    go_simp
    refine hK.out _ _ ?_ (fun hHeld => ?_)
    · (try dsimp only); exact QQ.out
    clear hK K
    try simp only [Act.put, List.setIfInBounds_toArray, List.set_cons_zero, List.set_cons_succ]
    refine wpAnyH_take (i := 11) (v := ?_) (by simp only [List.getElem?_toArray, List.getElem?_cons_succ, List.getElem?_cons_zero]; rfl) (by kernel_rfl) (by kernel_rfl) (by kernel_rfl) (by exact fun _ _ _ h => h) (Or.inl ⟨by rfl, ?_⟩) (by assumption) ?_; rotate_left; focus (intro w hSw; (try dsimp only at hSw); first | (go_simp; done) | (go_simp; with_reducible rfl))
    try simp only [Act.put, List.setIfInBounds_toArray, List.set_cons_zero, List.set_cons_succ]
    refine wpAnyH_take (i := 12) (v := ?_) (by simp only [List.getElem?_toArray, List.getElem?_cons_succ, List.getElem?_cons_zero]; rfl) (by kernel_rfl) (by kernel_rfl) (by kernel_rfl) (by exact fun _ _ _ h => h) (Or.inl ⟨by rfl, ?_⟩) (by assumption) ?_; rotate_left; focus (intro w hSw; (try dsimp only at hSw); first | (go_simp; done) | (go_simp; with_reducible rfl))
    try simp only [Act.put, List.setIfInBounds_toArray, List.set_cons_zero, List.set_cons_succ]
    refine wpAnyH_take (i := 13) (v := ?_) (by simp only [List.getElem?_toArray, List.getElem?_cons_succ, List.getElem?_cons_zero]; rfl) (by kernel_rfl) (by kernel_rfl) (by kernel_rfl) (by exact fun _ _ _ h => h) (Or.inl ⟨by rfl, ?_⟩) (by assumption) ?_; rotate_left; focus (intro w hSw; (try dsimp only at hSw); first | (go_simp; done) | (go_simp; with_reducible rfl))
    try simp only [Act.put, List.setIfInBounds_toArray, List.set_cons_zero, List.set_cons_succ]
    refine wpAnyH_take (i := 14) (v := ?_) (by simp only [List.getElem?_toArray, List.getElem?_cons_succ, List.getElem?_cons_zero]; rfl) (by kernel_rfl) (by kernel_rfl) (by kernel_rfl) (by exact fun _ _ _ h => h) (Or.inl ⟨by rfl, ?_⟩) (by assumption) ?_; rotate_left; focus (intro w hSw; (try dsimp only at hSw); first | (go_simp; done) | (go_simp; with_reducible rfl))
    try simp only [Act.put, List.setIfInBounds_toArray, List.set_cons_zero, List.set_cons_succ]
    refine wpAnyH_take (i := 15) (v := ?_) (by simp only [List.getElem?_toArray, List.getElem?_cons_succ, List.getElem?_cons_zero]; rfl) (by kernel_rfl) (by kernel_rfl) (by kernel_rfl) (by exact fun _ _ _ h => h) (Or.inl ⟨by rfl, ?_⟩) (by assumption) ?_; rotate_left; focus (intro w hSw; (try dsimp only at hSw); first | (go_simp; done) | (go_simp; with_reducible rfl))
    try simp only [Act.put, List.setIfInBounds_toArray, List.set_cons_zero, List.set_cons_succ]
    refine wpAnyH_done (by kernel_rfl) ?_ _
    go_wp2_with fail
    go_meet
    exact ⟨_, rfl, rfl, OZ, hHeld.2.2.2.2.2.2.2.2.2.2.2⟩
  case rest =>
    obtain ⟨u4, rfl, rfl, oH, hbH⟩ := hcut
    have o4 := oH.out
    clear oH
    have hb4 := hbH.out
    obtain ⟨w4, rfl⟩ : ∃ W, W = wc := ⟨_, rfl⟩
    clear hbH DD y0_0 y0_1 y0_2 y1_0 y1_1 y2_0 y2_1 y2_2 y2_3 y2_4 y2_5 
    have S4 := Lib.hid (OwnInt.sl o4 (by omega))
    have RG4 := Lib.hid (own_range o4)
    have FR4 := Lib.hid (own_freeV o4)
    obtain ⟨D4, k4, rfl⟩ := own_form o4
    have B4 := Lib.hid (B3.out.trans (hb4.mono B3.out.size))
    have hz4 : (w3).heap.size ≤ w4.heap.size := hb4.size
    clear hb4
    clear o4
    -- x0 := toForecast(aF)
    have y0_0 : (w4).cell? ⟨w.heap.size, 0, none⟩ = some (.int .i64 d0.mean) := cell_onV (ABX0.out.1) B4.out
    have y0_1 : (w4).cell? ⟨w.heap.size, 1, none⟩ = some (.slice A0_1 d0.parts.length c0_1) := cell_onV (ABX0.out.2.1) B4.out
    have y0_2 : (w4).cell? ⟨w.heap.size, 2, none⟩ = some (.slice A0_2 d0.surges.length c0_2) := cell_onV (ABX0.out.2.2) B4.out
    go_wp2_with fail
    refine (toForecastC_any _ _ d0 _ (R0.out.below (BW.out.trans (B4.out.mono hs0)))).mono ?_
    intro e w5 hN
    obtain ⟨u5_1, u5_2, rfl, o5_1, o5_2, ap5_1_2, hb5⟩ := hN
    have S5_1 := Lib.hid (OwnPart.sl o5_1 (by omega))
    have RG5_1 := Lib.hid (own_range o5_1)
    have FR5_1 := Lib.hid (own_freeV o5_1)
    obtain ⟨D5_1, k5_1, rfl⟩ := own_form o5_1
    have S5_2 := Lib.hid (OwnSurge.sl o5_2 (by omega))
    have RG5_2 := Lib.hid (own_range o5_2)
    have FR5_2 := Lib.hid (own_freeV o5_2)
    obtain ⟨D5_2, k5_2, rfl⟩ := own_form o5_2
    have AP5_1_2 := Lib.hid ap5_1_2
    clear ap5_1_2
    have B5 := Lib.hid (B4.out.trans (hb5.mono B4.out.size))
    have w0_5 := Lib.hid (S4.out.below hb5)
    have w0F_5 := Lib.hid (FR4.out.below hb5)
    have hz5 : (w4).heap.size ≤ w5.heap.size := hb5.size
    clear hb5 o5_1 o5_2 y0_0 y0_1 y0_2
    have BX_x0 := Lib.hid (ForecastBox.new 44 (show RdForecast w5 (.slice D5_1 d0.parts.length k5_1) (.slice D5_2 d0.surges.length k5_2) d0 from ⟨S5_1.out, S5_2.out⟩))
    have hb5b := Joins.below_alloc1 w5 (.cells #[.int .i64 d0.mean, .slice D5_1 d0.parts.length k5_1, .slice D5_2 d0.surges.length k5_2] 44)
    have B5x := Lib.hid (B5.out.trans (hb5b.mono B5.out.size))
    have w0_5x := Lib.hid (w0_5.out.below hb5b)
    have w0F_5x := Lib.hid (w0F_5.out.below hb5b)
    have FX_x0_1 := Lib.hid (FR5_1.out.below hb5b)
    have FX_x0_2 := Lib.hid (FR5_2.out.below hb5b)
    clear hb5b
    have hsx5 : ((w5.alloc (.cells #[.int .i64 d0.mean, .slice D5_1 d0.parts.length k5_1, .slice D5_2 d0.surges.length k5_2] 44))).heap.size = w5.heap.size + 1 := by simp
    -- x1 := toChart(aC)
    have y1_0 : ((w5.alloc (.cells #[.int .i64 d0.mean, .slice D5_1 d0.parts.length k5_1, .slice D5_2 d0.surges.length k5_2] 44))).cell? ⟨w.heap.size + 1, 0, none⟩ = some (.slice A1_0 d1.points.length c1_0) := cell_onV (ABX1.out.1) B5x.out
    have y1_1 : ((w5.alloc (.cells #[.int .i64 d0.mean, .slice D5_1 d0.parts.length k5_1, .slice D5_2 d0.surges.length k5_2] 44))).cell? ⟨w.heap.size + 1, 1, none⟩ = some (.slice A1_1 d1.segs.length c1_1) := cell_onV (ABX1.out.2) B5x.out
    go_wp2_with fail
    refine (toChart_any _ _ d1 _ (R1.out.below (BW.out.trans (B5x.out.mono hs0)))).mono ?_
    intro e w6 hN
    obtain ⟨u6_0, u6_1, rfl, o6_0, o6_1, ap6_0_1, hb6⟩ := hN
    have S6_0 := Lib.hid (OwnPoint.sl o6_0 (by omega))
    have RG6_0 := Lib.hid (own_range o6_0)
    have FR6_0 := Lib.hid (own_freeV o6_0)
    obtain ⟨D6_0, k6_0, rfl⟩ := own_form o6_0
    have S6_1 := Lib.hid (OwnSegment.sl o6_1 (by omega))
    have RG6_1 := Lib.hid (own_range o6_1)
    have FR6_1 := Lib.hid (own_freeV o6_1)
    obtain ⟨D6_1, k6_1, rfl⟩ := own_form o6_1
    have AP6_0_1 := Lib.hid ap6_0_1
    clear ap6_0_1
    have B6 := Lib.hid (B5x.out.trans (hb6.mono B5x.out.size))
    have w0_6 := Lib.hid (w0_5x.out.below hb6)
    have w0F_6 := Lib.hid (w0F_5x.out.below hb6)
    have x0_6 := Lib.hid (BX_x0.out.below hb6)
    have x0F1_6 := Lib.hid (FX_x0_1.out.below hb6)
    have x0F2_6 := Lib.hid (FX_x0_2.out.below hb6)
    have hz6 : ((w5.alloc (.cells #[.int .i64 d0.mean, .slice D5_1 d0.parts.length k5_1, .slice D5_2 d0.surges.length k5_2] 44))).heap.size ≤ w6.heap.size := hb6.size
    clear hb6 o6_0 o6_1 y1_0 y1_1
    have BX_x1 := Lib.hid (ChartBox.new 49 (show RdChart w6 (.slice D6_0 d1.points.length k6_0) (.slice D6_1 d1.segs.length k6_1) d1 from ⟨S6_0.out, S6_1.out⟩))
    have hb6b := Joins.below_alloc1 w6 (.cells #[.slice D6_0 d1.points.length k6_0, .slice D6_1 d1.segs.length k6_1] 49)
    have B6x := Lib.hid (B6.out.trans (hb6b.mono B6.out.size))
    have w0_6x := Lib.hid (w0_6.out.below hb6b)
    have w0F_6x := Lib.hid (w0F_6.out.below hb6b)
    have x0_6x := Lib.hid (x0_6.out.below hb6b)
    have x0F1_6x := Lib.hid (x0F1_6.out.below hb6b)
    have x0F2_6x := Lib.hid (x0F2_6.out.below hb6b)
    have FX_x1_0 := Lib.hid (FR6_0.out.below hb6b)
    have FX_x1_1 := Lib.hid (FR6_1.out.below hb6b)
    clear hb6b
    have hsx6 : ((w6.alloc (.cells #[.slice D6_0 d1.points.length k6_0, .slice D6_1 d1.segs.length k6_1] 49))).heap.size = w6.heap.size + 1 := by simp
    -- x4 := toIntS(aRoute)
    go_wp2_with fail
    refine (toIntS_any _ l4 _ (R4.out.below (BW.out.trans (B6x.out.mono hs0)))).mono ?_
    rintro e w7 ⟨u7, rfl, o7, hb7⟩
    have S7 := Lib.hid (OwnInt.sl o7 (by omega))
    have RG7 := Lib.hid (own_range o7)
    have FR7 := Lib.hid (own_freeV o7)
    obtain ⟨D7, k7, rfl⟩ := own_form o7
    have B7 := Lib.hid (B6x.out.trans (hb7.mono B6x.out.size))
    have w0_7 := Lib.hid (w0_6x.out.below hb7)
    have w0F_7 := Lib.hid (w0F_6x.out.below hb7)
    have x0_7 := Lib.hid (x0_6x.out.below hb7)
    have x0F1_7 := Lib.hid (x0F1_6x.out.below hb7)
    have x0F2_7 := Lib.hid (x0F2_6x.out.below hb7)
    have x1_7 := Lib.hid (BX_x1.out.below hb7)
    have x1F0_7 := Lib.hid (FX_x1_0.out.below hb7)
    have x1F1_7 := Lib.hid (FX_x1_1.out.below hb7)
    have hz7 : ((w6.alloc (.cells #[.slice D6_0 d1.points.length k6_0, .slice D6_1 d1.segs.length k6_1] 49))).heap.size ≤ w7.heap.size := hb7.size
    clear hb7 o7
    -- g0, g1 := impl.FirstSail(x0, x1, toShip(aS), aFrom, x4, aReady)
    have y2_0 : (w7).cell? ⟨w.heap.size + 2, 0, none⟩ = some (.string d2.name) := cell_onV (ABX2.out.1) B7.out
    have y2_1 : (w7).cell? ⟨w.heap.size + 2, 1, none⟩ = some (.int .i64 d2.length) := cell_onV (ABX2.out.2.1) B7.out
    have y2_2 : (w7).cell? ⟨w.heap.size + 2, 2, none⟩ = some (.int .i64 d2.draught) := cell_onV (ABX2.out.2.2.1) B7.out
    have y2_3 : (w7).cell? ⟨w.heap.size + 2, 3, none⟩ = some (.int .i64 d2.line) := cell_onV (ABX2.out.2.2.2.1) B7.out
    have y2_4 : (w7).cell? ⟨w.heap.size + 2, 4, none⟩ = some (.int .i64 d2.tugs) := cell_onV (ABX2.out.2.2.2.2.1) B7.out
    have y2_5 : (w7).cell? ⟨w.heap.size + 2, 5, none⟩ = some (.bool d2.slow) := cell_onV (ABX2.out.2.2.2.2.2) B7.out
    obtain ⟨z_x0_0, z_x0_1, z_x0_2, _⟩ := x0_7.out
    obtain ⟨z_x1_0, z_x1_1, _⟩ := x1_7.out
    have DD := Lib.hid ((Below.refl (w7).heap.size (w7)).drew)
    go_upto_region 17 with fail
    go_cut [19, 20] (fun sL0 sL1 wx => ∃ v, sL0 = v ∧ sL1 = .bool r1 ∧ Hid (OwnInt wx (w7).heap.size v r0) ∧ Hid (Below (w7).heap.size (w7) wx))
    case first =>
      refine wp_region_held_drew (S := (fun w' => w'.cell? ⟨w5.heap.size, 0, none⟩ = some (.int .i64 d0.mean) ∧ w'.cell? ⟨w5.heap.size, 1, none⟩ = some (.slice D5_1 d0.parts.length k5_1) ∧ w'.cell? ⟨w5.heap.size, 2, none⟩ = some (.slice D5_2 d0.surges.length k5_2) ∧ w'.cell? ⟨w6.heap.size, 0, none⟩ = some (.slice D6_0 d1.points.length k6_0) ∧ w'.cell? ⟨w6.heap.size, 1, none⟩ = some (.slice D6_1 d1.segs.length k6_1) ∧ w'.cell? ⟨w.heap.size + 2, 0, none⟩ = some (.string d2.name) ∧ w'.cell? ⟨w.heap.size + 2, 1, none⟩ = some (.int .i64 d2.length) ∧ w'.cell? ⟨w.heap.size + 2, 2, none⟩ = some (.int .i64 d2.draught) ∧ w'.cell? ⟨w.heap.size + 2, 3, none⟩ = some (.int .i64 d2.line) ∧ w'.cell? ⟨w.heap.size + 2, 4, none⟩ = some (.int .i64 d2.tugs) ∧ w'.cell? ⟨w.heap.size + 2, 5, none⟩ = some (.bool d2.slow) ∧ Hid (Below (w7).heap.size (w7) w'))) (by kernel_rfl) ?_ (fun hHeld => ?_)
      · (try dsimp only); go_keep
      refine wpAnyH_take (i := 0) (v := ?_) (by simp only [List.getElem?_toArray, List.getElem?_cons_zero]; rfl) (by kernel_rfl) (by kernel_rfl) (by kernel_rfl) (by exact fun _ _ _ h => h) (Or.inl ⟨by rfl, ?_⟩) (by assumption) ?_; rotate_left; focus (intro w hSw; (try dsimp only at hSw); first | (go_simp; done) | (go_simp; with_reducible rfl))
      try simp only [Act.put, List.setIfInBounds_toArray, List.set_cons_zero, List.set_cons_succ]
      refine wpAnyH_take (i := 1) (v := ?_) (by simp only [List.getElem?_toArray, List.getElem?_cons_succ, List.getElem?_cons_zero]; rfl) (by kernel_rfl) (by kernel_rfl) (by kernel_rfl) (by exact fun _ _ _ h => h) (Or.inl ⟨by rfl, ?_⟩) (by assumption) ?_; rotate_left; focus (intro w hSw; (try dsimp only at hSw); first | (go_simp; done) | (go_simp; with_reducible rfl))
      try simp only [Act.put, List.setIfInBounds_toArray, List.set_cons_zero, List.set_cons_succ]
      refine wpAnyH_take (i := 2) (v := ?_) (by simp only [List.getElem?_toArray, List.getElem?_cons_succ, List.getElem?_cons_zero]; rfl) (by kernel_rfl) (by kernel_rfl) (by kernel_rfl) (by exact fun _ _ _ h => h) (Or.inl ⟨by rfl, ?_⟩) (by assumption) ?_; rotate_left; focus (intro w hSw; (try dsimp only at hSw); first | (go_simp; done) | (go_simp; with_reducible rfl))
      try simp only [Act.put, List.setIfInBounds_toArray, List.set_cons_zero, List.set_cons_succ]
      refine wpAnyH_take (i := 4) (v := ?_) (by simp only [List.getElem?_toArray, List.getElem?_cons_succ, List.getElem?_cons_zero]; rfl) (by kernel_rfl) (by kernel_rfl) (by kernel_rfl) (by exact fun _ _ _ h => h) (Or.inl ⟨by rfl, ?_⟩) (by assumption) ?_; rotate_left; focus (intro w hSw; (try dsimp only at hSw); first | (go_simp; done) | (go_simp; with_reducible rfl))
      try simp only [Act.put, List.setIfInBounds_toArray, List.set_cons_zero, List.set_cons_succ]
      refine wpAnyH_take (i := 5) (v := ?_) (by simp only [List.getElem?_toArray, List.getElem?_cons_succ, List.getElem?_cons_zero]; rfl) (by kernel_rfl) (by kernel_rfl) (by kernel_rfl) (by exact fun _ _ _ h => h) (Or.inl ⟨by rfl, ?_⟩) (by assumption) ?_; rotate_left; focus (intro w hSw; (try dsimp only at hSw); first | (go_simp; done) | (go_simp; with_reducible rfl))
      try simp only [Act.put, List.setIfInBounds_toArray, List.set_cons_zero, List.set_cons_succ]
      refine wpAnyH_take (i := 6) (v := ?_) (by simp only [List.getElem?_toArray, List.getElem?_cons_succ, List.getElem?_cons_zero]; rfl) (by kernel_rfl) (by kernel_rfl) (by kernel_rfl) (by exact fun _ _ _ h => h) (Or.inl ⟨by rfl, ?_⟩) (by assumption) ?_; rotate_left; focus (intro w hSw; (try dsimp only at hSw); first | (go_simp; done) | (go_simp; with_reducible rfl))
      try simp only [Act.put, List.setIfInBounds_toArray, List.set_cons_zero, List.set_cons_succ]
      refine wpAnyH_ready (rs := [3]) (by kernel_rfl) (by simp) ?_
      refine AllReadyH.cons rfl (fun K hK => ?_) AllReadyH.nil
      rw [if_pos (by rfl)]
      go_simp
      go_at_call 20
      have kB := hHeld.2.2.2.2.2.2.2.2.2.2.2
      refine (toShip_any d2.name d2.length d2.draught d2.line d2.tugs d2.slow _).mono ?_
      rintro e wt0 ⟨rfl, hbk⟩
      have HBK := kB.out.trans (hbk.mono kB.out.size)
      have QS0 := Lib.hid (show wt0.cell? ⟨w5.heap.size, 0, none⟩ = some (.int .i64 d0.mean) ∧ wt0.cell? ⟨w5.heap.size, 1, none⟩ = some (.slice D5_1 d0.parts.length k5_1) ∧ wt0.cell? ⟨w5.heap.size, 2, none⟩ = some (.slice D5_2 d0.surges.length k5_2) ∧ wt0.cell? ⟨w6.heap.size, 0, none⟩ = some (.slice D6_0 d1.points.length k6_0) ∧ wt0.cell? ⟨w6.heap.size, 1, none⟩ = some (.slice D6_1 d1.segs.length k6_1) ∧ wt0.cell? ⟨w.heap.size + 2, 0, none⟩ = some (.string d2.name) ∧ wt0.cell? ⟨w.heap.size + 2, 1, none⟩ = some (.int .i64 d2.length) ∧ wt0.cell? ⟨w.heap.size + 2, 2, none⟩ = some (.int .i64 d2.draught) ∧ wt0.cell? ⟨w.heap.size + 2, 3, none⟩ = some (.int .i64 d2.line) ∧ wt0.cell? ⟨w.heap.size + 2, 4, none⟩ = some (.int .i64 d2.tugs) ∧ wt0.cell? ⟨w.heap.size + 2, 5, none⟩ = some (.bool d2.slow) ∧ Hid (Below (w7).heap.size (w7) wt0) from ⟨(x0_7.out.below HBK).1, (x0_7.out.below HBK).2.1, (x0_7.out.below HBK).2.2.1, (x1_7.out.below HBK).1, (x1_7.out.below HBK).2.1, cell_onV (cell_onV (ABX2.out.1) B7.out) HBK, cell_onV (cell_onV (ABX2.out.2.1) B7.out) HBK, cell_onV (cell_onV (ABX2.out.2.2.1) B7.out) HBK, cell_onV (cell_onV (ABX2.out.2.2.2.1) B7.out) HBK, cell_onV (cell_onV (ABX2.out.2.2.2.2.1) B7.out) HBK, cell_onV (cell_onV (ABX2.out.2.2.2.2.2) B7.out) HBK, Lib.hid HBK⟩)
      clear hbk kB hHeld HBK
      go_simp
      refine hK.out _ _ ?_ (fun hHeld => ?_)
      · (try dsimp only); exact QS0.out
      clear hK K
      try simp only [Act.put, List.setIfInBounds_toArray, List.set_cons_zero, List.set_cons_succ]
      refine wpAnyH_ready (rs := [7]) (by kernel_rfl) (by simp) ?_
      refine AllReadyH.cons rfl (fun K hK => ?_) AllReadyH.nil
      rw [if_pos (by rfl)]
      go_simp
      go_at_call 29
      have kB := hHeld.2.2.2.2.2.2.2.2.2.2.2
      refine (implFirstSail _ _ d0 _ _ d1 d2 a3 _ l4 a5 _ (x0_7.out.below kB.out).2.2.2 (x1_7.out.below kB.out).2.2 (S7.out.below kB.out) WF1_0.out hin2).mono ?_
      intro e wq hN
      unfold SailPost at hN
      rw [HR1.out, HR0.out] at hN
      obtain ⟨uz, rfl, oz, hbk⟩ := hN
      have OZ := Lib.hid (own_lo (base' := (w7).heap.size) oz kB.out.size)
      obtain ⟨DZ, kz, rfl⟩ := own_form oz
      clear oz
      have HBK := kB.out.trans (hbk.mono kB.out.size)
      have QQ := Lib.hid (show wq.cell? ⟨w5.heap.size, 0, none⟩ = some (.int .i64 d0.mean) ∧ wq.cell? ⟨w5.heap.size, 1, none⟩ = some (.slice D5_1 d0.parts.length k5_1) ∧ wq.cell? ⟨w5.heap.size, 2, none⟩ = some (.slice D5_2 d0.surges.length k5_2) ∧ wq.cell? ⟨w6.heap.size, 0, none⟩ = some (.slice D6_0 d1.points.length k6_0) ∧ wq.cell? ⟨w6.heap.size, 1, none⟩ = some (.slice D6_1 d1.segs.length k6_1) ∧ wq.cell? ⟨w.heap.size + 2, 0, none⟩ = some (.string d2.name) ∧ wq.cell? ⟨w.heap.size + 2, 1, none⟩ = some (.int .i64 d2.length) ∧ wq.cell? ⟨w.heap.size + 2, 2, none⟩ = some (.int .i64 d2.draught) ∧ wq.cell? ⟨w.heap.size + 2, 3, none⟩ = some (.int .i64 d2.line) ∧ wq.cell? ⟨w.heap.size + 2, 4, none⟩ = some (.int .i64 d2.tugs) ∧ wq.cell? ⟨w.heap.size + 2, 5, none⟩ = some (.bool d2.slow) ∧ Hid (Below (w7).heap.size (w7) wq) from ⟨(x0_7.out.below HBK).1, (x0_7.out.below HBK).2.1, (x0_7.out.below HBK).2.2.1, (x1_7.out.below HBK).1, (x1_7.out.below HBK).2.1, cell_onV (cell_onV (ABX2.out.1) B7.out) HBK, cell_onV (cell_onV (ABX2.out.2.1) B7.out) HBK, cell_onV (cell_onV (ABX2.out.2.2.1) B7.out) HBK, cell_onV (cell_onV (ABX2.out.2.2.2.1) B7.out) HBK, cell_onV (cell_onV (ABX2.out.2.2.2.2.1) B7.out) HBK, cell_onV (cell_onV (ABX2.out.2.2.2.2.2) B7.out) HBK, Lib.hid HBK⟩)
      clear hbk kB hHeld HBK
      go_simp
      refine hK.out _ _ ?_ (fun hHeld => ?_)
      · (try dsimp only); exact QQ.out
      clear hK K
      try simp only [Act.put, List.setIfInBounds_toArray, List.set_cons_zero, List.set_cons_succ]
      refine wpAnyH_take (i := 8) (v := ?_) (by simp only [List.getElem?_toArray, List.getElem?_cons_succ, List.getElem?_cons_zero]; rfl) (by kernel_rfl) (by kernel_rfl) (by kernel_rfl) (by exact fun _ _ _ h => h) (Or.inl ⟨by rfl, ?_⟩) (by assumption) ?_; rotate_left; focus (intro w hSw; (try dsimp only at hSw); first | (go_simp; done) | (go_simp; with_reducible rfl))
      try simp only [Act.put, List.setIfInBounds_toArray, List.set_cons_zero, List.set_cons_succ]
      refine wpAnyH_take (i := 9) (v := ?_) (by simp only [List.getElem?_toArray, List.getElem?_cons_succ, List.getElem?_cons_zero]; rfl) (by kernel_rfl) (by kernel_rfl) (by kernel_rfl) (by exact fun _ _ _ h => h) (Or.inl ⟨by rfl, ?_⟩) (by assumption) ?_; rotate_left; focus (intro w hSw; (try dsimp only at hSw); first | (go_simp; done) | (go_simp; with_reducible rfl))
      try simp only [Act.put, List.setIfInBounds_toArray, List.set_cons_zero, List.set_cons_succ]
      refine wpAnyH_take (i := 10) (v := ?_) (by simp only [List.getElem?_toArray, List.getElem?_cons_succ, List.getElem?_cons_zero]; rfl) (by kernel_rfl) (by kernel_rfl) (by kernel_rfl) (by exact fun _ _ _ h => h) (Or.inl ⟨by rfl, ?_⟩) (by assumption) ?_; rotate_left; focus (intro w hSw; (try dsimp only at hSw); first | (go_simp; done) | (go_simp; with_reducible rfl))
      try simp only [Act.put, List.setIfInBounds_toArray, List.set_cons_zero, List.set_cons_succ]
      refine wpAnyH_take (i := 11) (v := ?_) (by simp only [List.getElem?_toArray, List.getElem?_cons_succ, List.getElem?_cons_zero]; rfl) (by kernel_rfl) (by kernel_rfl) (by kernel_rfl) (by exact fun _ _ _ h => h) (Or.inl ⟨by rfl, ?_⟩) (by assumption) ?_; rotate_left; focus (intro w hSw; (try dsimp only at hSw); first | (go_simp; done) | (go_simp; with_reducible rfl))
      try simp only [Act.put, List.setIfInBounds_toArray, List.set_cons_zero, List.set_cons_succ]
      refine wpAnyH_take (i := 12) (v := ?_) (by simp only [List.getElem?_toArray, List.getElem?_cons_succ, List.getElem?_cons_zero]; rfl) (by kernel_rfl) (by kernel_rfl) (by kernel_rfl) (by exact fun _ _ _ h => h) (Or.inl ⟨by rfl, ?_⟩) (by assumption) ?_; rotate_left; focus (intro w hSw; (try dsimp only at hSw); first | (go_simp; done) | (go_simp; with_reducible rfl))
      try simp only [Act.put, List.setIfInBounds_toArray, List.set_cons_zero, List.set_cons_succ]
      refine wpAnyH_done (by kernel_rfl) ?_ _
      go_wp2_with fail
      go_meet
      exact ⟨_, rfl, rfl, OZ, hHeld.2.2.2.2.2.2.2.2.2.2.2⟩
    case rest =>
      obtain ⟨u8, rfl, rfl, oH, hbH⟩ := hcut
      have o8 := oH.out
      clear oH
      have hb8 := hbH.out
      obtain ⟨w8, rfl⟩ : ∃ W, W = wc := ⟨_, rfl⟩
      clear hbH DD y2_0 y2_1 y2_2 y2_3 y2_4 y2_5 z_x0_0 z_x0_1 z_x0_2 z_x1_0 z_x1_1
      have S8 := Lib.hid (OwnInt.sl o8 (by omega))
      have RG8 := Lib.hid (own_range o8)
      have FR8 := Lib.hid (own_freeV o8)
      obtain ⟨D8, k8, rfl⟩ := own_form o8
      have B8 := Lib.hid (B7.out.trans (hb8.mono B7.out.size))
      have w0_8 := Lib.hid (w0_7.out.below hb8)
      have w0F_8 := Lib.hid (w0F_7.out.below hb8)
      have x0_8 := Lib.hid (x0_7.out.below hb8)
      have x0F1_8 := Lib.hid (x0F1_7.out.below hb8)
      have x0F2_8 := Lib.hid (x0F2_7.out.below hb8)
      have x1_8 := Lib.hid (x1_7.out.below hb8)
      have x1F0_8 := Lib.hid (x1F0_7.out.below hb8)
      have x1F1_8 := Lib.hid (x1F1_7.out.below hb8)
      have x4_8 := Lib.hid (S7.out.below hb8)
      have x4F_8 := Lib.hid (FR7.out.below hb8)
      have hz8 : (w7).heap.size ≤ w8.heap.size := hb8.size
      clear hb8
      clear o8
      -- if !eqIntS(g0, w0) || g1 != w1 {
      go_wp2_with fail
      refine (eqIntS_same _ _ r0 _ S8.out w0_8.out).mono ?_
      rintro e w9 ⟨rfl, hb9⟩
      have B9 := Lib.hid (B8.out.trans (hb9.mono B8.out.size))
      have w0_9 := Lib.hid (w0_8.out.below hb9)
      have w0F_9 := Lib.hid (w0F_8.out.below hb9)
      have x0_9 := Lib.hid (x0_8.out.below hb9)
      have x0F1_9 := Lib.hid (x0F1_8.out.below hb9)
      have x0F2_9 := Lib.hid (x0F2_8.out.below hb9)
      have x1_9 := Lib.hid (x1_8.out.below hb9)
      have x1F0_9 := Lib.hid (x1F0_8.out.below hb9)
      have x1F1_9 := Lib.hid (x1F1_8.out.below hb9)
      have x4_9 := Lib.hid (x4_8.out.below hb9)
      have x4F_9 := Lib.hid (x4F_8.out.below hb9)
      have g0_9 := Lib.hid (S8.out.below hb9)
      have g0F_9 := Lib.hid (FR8.out.below hb9)
      have hz9 : (w8).heap.size ≤ w9.heap.size := hb9.size
      clear hb9
      -- if !eqForecast(x0, toForecast(aF)) {
      have y0_0 : (w9).cell? ⟨w.heap.size, 0, none⟩ = some (.int .i64 d0.mean) := cell_onV (ABX0.out.1) B9.out
      have y0_1 : (w9).cell? ⟨w.heap.size, 1, none⟩ = some (.slice A0_1 d0.parts.length c0_1) := cell_onV (ABX0.out.2.1) B9.out
      have y0_2 : (w9).cell? ⟨w.heap.size, 2, none⟩ = some (.slice A0_2 d0.surges.length c0_2) := cell_onV (ABX0.out.2.2) B9.out
      obtain ⟨z_x0_0, z_x0_1, z_x0_2, _⟩ := x0_9.out
      have DD := Lib.hid ((Below.refl (w9).heap.size (w9)).drew)
      go_upto_region 20 with fail
      go_cut [88] (fun sL wx => sL = .bool false ∧ Hid (Below (w9).heap.size (w9) wx))
      case first =>
        refine wp_region_held_drew (S := (fun w' => w'.cell? ⟨w5.heap.size, 0, none⟩ = some (.int .i64 d0.mean) ∧ w'.cell? ⟨w5.heap.size, 1, none⟩ = some (.slice D5_1 d0.parts.length k5_1) ∧ w'.cell? ⟨w5.heap.size, 2, none⟩ = some (.slice D5_2 d0.surges.length k5_2) ∧ w'.cell? ⟨w.heap.size, 0, none⟩ = some (.int .i64 d0.mean) ∧ w'.cell? ⟨w.heap.size, 1, none⟩ = some (.slice A0_1 d0.parts.length c0_1) ∧ w'.cell? ⟨w.heap.size, 2, none⟩ = some (.slice A0_2 d0.surges.length c0_2) ∧ Hid (Below (w9).heap.size (w9) w'))) (by kernel_rfl) ?_ (fun hHeld => ?_)
        · (try dsimp only); go_keep
        refine wpAnyH_take (i := 0) (v := ?_) (by simp only [List.getElem?_toArray, List.getElem?_cons_zero]; rfl) (by kernel_rfl) (by kernel_rfl) (by kernel_rfl) (by exact fun _ _ _ h => h) (Or.inl ⟨by rfl, ?_⟩) (by assumption) ?_; rotate_left; focus (intro w hSw; (try dsimp only at hSw); first | (go_simp; done) | (go_simp; with_reducible rfl))
        try simp only [Act.put, List.setIfInBounds_toArray, List.set_cons_zero, List.set_cons_succ]
        refine wpAnyH_take (i := 1) (v := ?_) (by simp only [List.getElem?_toArray, List.getElem?_cons_succ, List.getElem?_cons_zero]; rfl) (by kernel_rfl) (by kernel_rfl) (by kernel_rfl) (by exact fun _ _ _ h => h) (Or.inl ⟨by rfl, ?_⟩) (by assumption) ?_; rotate_left; focus (intro w hSw; (try dsimp only at hSw); first | (go_simp; done) | (go_simp; with_reducible rfl))
        try simp only [Act.put, List.setIfInBounds_toArray, List.set_cons_zero, List.set_cons_succ]
        refine wpAnyH_ready (rs := [2]) (by kernel_rfl) (by simp) ?_
        refine AllReadyH.cons rfl (fun K hK => ?_) AllReadyH.nil
        rw [if_pos (by rfl)]
        go_simp
        go_at_call 10
        have kB := hHeld.2.2.2.2.2.2
        refine (toForecastC_any _ _ d0 _ (R0.out.below (BW.out.trans ((B9.out.trans (kB.out.mono B9.out.size)).mono hs0)))).mono ?_
        intro e wt hN
        obtain ⟨Q1, q1, Q2, q2, rfl, hRD, hbk⟩ := hN.rd (by omega) (by omega)
        have HRD := Lib.hid hRD
        have HBK := kB.out.trans (hbk.mono kB.out.size)
        have QS := Lib.hid (show wt.cell? ⟨w5.heap.size, 0, none⟩ = some (.int .i64 d0.mean) ∧ wt.cell? ⟨w5.heap.size, 1, none⟩ = some (.slice D5_1 d0.parts.length k5_1) ∧ wt.cell? ⟨w5.heap.size, 2, none⟩ = some (.slice D5_2 d0.surges.length k5_2) ∧ wt.cell? ⟨w.heap.size, 0, none⟩ = some (.int .i64 d0.mean) ∧ wt.cell? ⟨w.heap.size, 1, none⟩ = some (.slice A0_1 d0.parts.length c0_1) ∧ wt.cell? ⟨w.heap.size, 2, none⟩ = some (.slice A0_2 d0.surges.length c0_2) ∧ Hid (Below (w9).heap.size (w9) wt) from ⟨(x0_9.out.below HBK).1, (x0_9.out.below HBK).2.1, (x0_9.out.below HBK).2.2.1, cell_onV (cell_onV (ABX0.out.1) B9.out) HBK, cell_onV (cell_onV (ABX0.out.2.1) B9.out) HBK, cell_onV (cell_onV (ABX0.out.2.2) B9.out) HBK, Lib.hid HBK⟩)
        clear hbk kB hHeld hN hRD HBK
        go_simp
        refine hK.out _ _ ?_ (fun hHeld => ?_)
        · (try dsimp only); exact QS.out
        clear hK K
        try simp only [Act.put, List.setIfInBounds_toArray, List.set_cons_zero, List.set_cons_succ]
        refine wpAnyH_ready (rs := [3]) (by kernel_rfl) (by simp) ?_
        refine AllReadyH.cons rfl (fun K hK => ?_) AllReadyH.nil
        rw [if_pos (by rfl)]
        go_simp
        go_at_call 15
        have kB := hHeld.2.2.2.2.2.2
        refine (eqForecastC_same _ _ _ _ d0 _ (x0_9.out.below kB.out).2.2.2 HRD.out).mono ?_
        rintro e wq ⟨rfl, hbk⟩
        have HBK := kB.out.trans (hbk.mono kB.out.size)
        have QQ := Lib.hid (show wq.cell? ⟨w5.heap.size, 0, none⟩ = some (.int .i64 d0.mean) ∧ wq.cell? ⟨w5.heap.size, 1, none⟩ = some (.slice D5_1 d0.parts.length k5_1) ∧ wq.cell? ⟨w5.heap.size, 2, none⟩ = some (.slice D5_2 d0.surges.length k5_2) ∧ wq.cell? ⟨w.heap.size, 0, none⟩ = some (.int .i64 d0.mean) ∧ wq.cell? ⟨w.heap.size, 1, none⟩ = some (.slice A0_1 d0.parts.length c0_1) ∧ wq.cell? ⟨w.heap.size, 2, none⟩ = some (.slice A0_2 d0.surges.length c0_2) ∧ Hid (Below (w9).heap.size (w9) wq) from ⟨(x0_9.out.below HBK).1, (x0_9.out.below HBK).2.1, (x0_9.out.below HBK).2.2.1, cell_onV (cell_onV (ABX0.out.1) B9.out) HBK, cell_onV (cell_onV (ABX0.out.2.1) B9.out) HBK, cell_onV (cell_onV (ABX0.out.2.2) B9.out) HBK, Lib.hid HBK⟩)
        clear hbk kB hHeld HBK
        go_simp
        refine hK.out _ _ ?_ (fun hHeld => ?_)
        · (try dsimp only); exact QQ.out
        clear hK K
        try simp only [Act.put, List.setIfInBounds_toArray, List.set_cons_zero, List.set_cons_succ]
        refine wpAnyH_take (i := 4) (v := ?_) (by simp only [List.getElem?_toArray, List.getElem?_cons_succ, List.getElem?_cons_zero]; rfl) (by kernel_rfl) (by kernel_rfl) (by kernel_rfl) (by exact fun _ _ _ h => h) (Or.inl ⟨by rfl, ?_⟩) (by assumption) ?_; rotate_left; focus (intro w hSw; (try dsimp only at hSw); first | (go_simp; done) | (go_simp; with_reducible rfl))
        try simp only [Act.put, List.setIfInBounds_toArray, List.set_cons_zero, List.set_cons_succ]
        refine wpAnyH_done (by kernel_rfl) ?_ _
        go_wp2_with fail
        go_meet
        exact ⟨rfl, hHeld.2.2.2.2.2.2⟩
      case rest =>
        obtain ⟨rfl, hbH⟩ := hcut
        have hb10 := hbH.out
        obtain ⟨w10, rfl⟩ : ∃ W, W = wc := ⟨_, rfl⟩
        clear hbH DD y0_0 y0_1 y0_2 z_x0_0 z_x0_1 z_x0_2
        have B10 := Lib.hid (B9.out.trans (hb10.mono B9.out.size))
        have w0_10 := Lib.hid (w0_9.out.below hb10)
        have w0F_10 := Lib.hid (w0F_9.out.below hb10)
        have x0_10 := Lib.hid (x0_9.out.below hb10)
        have x0F1_10 := Lib.hid (x0F1_9.out.below hb10)
        have x0F2_10 := Lib.hid (x0F2_9.out.below hb10)
        have x1_10 := Lib.hid (x1_9.out.below hb10)
        have x1F0_10 := Lib.hid (x1F0_9.out.below hb10)
        have x1F1_10 := Lib.hid (x1F1_9.out.below hb10)
        have x4_10 := Lib.hid (x4_9.out.below hb10)
        have x4F_10 := Lib.hid (x4F_9.out.below hb10)
        have g0_10 := Lib.hid (g0_9.out.below hb10)
        have g0F_10 := Lib.hid (g0F_9.out.below hb10)
        have hz10 : (w9).heap.size ≤ w10.heap.size := hb10.size
        clear hb10
        -- if !eqChart(x1, toChart(aC)) {
        have y1_0 : (w10).cell? ⟨w.heap.size + 1, 0, none⟩ = some (.slice A1_0 d1.points.length c1_0) := cell_onV (ABX1.out.1) B10.out
        have y1_1 : (w10).cell? ⟨w.heap.size + 1, 1, none⟩ = some (.slice A1_1 d1.segs.length c1_1) := cell_onV (ABX1.out.2) B10.out
        obtain ⟨z_x1_0, z_x1_1, _⟩ := x1_10.out
        have DD := Lib.hid ((Below.refl (w10).heap.size (w10)).drew)
        go_upto_region 22 with fail
        go_cut [93] (fun sL wx => sL = .bool false ∧ Hid (Below (w10).heap.size (w10) wx))
        case first =>
          refine wp_region_held_drew (S := (fun w' => w'.cell? ⟨w6.heap.size, 0, none⟩ = some (.slice D6_0 d1.points.length k6_0) ∧ w'.cell? ⟨w6.heap.size, 1, none⟩ = some (.slice D6_1 d1.segs.length k6_1) ∧ w'.cell? ⟨w.heap.size + 1, 0, none⟩ = some (.slice A1_0 d1.points.length c1_0) ∧ w'.cell? ⟨w.heap.size + 1, 1, none⟩ = some (.slice A1_1 d1.segs.length c1_1) ∧ Hid (Below (w10).heap.size (w10) w'))) (by kernel_rfl) ?_ (fun hHeld => ?_)
          · (try dsimp only); go_keep
          refine wpAnyH_take (i := 0) (v := ?_) (by simp only [List.getElem?_toArray, List.getElem?_cons_zero]; rfl) (by kernel_rfl) (by kernel_rfl) (by kernel_rfl) (by exact fun _ _ _ h => h) (Or.inl ⟨by rfl, ?_⟩) (by assumption) ?_; rotate_left; focus (intro w hSw; (try dsimp only at hSw); first | (go_simp; done) | (go_simp; with_reducible rfl))
          try simp only [Act.put, List.setIfInBounds_toArray, List.set_cons_zero, List.set_cons_succ]
          refine wpAnyH_take (i := 1) (v := ?_) (by simp only [List.getElem?_toArray, List.getElem?_cons_succ, List.getElem?_cons_zero]; rfl) (by kernel_rfl) (by kernel_rfl) (by kernel_rfl) (by exact fun _ _ _ h => h) (Or.inl ⟨by rfl, ?_⟩) (by assumption) ?_; rotate_left; focus (intro w hSw; (try dsimp only at hSw); first | (go_simp; done) | (go_simp; with_reducible rfl))
          try simp only [Act.put, List.setIfInBounds_toArray, List.set_cons_zero, List.set_cons_succ]
          refine wpAnyH_ready (rs := [2]) (by kernel_rfl) (by simp) ?_
          refine AllReadyH.cons rfl (fun K hK => ?_) AllReadyH.nil
          rw [if_pos (by rfl)]
          go_simp
          go_at_call 11
          have kB := hHeld.2.2.2.2
          refine (toChart_any _ _ d1 _ (R1.out.below (BW.out.trans ((B10.out.trans (kB.out.mono B10.out.size)).mono hs0)))).mono ?_
          intro e wt hN
          obtain ⟨Q0, q0, Q1, q1, rfl, hRD, hbk⟩ := hN.rd (by omega) (by omega)
          have HRD := Lib.hid hRD
          have HBK := kB.out.trans (hbk.mono kB.out.size)
          have QS := Lib.hid (show wt.cell? ⟨w6.heap.size, 0, none⟩ = some (.slice D6_0 d1.points.length k6_0) ∧ wt.cell? ⟨w6.heap.size, 1, none⟩ = some (.slice D6_1 d1.segs.length k6_1) ∧ wt.cell? ⟨w.heap.size + 1, 0, none⟩ = some (.slice A1_0 d1.points.length c1_0) ∧ wt.cell? ⟨w.heap.size + 1, 1, none⟩ = some (.slice A1_1 d1.segs.length c1_1) ∧ Hid (Below (w10).heap.size (w10) wt) from ⟨(x1_10.out.below HBK).1, (x1_10.out.below HBK).2.1, cell_onV (cell_onV (ABX1.out.1) B10.out) HBK, cell_onV (cell_onV (ABX1.out.2) B10.out) HBK, Lib.hid HBK⟩)
          clear hbk kB hHeld hN hRD HBK
          go_simp
          refine hK.out _ _ ?_ (fun hHeld => ?_)
          · (try dsimp only); exact QS.out
          clear hK K
          try simp only [Act.put, List.setIfInBounds_toArray, List.set_cons_zero, List.set_cons_succ]
          refine wpAnyH_ready (rs := [3]) (by kernel_rfl) (by simp) ?_
          refine AllReadyH.cons rfl (fun K hK => ?_) AllReadyH.nil
          rw [if_pos (by rfl)]
          go_simp
          go_at_call 16
          have kB := hHeld.2.2.2.2
          refine (eqChart_same _ _ _ _ d1 _ (x1_10.out.below kB.out).2.2 HRD.out).mono ?_
          rintro e wq ⟨rfl, hbk⟩
          have HBK := kB.out.trans (hbk.mono kB.out.size)
          have QQ := Lib.hid (show wq.cell? ⟨w6.heap.size, 0, none⟩ = some (.slice D6_0 d1.points.length k6_0) ∧ wq.cell? ⟨w6.heap.size, 1, none⟩ = some (.slice D6_1 d1.segs.length k6_1) ∧ wq.cell? ⟨w.heap.size + 1, 0, none⟩ = some (.slice A1_0 d1.points.length c1_0) ∧ wq.cell? ⟨w.heap.size + 1, 1, none⟩ = some (.slice A1_1 d1.segs.length c1_1) ∧ Hid (Below (w10).heap.size (w10) wq) from ⟨(x1_10.out.below HBK).1, (x1_10.out.below HBK).2.1, cell_onV (cell_onV (ABX1.out.1) B10.out) HBK, cell_onV (cell_onV (ABX1.out.2) B10.out) HBK, Lib.hid HBK⟩)
          clear hbk kB hHeld HBK
          go_simp
          refine hK.out _ _ ?_ (fun hHeld => ?_)
          · (try dsimp only); exact QQ.out
          clear hK K
          try simp only [Act.put, List.setIfInBounds_toArray, List.set_cons_zero, List.set_cons_succ]
          refine wpAnyH_take (i := 4) (v := ?_) (by simp only [List.getElem?_toArray, List.getElem?_cons_succ, List.getElem?_cons_zero]; rfl) (by kernel_rfl) (by kernel_rfl) (by kernel_rfl) (by exact fun _ _ _ h => h) (Or.inl ⟨by rfl, ?_⟩) (by assumption) ?_; rotate_left; focus (intro w hSw; (try dsimp only at hSw); first | (go_simp; done) | (go_simp; with_reducible rfl))
          try simp only [Act.put, List.setIfInBounds_toArray, List.set_cons_zero, List.set_cons_succ]
          refine wpAnyH_done (by kernel_rfl) ?_ _
          go_wp2_with fail
          go_meet
          exact ⟨rfl, hHeld.2.2.2.2⟩
        case rest =>
          obtain ⟨rfl, hbH⟩ := hcut
          have hb11 := hbH.out
          obtain ⟨w11, rfl⟩ : ∃ W, W = wc := ⟨_, rfl⟩
          clear hbH DD y1_0 y1_1 z_x1_0 z_x1_1
          have B11 := Lib.hid (B10.out.trans (hb11.mono B10.out.size))
          have w0_11 := Lib.hid (w0_10.out.below hb11)
          have w0F_11 := Lib.hid (w0F_10.out.below hb11)
          have x0_11 := Lib.hid (x0_10.out.below hb11)
          have x0F1_11 := Lib.hid (x0F1_10.out.below hb11)
          have x0F2_11 := Lib.hid (x0F2_10.out.below hb11)
          have x1_11 := Lib.hid (x1_10.out.below hb11)
          have x1F0_11 := Lib.hid (x1F0_10.out.below hb11)
          have x1F1_11 := Lib.hid (x1F1_10.out.below hb11)
          have x4_11 := Lib.hid (x4_10.out.below hb11)
          have x4F_11 := Lib.hid (x4F_10.out.below hb11)
          have g0_11 := Lib.hid (g0_10.out.below hb11)
          have g0F_11 := Lib.hid (g0F_10.out.below hb11)
          have hz11 : (w10).heap.size ≤ w11.heap.size := hb11.size
          clear hb11
          -- if !eqIntS(x4, toIntS(aRoute)) {
          go_wp2_with fail
          refine (toIntS_any _ l4 _ (R4.out.below (BW.out.trans (B11.out.mono hs0)))).mono ?_
          rintro e w12 ⟨u12, rfl, o12, hb12⟩
          have S12 := Lib.hid (OwnInt.sl o12 (by omega))
          have RG12 := Lib.hid (own_range o12)
          have FR12 := Lib.hid (own_freeV o12)
          obtain ⟨D12, k12, rfl⟩ := own_form o12
          have B12 := Lib.hid (B11.out.trans (hb12.mono B11.out.size))
          have w0_12 := Lib.hid (w0_11.out.below hb12)
          have w0F_12 := Lib.hid (w0F_11.out.below hb12)
          have x0_12 := Lib.hid (x0_11.out.below hb12)
          have x0F1_12 := Lib.hid (x0F1_11.out.below hb12)
          have x0F2_12 := Lib.hid (x0F2_11.out.below hb12)
          have x1_12 := Lib.hid (x1_11.out.below hb12)
          have x1F0_12 := Lib.hid (x1F0_11.out.below hb12)
          have x1F1_12 := Lib.hid (x1F1_11.out.below hb12)
          have x4_12 := Lib.hid (x4_11.out.below hb12)
          have x4F_12 := Lib.hid (x4F_11.out.below hb12)
          have g0_12 := Lib.hid (g0_11.out.below hb12)
          have g0F_12 := Lib.hid (g0F_11.out.below hb12)
          have hz12 : (w11).heap.size ≤ w12.heap.size := hb12.size
          clear hb12 o12
          go_wp2_with fail
          refine (eqIntS_same _ _ l4 _ x4_12.out S12.out).mono ?_
          rintro e w13 ⟨rfl, hb13⟩
          have B13 := Lib.hid (B12.out.trans (hb13.mono B12.out.size))
          have w0_13 := Lib.hid (w0_12.out.below hb13)
          have w0F_13 := Lib.hid (w0F_12.out.below hb13)
          have x0_13 := Lib.hid (x0_12.out.below hb13)
          have x0F1_13 := Lib.hid (x0F1_12.out.below hb13)
          have x0F2_13 := Lib.hid (x0F2_12.out.below hb13)
          have x1_13 := Lib.hid (x1_12.out.below hb13)
          have x1F0_13 := Lib.hid (x1F0_12.out.below hb13)
          have x1F1_13 := Lib.hid (x1F1_12.out.below hb13)
          have x4_13 := Lib.hid (x4_12.out.below hb13)
          have x4F_13 := Lib.hid (x4F_12.out.below hb13)
          have g0_13 := Lib.hid (g0_12.out.below hb13)
          have g0F_13 := Lib.hid (g0F_12.out.below hb13)
          have hz13 : (w12).heap.size ≤ w13.heap.size := hb13.size
          clear hb13
          -- k := 1
          -- k = markForecast(x0, k)
          obtain ⟨z_x0_0, z_x0_1, z_x0_2, _⟩ := x0_13.out
          go_wp2_with fail
          refine (markForecastC_any _ _ d0 (1) _ _ _ x0_13.out.2.2.2 x0F1_13.out x0F2_13.out RG5_1.out RG5_2.out AP5_1_2.out (by omega) (by omega) (by omega) (by omega)).mono ?_
          rintro e w14 ⟨rfl, mm14_1, mm14_2, ht14⟩
          have B14 := Lib.hid (TouchR.below B13.out ht14 B13.out.size (by omega))
          have w0_14 := Lib.hid (SlOf.touch w0_13.out ht14 RG4.out (by omega))
          have w0F_14 := Lib.hid (FreeV.touch w0F_13.out ht14 RG4.out (by omega))
          have x1_14 := Lib.hid (show ChartBox w14 w6.heap.size (.slice D6_0 d1.points.length k6_0) (.slice D6_1 d1.segs.length k6_1) d1 from ⟨ht14.cell x1_13.out.1 (by dsimp only; omega), ht14.cell x1_13.out.2.1 (by dsimp only; omega), SlOf.touch x1_13.out.2.2.1 ht14 RG6_0.out (by omega), SlOf.touch x1_13.out.2.2.2 ht14 RG6_1.out (by omega)⟩)
          have x1F0_14 := Lib.hid (FreeV.touch x1F0_13.out ht14 RG6_0.out (by omega))
          have x1F1_14 := Lib.hid (FreeV.touch x1F1_13.out ht14 RG6_1.out (by omega))
          have x4_14 := Lib.hid (SlOf.touch x4_13.out ht14 RG7.out (by omega))
          have x4F_14 := Lib.hid (FreeV.touch x4F_13.out ht14 RG7.out (by omega))
          have g0_14 := Lib.hid (SlOf.touch g0_13.out ht14 RG8.out (by omega))
          have g0F_14 := Lib.hid (FreeV.touch g0F_13.out ht14 RG8.out (by omega))
          have hz14 : (w13).heap.size ≤ w14.heap.size := ht14.size
          clear ht14 mm14_1 mm14_2 z_x0_0 z_x0_1 z_x0_2
          -- k = markChart(x1, k)
          obtain ⟨z_x1_0, z_x1_1, _⟩ := x1_14.out
          go_wp2_with fail
          refine (markChart_any _ _ d1 (1 + (d0.parts.length : Int) * 3 + (d0.surges.length : Int) * 3) _ _ _ x1_14.out.2.2 x1F0_14.out x1F1_14.out RG6_0.out RG6_1.out AP6_0_1.out (by omega) (by omega) (by omega) (by omega)).mono ?_
          rintro e w15 ⟨rfl, mm15_0, mm15_1, ht15⟩
          have B15 := Lib.hid (TouchR.below B14.out ht15 B14.out.size (by omega))
          have w0_15 := Lib.hid (SlOf.touch w0_14.out ht15 RG4.out (by omega))
          have w0F_15 := Lib.hid (FreeV.touch w0F_14.out ht15 RG4.out (by omega))
          have x4_15 := Lib.hid (SlOf.touch x4_14.out ht15 RG7.out (by omega))
          have x4F_15 := Lib.hid (FreeV.touch x4F_14.out ht15 RG7.out (by omega))
          have g0_15 := Lib.hid (SlOf.touch g0_14.out ht15 RG8.out (by omega))
          have g0F_15 := Lib.hid (FreeV.touch g0F_14.out ht15 RG8.out (by omega))
          have hz15 : (w14).heap.size ≤ w15.heap.size := ht15.size
          clear ht15 mm15_0 mm15_1 z_x1_0 z_x1_1
          -- k = markIntS(x4, k)
          go_wp2_with fail
          refine (markIntS_any _ l4 (1 + (d0.parts.length : Int) * 3 + (d0.surges.length : Int) * 3 + (d1.points.length : Int) * 2 + (d1.segs.length : Int) * 5) _ x4_15.out (fun g hg => (x4F_15.out g hg).1) (by omega) (by omega) (by omega)).mono ?_
          rintro e w16 ⟨rfl, mm16, hg16⟩
          have ht16 := touch_grown hg16 RG7.out
          have B16 := Lib.hid (TouchR.below B15.out ht16 B15.out.size (by omega))
          have w0_16 := Lib.hid (SlOf.touch w0_15.out ht16 RG4.out (by omega))
          have w0F_16 := Lib.hid (FreeV.touch w0F_15.out ht16 RG4.out (by omega))
          have g0_16 := Lib.hid (SlOf.touch g0_15.out ht16 RG8.out (by omega))
          have g0F_16 := Lib.hid (FreeV.touch g0F_15.out ht16 RG8.out (by omega))
          have hz16 : (w15).heap.size ≤ w16.heap.size := ht16.size
          have MK_x4 := Lib.hid mm16
          clear ht16 hg16 mm16
          -- if k < 0 || !eqIntS(g0, w0) || g1 != w1 {
          go_wp2_with fail
          refine (eqIntS_same _ _ r0 _ g0_16.out w0_16.out).mono ?_
          rintro e w17 ⟨rfl, hb17⟩
          have B17 := Lib.hid (B16.out.trans (hb17.mono B16.out.size))
          have w0_17 := Lib.hid (w0_16.out.below hb17)
          have w0F_17 := Lib.hid (w0F_16.out.below hb17)
          have g0_17 := Lib.hid (g0_16.out.below hb17)
          have g0F_17 := Lib.hid (g0F_16.out.below hb17)
          have mkx4_17 := Lib.hid (MK_x4.out.below hb17)
          have hz17 : (w16).heap.size ≤ w17.heap.size := hb17.size
          clear hb17
          -- m := 1
          -- m = markIntS(g0, m)
          go_wp2_with fail
          refine (markIntS_any _ r0 (1) _ g0_17.out (fun g hg => (g0F_17.out g hg).1) (by omega) (by omega) (by omega)).mono ?_
          rintro e w18 ⟨rfl, mm18, hg18⟩
          have ht18 := touch_grown hg18 RG8.out
          have B18 := Lib.hid (TouchR.below B17.out ht18 B17.out.size (by omega))
          have w0_18 := Lib.hid (SlOf.touch w0_17.out ht18 RG4.out (by omega))
          have w0F_18 := Lib.hid (FreeV.touch w0F_17.out ht18 RG4.out (by omega))
          have mkx4_18 := Lib.hid (MarkedV.touch mkx4_17.out ht18 RG7.out (by omega))
          have hz18 : (w17).heap.size ≤ w18.heap.size := ht18.size
          have MK_g0 := Lib.hid mm18
          clear ht18 hg18 mm18
          -- q := 1
          -- q = heldIntS(g0, q)
          go_wp2_with fail
          refine (heldIntS_any _ r0.length D8 k8 rfl (1) _ MK_g0.out (by omega) (by omega) (by omega)).mono ?_
          rintro e w19 ⟨rfl, hb19⟩
          have B19 := Lib.hid (B18.out.trans (hb19.mono B18.out.size))
          have w0_19 := Lib.hid (w0_18.out.below hb19)
          have w0F_19 := Lib.hid (w0F_18.out.below hb19)
          have mkx4_19 := Lib.hid (mkx4_18.out.below hb19)
          have mkg0_19 := Lib.hid (MK_g0.out.below hb19)
          have hz19 : (w18).heap.size ≤ w19.heap.size := hb19.size
          clear hb19
          -- if q < 0 {
          -- if q != m {
          -- h0, h1 := impl.FirstSail(toForecast(aF), toChart(aC), toShip(aS), aFrom, toIntS(aRoute), aReady)
          have y0_0 : (w19).cell? ⟨w.heap.size, 0, none⟩ = some (.int .i64 d0.mean) := cell_onV (ABX0.out.1) B19.out
          have y0_1 : (w19).cell? ⟨w.heap.size, 1, none⟩ = some (.slice A0_1 d0.parts.length c0_1) := cell_onV (ABX0.out.2.1) B19.out
          have y0_2 : (w19).cell? ⟨w.heap.size, 2, none⟩ = some (.slice A0_2 d0.surges.length c0_2) := cell_onV (ABX0.out.2.2) B19.out
          have y1_0 : (w19).cell? ⟨w.heap.size + 1, 0, none⟩ = some (.slice A1_0 d1.points.length c1_0) := cell_onV (ABX1.out.1) B19.out
          have y1_1 : (w19).cell? ⟨w.heap.size + 1, 1, none⟩ = some (.slice A1_1 d1.segs.length c1_1) := cell_onV (ABX1.out.2) B19.out
          have y2_0 : (w19).cell? ⟨w.heap.size + 2, 0, none⟩ = some (.string d2.name) := cell_onV (ABX2.out.1) B19.out
          have y2_1 : (w19).cell? ⟨w.heap.size + 2, 1, none⟩ = some (.int .i64 d2.length) := cell_onV (ABX2.out.2.1) B19.out
          have y2_2 : (w19).cell? ⟨w.heap.size + 2, 2, none⟩ = some (.int .i64 d2.draught) := cell_onV (ABX2.out.2.2.1) B19.out
          have y2_3 : (w19).cell? ⟨w.heap.size + 2, 3, none⟩ = some (.int .i64 d2.line) := cell_onV (ABX2.out.2.2.2.1) B19.out
          have y2_4 : (w19).cell? ⟨w.heap.size + 2, 4, none⟩ = some (.int .i64 d2.tugs) := cell_onV (ABX2.out.2.2.2.2.1) B19.out
          have y2_5 : (w19).cell? ⟨w.heap.size + 2, 5, none⟩ = some (.bool d2.slow) := cell_onV (ABX2.out.2.2.2.2.2) B19.out
          have DD := Lib.hid ((Below.refl (w19).heap.size (w19)).drew)
          go_upto_region 40 with fail
          go_cut [24, 25] (fun sL0 sL1 wx => ∃ v, sL0 = v ∧ sL1 = .bool r1 ∧ Hid (OwnInt wx (w19).heap.size v r0) ∧ Hid (Below (w19).heap.size (w19) wx))
          case first =>
            refine wp_region_held_drew (S := (fun w' => w'.cell? ⟨w.heap.size, 0, none⟩ = some (.int .i64 d0.mean) ∧ w'.cell? ⟨w.heap.size, 1, none⟩ = some (.slice A0_1 d0.parts.length c0_1) ∧ w'.cell? ⟨w.heap.size, 2, none⟩ = some (.slice A0_2 d0.surges.length c0_2) ∧ w'.cell? ⟨w.heap.size + 1, 0, none⟩ = some (.slice A1_0 d1.points.length c1_0) ∧ w'.cell? ⟨w.heap.size + 1, 1, none⟩ = some (.slice A1_1 d1.segs.length c1_1) ∧ w'.cell? ⟨w.heap.size + 2, 0, none⟩ = some (.string d2.name) ∧ w'.cell? ⟨w.heap.size + 2, 1, none⟩ = some (.int .i64 d2.length) ∧ w'.cell? ⟨w.heap.size + 2, 2, none⟩ = some (.int .i64 d2.draught) ∧ w'.cell? ⟨w.heap.size + 2, 3, none⟩ = some (.int .i64 d2.line) ∧ w'.cell? ⟨w.heap.size + 2, 4, none⟩ = some (.int .i64 d2.tugs) ∧ w'.cell? ⟨w.heap.size + 2, 5, none⟩ = some (.bool d2.slow) ∧ Hid (Below (w19).heap.size (w19) w'))) (by kernel_rfl) ?_ (fun hHeld => ?_)
            · (try dsimp only); go_keep
            refine wpAnyH_take (i := 0) (v := ?_) (by simp only [List.getElem?_toArray, List.getElem?_cons_zero]; rfl) (by kernel_rfl) (by kernel_rfl) (by kernel_rfl) (by exact fun _ _ _ h => h) (Or.inl ⟨by rfl, ?_⟩) (by assumption) ?_; rotate_left; focus (intro w hSw; (try dsimp only at hSw); first | (go_simp; done) | (go_simp; with_reducible rfl))
            try simp only [Act.put, List.setIfInBounds_toArray, List.set_cons_zero, List.set_cons_succ]
            refine wpAnyH_take (i := 2) (v := ?_) (by simp only [List.getElem?_toArray, List.getElem?_cons_succ, List.getElem?_cons_zero]; rfl) (by kernel_rfl) (by kernel_rfl) (by kernel_rfl) (by exact fun _ _ _ h => h) (Or.inl ⟨by rfl, ?_⟩) (by assumption) ?_; rotate_left; focus (intro w hSw; (try dsimp only at hSw); first | (go_simp; done) | (go_simp; with_reducible rfl))
            try simp only [Act.put, List.setIfInBounds_toArray, List.set_cons_zero, List.set_cons_succ]
            refine wpAnyH_take (i := 4) (v := ?_) (by simp only [List.getElem?_toArray, List.getElem?_cons_succ, List.getElem?_cons_zero]; rfl) (by kernel_rfl) (by kernel_rfl) (by kernel_rfl) (by exact fun _ _ _ h => h) (Or.inl ⟨by rfl, ?_⟩) (by assumption) ?_; rotate_left; focus (intro w hSw; (try dsimp only at hSw); first | (go_simp; done) | (go_simp; with_reducible rfl))
            try simp only [Act.put, List.setIfInBounds_toArray, List.set_cons_zero, List.set_cons_succ]
            refine wpAnyH_take (i := 6) (v := ?_) (by simp only [List.getElem?_toArray, List.getElem?_cons_succ, List.getElem?_cons_zero]; rfl) (by kernel_rfl) (by kernel_rfl) (by kernel_rfl) (by exact fun _ _ _ h => h) (Or.inl ⟨by rfl, ?_⟩) (by assumption) ?_; rotate_left; focus (intro w hSw; (try dsimp only at hSw); first | (go_simp; done) | (go_simp; with_reducible rfl))
            try simp only [Act.put, List.setIfInBounds_toArray, List.set_cons_zero, List.set_cons_succ]
            refine wpAnyH_take (i := 7) (v := ?_) (by simp only [List.getElem?_toArray, List.getElem?_cons_succ, List.getElem?_cons_zero]; rfl) (by kernel_rfl) (by kernel_rfl) (by kernel_rfl) (by exact fun _ _ _ h => h) (Or.inl ⟨by rfl, ?_⟩) (by assumption) ?_; rotate_left; focus (intro w hSw; (try dsimp only at hSw); first | (go_simp; done) | (go_simp; with_reducible rfl))
            try simp only [Act.put, List.setIfInBounds_toArray, List.set_cons_zero, List.set_cons_succ]
            refine wpAnyH_take (i := 9) (v := ?_) (by simp only [List.getElem?_toArray, List.getElem?_cons_succ, List.getElem?_cons_zero]; rfl) (by kernel_rfl) (by kernel_rfl) (by kernel_rfl) (by exact fun _ _ _ h => h) (Or.inl ⟨by rfl, ?_⟩) (by assumption) ?_; rotate_left; focus (intro w hSw; (try dsimp only at hSw); first | (go_simp; done) | (go_simp; with_reducible rfl))
            try simp only [Act.put, List.setIfInBounds_toArray, List.set_cons_zero, List.set_cons_succ]
            refine wpAnyH_ready (rs := [1]) (by kernel_rfl) (by simp) ?_
            refine AllReadyH.cons rfl (fun K hK => ?_) AllReadyH.nil
            rw [if_pos (by rfl)]
            go_simp
            go_at_call 10
            have kB := hHeld.2.2.2.2.2.2.2.2.2.2.2
            refine (toForecastC_any _ _ d0 _ (R0.out.below (BW.out.trans ((B19.out.trans (kB.out.mono B19.out.size)).mono hs0)))).mono ?_
            intro e wt0 hN
            obtain ⟨Q0_1, q0_1, Q0_2, q0_2, rfl, hRD, hbk⟩ := hN.rd (by omega) (by omega)
            have HRD0 := Lib.hid hRD
            have HBK := kB.out.trans (hbk.mono kB.out.size)
            have QS0 := Lib.hid (show wt0.cell? ⟨w.heap.size, 0, none⟩ = some (.int .i64 d0.mean) ∧ wt0.cell? ⟨w.heap.size, 1, none⟩ = some (.slice A0_1 d0.parts.length c0_1) ∧ wt0.cell? ⟨w.heap.size, 2, none⟩ = some (.slice A0_2 d0.surges.length c0_2) ∧ wt0.cell? ⟨w.heap.size + 1, 0, none⟩ = some (.slice A1_0 d1.points.length c1_0) ∧ wt0.cell? ⟨w.heap.size + 1, 1, none⟩ = some (.slice A1_1 d1.segs.length c1_1) ∧ wt0.cell? ⟨w.heap.size + 2, 0, none⟩ = some (.string d2.name) ∧ wt0.cell? ⟨w.heap.size + 2, 1, none⟩ = some (.int .i64 d2.length) ∧ wt0.cell? ⟨w.heap.size + 2, 2, none⟩ = some (.int .i64 d2.draught) ∧ wt0.cell? ⟨w.heap.size + 2, 3, none⟩ = some (.int .i64 d2.line) ∧ wt0.cell? ⟨w.heap.size + 2, 4, none⟩ = some (.int .i64 d2.tugs) ∧ wt0.cell? ⟨w.heap.size + 2, 5, none⟩ = some (.bool d2.slow) ∧ Hid (Below (w19).heap.size (w19) wt0) from ⟨cell_onV (cell_onV (ABX0.out.1) B19.out) HBK, cell_onV (cell_onV (ABX0.out.2.1) B19.out) HBK, cell_onV (cell_onV (ABX0.out.2.2) B19.out) HBK, cell_onV (cell_onV (ABX1.out.1) B19.out) HBK, cell_onV (cell_onV (ABX1.out.2) B19.out) HBK, cell_onV (cell_onV (ABX2.out.1) B19.out) HBK, cell_onV (cell_onV (ABX2.out.2.1) B19.out) HBK, cell_onV (cell_onV (ABX2.out.2.2.1) B19.out) HBK, cell_onV (cell_onV (ABX2.out.2.2.2.1) B19.out) HBK, cell_onV (cell_onV (ABX2.out.2.2.2.2.1) B19.out) HBK, cell_onV (cell_onV (ABX2.out.2.2.2.2.2) B19.out) HBK, Lib.hid HBK⟩)
            clear hbk kB hHeld hN hRD HBK
            go_simp
            refine hK.out _ _ ?_ (fun hHeld => ?_)
            · (try dsimp only); exact QS0.out
            clear hK K
            try simp only [Act.put, List.setIfInBounds_toArray, List.set_cons_zero, List.set_cons_succ]
            refine wpAnyH_ready (rs := [3]) (by kernel_rfl) (by simp) ?_
            refine AllReadyH.cons rfl (fun K hK => ?_) AllReadyH.nil
            rw [if_pos (by rfl)]
            go_simp
            go_at_call 11
            have kB := hHeld.2.2.2.2.2.2.2.2.2.2.2
            refine (toChart_any _ _ d1 _ (R1.out.below (BW.out.trans ((B19.out.trans (kB.out.mono B19.out.size)).mono hs0)))).mono ?_
            intro e wt1 hN
            obtain ⟨Q1_0, q1_0, Q1_1, q1_1, rfl, hRD, hbk⟩ := hN.rd (by omega) (by omega)
            have HRD0' := Lib.hid (HRD0.out.below hbk)
            clear HRD0
            have HRD0 := HRD0'
            clear HRD0'
            have HRD1 := Lib.hid hRD
            have HBK := kB.out.trans (hbk.mono kB.out.size)
            have QS1 := Lib.hid (show wt1.cell? ⟨w.heap.size, 0, none⟩ = some (.int .i64 d0.mean) ∧ wt1.cell? ⟨w.heap.size, 1, none⟩ = some (.slice A0_1 d0.parts.length c0_1) ∧ wt1.cell? ⟨w.heap.size, 2, none⟩ = some (.slice A0_2 d0.surges.length c0_2) ∧ wt1.cell? ⟨w.heap.size + 1, 0, none⟩ = some (.slice A1_0 d1.points.length c1_0) ∧ wt1.cell? ⟨w.heap.size + 1, 1, none⟩ = some (.slice A1_1 d1.segs.length c1_1) ∧ wt1.cell? ⟨w.heap.size + 2, 0, none⟩ = some (.string d2.name) ∧ wt1.cell? ⟨w.heap.size + 2, 1, none⟩ = some (.int .i64 d2.length) ∧ wt1.cell? ⟨w.heap.size + 2, 2, none⟩ = some (.int .i64 d2.draught) ∧ wt1.cell? ⟨w.heap.size + 2, 3, none⟩ = some (.int .i64 d2.line) ∧ wt1.cell? ⟨w.heap.size + 2, 4, none⟩ = some (.int .i64 d2.tugs) ∧ wt1.cell? ⟨w.heap.size + 2, 5, none⟩ = some (.bool d2.slow) ∧ Hid (Below (w19).heap.size (w19) wt1) from ⟨cell_onV (cell_onV (ABX0.out.1) B19.out) HBK, cell_onV (cell_onV (ABX0.out.2.1) B19.out) HBK, cell_onV (cell_onV (ABX0.out.2.2) B19.out) HBK, cell_onV (cell_onV (ABX1.out.1) B19.out) HBK, cell_onV (cell_onV (ABX1.out.2) B19.out) HBK, cell_onV (cell_onV (ABX2.out.1) B19.out) HBK, cell_onV (cell_onV (ABX2.out.2.1) B19.out) HBK, cell_onV (cell_onV (ABX2.out.2.2.1) B19.out) HBK, cell_onV (cell_onV (ABX2.out.2.2.2.1) B19.out) HBK, cell_onV (cell_onV (ABX2.out.2.2.2.2.1) B19.out) HBK, cell_onV (cell_onV (ABX2.out.2.2.2.2.2) B19.out) HBK, Lib.hid HBK⟩)
            clear hbk kB hHeld hN hRD HBK
            go_simp
            refine hK.out _ _ ?_ (fun hHeld => ?_)
            · (try dsimp only); exact QS1.out
            clear hK K
            try simp only [Act.put, List.setIfInBounds_toArray, List.set_cons_zero, List.set_cons_succ]
            refine wpAnyH_ready (rs := [5]) (by kernel_rfl) (by simp) ?_
            refine AllReadyH.cons rfl (fun K hK => ?_) AllReadyH.nil
            rw [if_pos (by rfl)]
            go_simp
            go_at_call 20
            have kB := hHeld.2.2.2.2.2.2.2.2.2.2.2
            refine (toShip_any d2.name d2.length d2.draught d2.line d2.tugs d2.slow _).mono ?_
            rintro e wt2 ⟨rfl, hbk⟩
            have HRD0' := Lib.hid (HRD0.out.below hbk)
            clear HRD0
            have HRD0 := HRD0'
            clear HRD0'
            have HRD1' := Lib.hid (HRD1.out.below hbk)
            clear HRD1
            have HRD1 := HRD1'
            clear HRD1'
            have HBK := kB.out.trans (hbk.mono kB.out.size)
            have QS2 := Lib.hid (show wt2.cell? ⟨w.heap.size, 0, none⟩ = some (.int .i64 d0.mean) ∧ wt2.cell? ⟨w.heap.size, 1, none⟩ = some (.slice A0_1 d0.parts.length c0_1) ∧ wt2.cell? ⟨w.heap.size, 2, none⟩ = some (.slice A0_2 d0.surges.length c0_2) ∧ wt2.cell? ⟨w.heap.size + 1, 0, none⟩ = some (.slice A1_0 d1.points.length c1_0) ∧ wt2.cell? ⟨w.heap.size + 1, 1, none⟩ = some (.slice A1_1 d1.segs.length c1_1) ∧ wt2.cell? ⟨w.heap.size + 2, 0, none⟩ = some (.string d2.name) ∧ wt2.cell? ⟨w.heap.size + 2, 1, none⟩ = some (.int .i64 d2.length) ∧ wt2.cell? ⟨w.heap.size + 2, 2, none⟩ = some (.int .i64 d2.draught) ∧ wt2.cell? ⟨w.heap.size + 2, 3, none⟩ = some (.int .i64 d2.line) ∧ wt2.cell? ⟨w.heap.size + 2, 4, none⟩ = some (.int .i64 d2.tugs) ∧ wt2.cell? ⟨w.heap.size + 2, 5, none⟩ = some (.bool d2.slow) ∧ Hid (Below (w19).heap.size (w19) wt2) from ⟨cell_onV (cell_onV (ABX0.out.1) B19.out) HBK, cell_onV (cell_onV (ABX0.out.2.1) B19.out) HBK, cell_onV (cell_onV (ABX0.out.2.2) B19.out) HBK, cell_onV (cell_onV (ABX1.out.1) B19.out) HBK, cell_onV (cell_onV (ABX1.out.2) B19.out) HBK, cell_onV (cell_onV (ABX2.out.1) B19.out) HBK, cell_onV (cell_onV (ABX2.out.2.1) B19.out) HBK, cell_onV (cell_onV (ABX2.out.2.2.1) B19.out) HBK, cell_onV (cell_onV (ABX2.out.2.2.2.1) B19.out) HBK, cell_onV (cell_onV (ABX2.out.2.2.2.2.1) B19.out) HBK, cell_onV (cell_onV (ABX2.out.2.2.2.2.2) B19.out) HBK, Lib.hid HBK⟩)
            clear hbk kB hHeld HBK
            go_simp
            refine hK.out _ _ ?_ (fun hHeld => ?_)
            · (try dsimp only); exact QS2.out
            clear hK K
            try simp only [Act.put, List.setIfInBounds_toArray, List.set_cons_zero, List.set_cons_succ]
            refine wpAnyH_ready (rs := [8]) (by kernel_rfl) (by simp) ?_
            refine AllReadyH.cons rfl (fun K hK => ?_) AllReadyH.nil
            rw [if_pos (by rfl)]
            go_simp
            go_at_call 21
            have kB := hHeld.2.2.2.2.2.2.2.2.2.2.2
            refine (toIntS_any _ l4 _ (R4.out.below (BW.out.trans ((B19.out.trans (kB.out.mono B19.out.size)).mono hs0)))).mono ?_
            rintro e wt3 ⟨uz3, rfl, oz3, hbk⟩
            have hRD := OwnInt.sl oz3 (by omega)
            obtain ⟨Dz3, kz3, rfl⟩ := own_form oz3
            have HRD0' := Lib.hid (HRD0.out.below hbk)
            clear HRD0
            have HRD0 := HRD0'
            clear HRD0'
            have HRD1' := Lib.hid (HRD1.out.below hbk)
            clear HRD1
            have HRD1 := HRD1'
            clear HRD1'
            have HRD3 := Lib.hid hRD
            have HBK := kB.out.trans (hbk.mono kB.out.size)
            have QS3 := Lib.hid (show wt3.cell? ⟨w.heap.size, 0, none⟩ = some (.int .i64 d0.mean) ∧ wt3.cell? ⟨w.heap.size, 1, none⟩ = some (.slice A0_1 d0.parts.length c0_1) ∧ wt3.cell? ⟨w.heap.size, 2, none⟩ = some (.slice A0_2 d0.surges.length c0_2) ∧ wt3.cell? ⟨w.heap.size + 1, 0, none⟩ = some (.slice A1_0 d1.points.length c1_0) ∧ wt3.cell? ⟨w.heap.size + 1, 1, none⟩ = some (.slice A1_1 d1.segs.length c1_1) ∧ wt3.cell? ⟨w.heap.size + 2, 0, none⟩ = some (.string d2.name) ∧ wt3.cell? ⟨w.heap.size + 2, 1, none⟩ = some (.int .i64 d2.length) ∧ wt3.cell? ⟨w.heap.size + 2, 2, none⟩ = some (.int .i64 d2.draught) ∧ wt3.cell? ⟨w.heap.size + 2, 3, none⟩ = some (.int .i64 d2.line) ∧ wt3.cell? ⟨w.heap.size + 2, 4, none⟩ = some (.int .i64 d2.tugs) ∧ wt3.cell? ⟨w.heap.size + 2, 5, none⟩ = some (.bool d2.slow) ∧ Hid (Below (w19).heap.size (w19) wt3) from ⟨cell_onV (cell_onV (ABX0.out.1) B19.out) HBK, cell_onV (cell_onV (ABX0.out.2.1) B19.out) HBK, cell_onV (cell_onV (ABX0.out.2.2) B19.out) HBK, cell_onV (cell_onV (ABX1.out.1) B19.out) HBK, cell_onV (cell_onV (ABX1.out.2) B19.out) HBK, cell_onV (cell_onV (ABX2.out.1) B19.out) HBK, cell_onV (cell_onV (ABX2.out.2.1) B19.out) HBK, cell_onV (cell_onV (ABX2.out.2.2.1) B19.out) HBK, cell_onV (cell_onV (ABX2.out.2.2.2.1) B19.out) HBK, cell_onV (cell_onV (ABX2.out.2.2.2.2.1) B19.out) HBK, cell_onV (cell_onV (ABX2.out.2.2.2.2.2) B19.out) HBK, Lib.hid HBK⟩)
            clear hbk kB hHeld oz3 hRD HBK
            go_simp
            refine hK.out _ _ ?_ (fun hHeld => ?_)
            · (try dsimp only); exact QS3.out
            clear hK K
            try simp only [Act.put, List.setIfInBounds_toArray, List.set_cons_zero, List.set_cons_succ]
            refine wpAnyH_ready (rs := [10]) (by kernel_rfl) (by simp) ?_
            refine AllReadyH.cons rfl (fun K hK => ?_) AllReadyH.nil
            rw [if_pos (by rfl)]
            go_simp
            go_at_call 29
            have kB := hHeld.2.2.2.2.2.2.2.2.2.2.2
            refine (implFirstSail _ _ d0 _ _ d1 d2 a3 _ l4 a5 _ HRD0.out HRD1.out HRD3.out WF1_0.out hin2).mono ?_
            intro e wq hN
            unfold SailPost at hN
            rw [HR1.out, HR0.out] at hN
            obtain ⟨uz, rfl, oz, hbk⟩ := hN
            have OZ := Lib.hid (own_lo (base' := (w19).heap.size) oz kB.out.size)
            obtain ⟨DZ, kz, rfl⟩ := own_form oz
            clear oz
            have HBK := kB.out.trans (hbk.mono kB.out.size)
            have QQ := Lib.hid (show wq.cell? ⟨w.heap.size, 0, none⟩ = some (.int .i64 d0.mean) ∧ wq.cell? ⟨w.heap.size, 1, none⟩ = some (.slice A0_1 d0.parts.length c0_1) ∧ wq.cell? ⟨w.heap.size, 2, none⟩ = some (.slice A0_2 d0.surges.length c0_2) ∧ wq.cell? ⟨w.heap.size + 1, 0, none⟩ = some (.slice A1_0 d1.points.length c1_0) ∧ wq.cell? ⟨w.heap.size + 1, 1, none⟩ = some (.slice A1_1 d1.segs.length c1_1) ∧ wq.cell? ⟨w.heap.size + 2, 0, none⟩ = some (.string d2.name) ∧ wq.cell? ⟨w.heap.size + 2, 1, none⟩ = some (.int .i64 d2.length) ∧ wq.cell? ⟨w.heap.size + 2, 2, none⟩ = some (.int .i64 d2.draught) ∧ wq.cell? ⟨w.heap.size + 2, 3, none⟩ = some (.int .i64 d2.line) ∧ wq.cell? ⟨w.heap.size + 2, 4, none⟩ = some (.int .i64 d2.tugs) ∧ wq.cell? ⟨w.heap.size + 2, 5, none⟩ = some (.bool d2.slow) ∧ Hid (Below (w19).heap.size (w19) wq) from ⟨cell_onV (cell_onV (ABX0.out.1) B19.out) HBK, cell_onV (cell_onV (ABX0.out.2.1) B19.out) HBK, cell_onV (cell_onV (ABX0.out.2.2) B19.out) HBK, cell_onV (cell_onV (ABX1.out.1) B19.out) HBK, cell_onV (cell_onV (ABX1.out.2) B19.out) HBK, cell_onV (cell_onV (ABX2.out.1) B19.out) HBK, cell_onV (cell_onV (ABX2.out.2.1) B19.out) HBK, cell_onV (cell_onV (ABX2.out.2.2.1) B19.out) HBK, cell_onV (cell_onV (ABX2.out.2.2.2.1) B19.out) HBK, cell_onV (cell_onV (ABX2.out.2.2.2.2.1) B19.out) HBK, cell_onV (cell_onV (ABX2.out.2.2.2.2.2) B19.out) HBK, Lib.hid HBK⟩)
            clear hbk kB hHeld HBK
            go_simp
            refine hK.out _ _ ?_ (fun hHeld => ?_)
            · (try dsimp only); exact QQ.out
            clear hK K
            try simp only [Act.put, List.setIfInBounds_toArray, List.set_cons_zero, List.set_cons_succ]
            refine wpAnyH_take (i := 11) (v := ?_) (by simp only [List.getElem?_toArray, List.getElem?_cons_succ, List.getElem?_cons_zero]; rfl) (by kernel_rfl) (by kernel_rfl) (by kernel_rfl) (by exact fun _ _ _ h => h) (Or.inl ⟨by rfl, ?_⟩) (by assumption) ?_; rotate_left; focus (intro w hSw; (try dsimp only at hSw); first | (go_simp; done) | (go_simp; with_reducible rfl))
            try simp only [Act.put, List.setIfInBounds_toArray, List.set_cons_zero, List.set_cons_succ]
            refine wpAnyH_take (i := 12) (v := ?_) (by simp only [List.getElem?_toArray, List.getElem?_cons_succ, List.getElem?_cons_zero]; rfl) (by kernel_rfl) (by kernel_rfl) (by kernel_rfl) (by exact fun _ _ _ h => h) (Or.inl ⟨by rfl, ?_⟩) (by assumption) ?_; rotate_left; focus (intro w hSw; (try dsimp only at hSw); first | (go_simp; done) | (go_simp; with_reducible rfl))
            try simp only [Act.put, List.setIfInBounds_toArray, List.set_cons_zero, List.set_cons_succ]
            refine wpAnyH_take (i := 13) (v := ?_) (by simp only [List.getElem?_toArray, List.getElem?_cons_succ, List.getElem?_cons_zero]; rfl) (by kernel_rfl) (by kernel_rfl) (by kernel_rfl) (by exact fun _ _ _ h => h) (Or.inl ⟨by rfl, ?_⟩) (by assumption) ?_; rotate_left; focus (intro w hSw; (try dsimp only at hSw); first | (go_simp; done) | (go_simp; with_reducible rfl))
            try simp only [Act.put, List.setIfInBounds_toArray, List.set_cons_zero, List.set_cons_succ]
            refine wpAnyH_take (i := 14) (v := ?_) (by simp only [List.getElem?_toArray, List.getElem?_cons_succ, List.getElem?_cons_zero]; rfl) (by kernel_rfl) (by kernel_rfl) (by kernel_rfl) (by exact fun _ _ _ h => h) (Or.inl ⟨by rfl, ?_⟩) (by assumption) ?_; rotate_left; focus (intro w hSw; (try dsimp only at hSw); first | (go_simp; done) | (go_simp; with_reducible rfl))
            try simp only [Act.put, List.setIfInBounds_toArray, List.set_cons_zero, List.set_cons_succ]
            refine wpAnyH_take (i := 15) (v := ?_) (by simp only [List.getElem?_toArray, List.getElem?_cons_succ, List.getElem?_cons_zero]; rfl) (by kernel_rfl) (by kernel_rfl) (by kernel_rfl) (by exact fun _ _ _ h => h) (Or.inl ⟨by rfl, ?_⟩) (by assumption) ?_; rotate_left; focus (intro w hSw; (try dsimp only at hSw); first | (go_simp; done) | (go_simp; with_reducible rfl))
            try simp only [Act.put, List.setIfInBounds_toArray, List.set_cons_zero, List.set_cons_succ]
            refine wpAnyH_done (by kernel_rfl) ?_ _
            go_wp2_with fail
            go_meet
            exact ⟨_, rfl, rfl, OZ, hHeld.2.2.2.2.2.2.2.2.2.2.2⟩
          case rest =>
            obtain ⟨u20, rfl, rfl, oH, hbH⟩ := hcut
            have o20 := oH.out
            clear oH
            have hb20 := hbH.out
            obtain ⟨w20, rfl⟩ : ∃ W, W = wc := ⟨_, rfl⟩
            clear hbH DD y0_0 y0_1 y0_2 y1_0 y1_1 y2_0 y2_1 y2_2 y2_3 y2_4 y2_5 
            have S20 := Lib.hid (OwnInt.sl o20 (by omega))
            have RG20 := Lib.hid (own_range o20)
            have FR20 := Lib.hid (own_freeV o20)
            obtain ⟨D20, k20, rfl⟩ := own_form o20
            have B20 := Lib.hid (B19.out.trans (hb20.mono B19.out.size))
            have w0_20 := Lib.hid (w0_19.out.below hb20)
            have w0F_20 := Lib.hid (w0F_19.out.below hb20)
            have mkx4_20 := Lib.hid (mkx4_19.out.below hb20)
            have mkg0_20 := Lib.hid (mkg0_19.out.below hb20)
            have hz20 : (w19).heap.size ≤ w20.heap.size := hb20.size
            clear hb20
            clear o20
            -- if !eqIntS(h0, w0) || h1 != w1 {
            go_wp2_with fail
            refine (eqIntS_same _ _ r0 _ S20.out w0_20.out).mono ?_
            rintro e w21 ⟨rfl, hb21⟩
            have B21 := Lib.hid (B20.out.trans (hb21.mono B20.out.size))
            have w0_21 := Lib.hid (w0_20.out.below hb21)
            have w0F_21 := Lib.hid (w0F_20.out.below hb21)
            have mkx4_21 := Lib.hid (mkx4_20.out.below hb21)
            have mkg0_21 := Lib.hid (mkg0_20.out.below hb21)
            have h0_21 := Lib.hid (S20.out.below hb21)
            have h0F_21 := Lib.hid (FR20.out.below hb21)
            have hz21 : (w20).heap.size ≤ w21.heap.size := hb21.size
            clear hb21
            -- q = 1
            -- q = heldIntS(g0, q)
            go_wp2_with fail
            refine (heldIntS_any _ r0.length D8 k8 rfl (1) _ mkg0_21.out (by omega) (by omega) (by omega)).mono ?_
            rintro e w22 ⟨rfl, hb22⟩
            have B22 := Lib.hid (B21.out.trans (hb22.mono B21.out.size))
            have w0_22 := Lib.hid (w0_21.out.below hb22)
            have w0F_22 := Lib.hid (w0F_21.out.below hb22)
            have mkx4_22 := Lib.hid (mkx4_21.out.below hb22)
            have mkg0_22 := Lib.hid (mkg0_21.out.below hb22)
            have h0_22 := Lib.hid (h0_21.out.below hb22)
            have h0F_22 := Lib.hid (h0F_21.out.below hb22)
            have hz22 : (w21).heap.size ≤ w22.heap.size := hb22.size
            clear hb22
            -- if q < 0 {
            -- if q != m {
            -- return true
            go_wp2
            go_ret
            exact ⟨rfl, BW.out.trans (B22.out.mono hs0)⟩
set_option maxRecDepth 100000 in
theorem lifted (os : Os) (started : os.Started) (H : Type) (enc : TypeId × Value → H) :
    ReturnsInHanded {} Tryz.checked os 5 .any (Rows.fnExactFirstSailSpec.pre6 enc Tryz.prog Tryz.f5 Rows.fnExactFirstSailRow.domain false) (Rows.fnExactFirstSailSpec.post enc Tryz.prog Tryz.f5 false true false false) := by
  refine returnsInHanded_of_change (C := Tryz.checked) own started (by kernel_rfl) Tryz.func5
    (ChangeSpec.witness6 (enc := enc) (C := Tryz.checked) false ⟨#[], #[.agg #[.int .i64 0, .slice none 0 0, .slice none 0 0], .agg #[.slice none 0 0, .slice none 0 0], .agg #[.string ⟨#[]⟩, .int .i64 0, .int .i64 0, .int .i64 0, .int .i64 0, .bool false], .int .i64 0, .slice none 0 0, .int .i64 0], []⟩ 8 (by kernel_rfl) (by kernel_rfl) (by kernel_rfl) (by kernel_rfl)) ?_
  intro W base args ds gs before hval0 hW _ _
  have hval : ∀ (j : Nat) t v, Tryz.f5.params[j]? = some t → args[j]? = some v → Value.okWide Tryz.prog W .any base t v := hval0
  have hW' := hW
  obtain ⟨p, q, hA0, hV, rfl, _, _⟩ := hW
  have hA : DataW.TrodAll enc Tryz.prog W 0 (fun _ => true) true Tryz.f5.params.toList args.toList ds p := hA0
  rw [Tryz.params5] at hA hval
  obtain ⟨v0, vs0, d0, ds0, p0, q0, hargs, rfl, rfl, h0, r0⟩ := trodAll_cons hA
  obtain ⟨v1, vs1, d1, ds1, p1, q1, rfl, rfl, rfl, h1, r1⟩ := trodAll_cons r0
  obtain ⟨v2, vs2, d2, ds2, p2, q2, rfl, rfl, rfl, h2, r2⟩ := trodAll_cons r1
  obtain ⟨v3, vs3, d3, ds3, p3, q3, rfl, rfl, rfl, h3, r3⟩ := trodAll_cons r2
  obtain ⟨v4, vs4, d4, ds4, p4, q4, rfl, rfl, rfl, h4, r4⟩ := trodAll_cons r3
  obtain ⟨v5, vs5, d5, ds5, p5, q5, rfl, rfl, rfl, h5, r5⟩ := trodAll_cons r4
  obtain ⟨rfl, rfl, rfl⟩ := trodAll_nil r5
  obtain rfl : args = #[v0, v1, v2, v3, v4, v5] := by cases args; simp_all
  obtain ⟨A0_1, c0_1, A0_2, c0_2, d0', rfl, g0⟩ := open_forecast_arg (hval 0 27 v0 rfl rfl) h0
  obtain ⟨A1_0, c1_0, A1_1, c1_1, d1', rfl, g1⟩ := open_chart_arg (hval 1 31 v1 rfl rfl) h1
  obtain ⟨d2', rfl, g2⟩ := open_ship_arg (hval 2 60 v2 rfl rfl) h2
  obtain ⟨a3, rfl, rfl, rfl, g3⟩ := open_int Tryz.underlying3 (hval 3 3 v3 rfl rfl) h3
  obtain ⟨A4, c4, l4, rfl, g4⟩ := open_ints_arg (hval 4 61 v4 rfl rfl) h4
  obtain ⟨a5, rfl, rfl, rfl, g5⟩ := open_int Tryz.underlying3 (hval 5 3 v5 rfl rfl) h5
  refine (law A0_1 c0_1 A0_2 c0_2 d0' A1_0 c1_0 A1_1 c1_1 d1' d2' a3 A4 c4 l4 a5 W g0 g1 g2 g3 g4 g5).mono fun e W' ⟨he, hb⟩ => ⟨_, he, ?_⟩
  exact law_post laidOut (by kernel_rfl) rfl (by kernel_rfl) Tryz.underlying4 rfl rfl rfl hW' hb
theorem holds : Rows.FnExactFirstSailSaid :=
  OpenClaim.holds_of_wide 5 Tryz.f5 rfl rfl rfl rfl rfl rfl rfl ⟨rfl, rfl, rfl, rfl, rfl⟩ rfl rfl rfl rfl rfl (by kernel_rfl) Tryz.func5 (by kernel_rfl)
    (of_decide_eq_true (by kernel_rfl)) (by unfold Func.isWrapper; first | (rw [if_pos (by decide +kernel)]; kernel_rfl) | (rw [if_neg (by decide +kernel)]; exact ⟨rfl, rfl⟩))
    (fun os started H enc _ => lifted os started H enc)
end Go.Proofs.YtooeikimoheecaaGreat.exactFirstSail
