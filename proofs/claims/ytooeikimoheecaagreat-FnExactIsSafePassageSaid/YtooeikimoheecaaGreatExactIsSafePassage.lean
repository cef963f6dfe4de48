
/- The exact law of IsSafePassage holds for all arguments: impl.IsSafePassage answers as its model, and the arguments read as before. No condition. -/
import Derived.Test.YtooeikimoheecaaGreatRows
import Derived.Test.YtooeikimoheecaaGreatGr0
import Derived.Test.YtooeikimoheecaaGreatGr31
import Derived.Test.YtooeikimoheecaaGreatGr29
import Derived.Test.YtooeikimoheecaaGreatGr19
import Derived.Test.YtooeikimoheecaaGreatGr7
import Derived.Test.YtooeikimoheecaaGreatGr6
import Derived.Deep.RegionHeld3
import Derived.Deep.DeepCutAuto
namespace Go.Proofs.YtooeikimoheecaaGreat.exactIsSafePassage
open Go.ChangeShapes Go.WideShapes Go.ChangeAt Go.RowKit
set_option maxRecDepth 100000
theorem own : ownKnob Tryz.prog.godebug = none := by kernel_rfl
theorem laidOut : laidOutB Tryz.prog = true := by kernel_rfl
set_option maxHeartbeats 16000000 in
theorem law (A0_1 : Option Addr) (c0_1 : Nat) (A0_2 : Option Addr) (c0_2 : Nat) (d0 : ForecastD) (A1_0 : Option Addr) (c1_0 : Nat) (A1_1 : Option Addr) (c1_1 : Nat) (d1 : ChartD) (A2 : Option Addr) (c2 : Nat) (l2 : List ShipD) (d3 : PassageD) (w : World) (hin0 : ForecastIn w A0_1 A0_2 c0_1 c0_2 d0) (hin1 : ChartIn w A1_0 A1_1 c1_0 c1_1 d1) (hin2 : l2.length ≤ maxLen ∧ (l2.length ≤ 1000000000 → SlShip w (.slice A2 l2.length c2) l2) ∧ ∀ x ∈ l2, ShipD.wf x) (_ : d3.wf) :
    Calls Tryz.prog 3 #[.agg #[.int .i64 d0.mean, .slice A0_1 d0.parts.length c0_1, .slice A0_2 d0.surges.length c0_2], .agg #[.slice A1_0 d1.points.length c1_0, .slice A1_1 d1.segs.length c1_1], .slice A2 l2.length c2, .agg #[.int .i64 d3.ship, .int .i64 d3.segment, .bool d3.toward, .int .i64 d3.start, .int .i64 d3.stop]] w fun e w' => e = .returned (.bool true) ∧ Below w.heap.size w w' := by
  obtain ⟨_, hsz0⟩ := hin0
  have SZ0 := Lib.hid hsz0
  obtain ⟨m0_1, s0_1, f0_1, m0_2, s0_2, f0_2⟩ := hsz0
  have SS0_1 := Lib.hid s0_1
  have SS0_2 := Lib.hid s0_2
  clear s0_1 f0_1 s0_2 f0_2
  have bp0 := bulkForecast_pos d0
  have hsz1 : SizChart w A1_0 A1_1 c1_0 c1_1 d1 := hin1
  clear hin1
  have SZ1 := Lib.hid hsz1
  obtain ⟨m1_0, s1_0, f1_0, m1_1, s1_1, f1_1⟩ := hsz1
  have SS1_0 := Lib.hid s1_0
  have SS1_1 := Lib.hid s1_1
  have WF1_0 := Lib.hid f1_0
  clear s1_0 f1_0 s1_1 f1_1
  have bp1 := bulkChart_pos d1
  obtain ⟨m2, s2, f2⟩ := hin2
  unfold maxLen at m2
  have SS2 := Lib.hid s2
  have FF2 := Lib.hid f2
  clear s2 f2
  have HB0 : Below w.heap.size w (((w.alloc (.cells #[.int .i64 d0.mean, .slice A0_1 d0.parts.length c0_1, .slice A0_2 d0.surges.length c0_2] 27)).alloc (.cells #[.slice A1_0 d1.points.length c1_0, .slice A1_1 d1.segs.length c1_1] 31)).alloc (.cells #[.int .i64 d3.ship, .int .i64 d3.segment, .bool d3.toward, .int .i64 d3.start, .int .i64 d3.stop] 34)) := by
    repeat (first | exact Below.refl _ _ | refine Below.alloc ?_ (by simp <;> omega) _)
  have BW := Lib.hid HB0
  clear HB0
  go_enter Tryz.func3, Tryz.ntmps3
  have B0 := Lib.hid (Below.refl ((((w.alloc (.cells #[.int .i64 d0.mean, .slice A0_1 d0.parts.length c0_1, .slice A0_2 d0.surges.length c0_2] 27)).alloc (.cells #[.slice A1_0 d1.points.length c1_0, .slice A1_1 d1.segs.length c1_1] 31)).alloc (.cells #[.int .i64 d3.ship, .int .i64 d3.segment, .bool d3.toward, .int .i64 d3.start, .int .i64 d3.stop] 34))).heap.size (((w.alloc (.cells #[.int .i64 d0.mean, .slice A0_1 d0.parts.length c0_1, .slice A0_2 d0.surges.length c0_2] 27)).alloc (.cells #[.slice A1_0 d1.points.length c1_0, .slice A1_1 d1.segs.length c1_1] 31)).alloc (.cells #[.int .i64 d3.ship, .int .i64 d3.segment, .bool d3.toward, .int .i64 d3.start, .int .i64 d3.stop] 34)))
  have hs0 : w.heap.size ≤ ((((w.alloc (.cells #[.int .i64 d0.mean, .slice A0_1 d0.parts.length c0_1, .slice A0_2 d0.surges.length c0_2] 27)).alloc (.cells #[.slice A1_0 d1.points.length c1_0, .slice A1_1 d1.segs.length c1_1] 31)).alloc (.cells #[.int .i64 d3.ship, .int .i64 d3.segment, .bool d3.toward, .int .i64 d3.start, .int .i64 d3.stop] 34))).heap.size := BW.out.size
  have ABX0 := Lib.hid (show ((((w.alloc (.cells #[.int .i64 d0.mean, .slice A0_1 d0.parts.length c0_1, .slice A0_2 d0.surges.length c0_2] 27)).alloc (.cells #[.slice A1_0 d1.points.length c1_0, .slice A1_1 d1.segs.length c1_1] 31)).alloc (.cells #[.int .i64 d3.ship, .int .i64 d3.segment, .bool d3.toward, .int .i64 d3.start, .int .i64 d3.stop] 34))).cell? ⟨w.heap.size, 0, none⟩ = some (.int .i64 d0.mean) ∧ ((((w.alloc (.cells #[.int .i64 d0.mean, .slice A0_1 d0.parts.length c0_1, .slice A0_2 d0.surges.length c0_2] 27)).alloc (.cells #[.slice A1_0 d1.points.length c1_0, .slice A1_1 d1.segs.length c1_1] 31)).alloc (.cells #[.int .i64 d3.ship, .int .i64 d3.segment, .bool d3.toward, .int .i64 d3.start, .int .i64 d3.stop] 34))).cell? ⟨w.heap.size, 1, none⟩ = some (.slice A0_1 d0.parts.length c0_1) ∧ ((((w.alloc (.cells #[.int .i64 d0.mean, .slice A0_1 d0.parts.length c0_1, .slice A0_2 d0.surges.length c0_2] 27)).alloc (.cells #[.slice A1_0 d1.points.length c1_0, .slice A1_1 d1.segs.length c1_1] 31)).alloc (.cells #[.int .i64 d3.ship, .int .i64 d3.segment, .bool d3.toward, .int .i64 d3.start, .int .i64 d3.stop] 34))).cell? ⟨w.heap.size, 2, none⟩ = some (.slice A0_2 d0.surges.length c0_2) from by
    have hBk0 : Blk (w.alloc (.cells #[.int .i64 d0.mean, .slice A0_1 d0.parts.length c0_1, .slice A0_2 d0.surges.length c0_2] 27)) (w.heap.size) #[.int .i64 d0.mean, .slice A0_1 d0.parts.length c0_1, .slice A0_2 d0.surges.length c0_2] 27 := Blk.newAt (w := w) (by first | rfl | simp) _ _
    have hBk : Blk (((w.alloc (.cells #[.int .i64 d0.mean, .slice A0_1 d0.parts.length c0_1, .slice A0_2 d0.surges.length c0_2] 27)).alloc (.cells #[.slice A1_0 d1.points.length c1_0, .slice A1_1 d1.segs.length c1_1] 31)).alloc (.cells #[.int .i64 d3.ship, .int .i64 d3.segment, .bool d3.toward, .int .i64 d3.start, .int .i64 d3.stop] 34)) (w.heap.size) #[.int .i64 d0.mean, .slice A0_1 d0.parts.length c0_1, .slice A0_2 d0.surges.length c0_2] 27 := hBk0.below (by repeat (first | exact Below.refl _ _ | refine Below.alloc ?_ (by simp) _))
    exact ⟨hBk.cell 0, hBk.cell 1, hBk.cell 2⟩)
  have ABX1 := Lib.hid (show ((((w.alloc (.cells #[.int .i64 d0.mean, .slice A0_1 d0.parts.length c0_1, .slice A0_2 d0.surges.length c0_2] 27)).alloc (.cells #[.slice A1_0 d1.points.length c1_0, .slice A1_1 d1.segs.length c1_1] 31)).alloc (.cells #[.int .i64 d3.ship, .int .i64 d3.segment, .bool d3.toward, .int .i64 d3.start, .int .i64 d3.stop] 34))).cell? ⟨w.heap.size + 1, 0, none⟩ = some (.slice A1_0 d1.points.length c1_0) ∧ ((((w.alloc (.cells #[.int .i64 d0.mean, .slice A0_1 d0.parts.length c0_1, .slice A0_2 d0.surges.length c0_2] 27)).alloc (.cells #[.slice A1_0 d1.points.length c1_0, .slice A1_1 d1.segs.length c1_1] 31)).alloc (.cells #[.int .i64 d3.ship, .int .i64 d3.segment, .bool d3.toward, .int .i64 d3.start, .int .i64 d3.stop] 34))).cell? ⟨w.heap.size + 1, 1, none⟩ = some (.slice A1_1 d1.segs.length c1_1) from by
    have hBk0 : Blk ((w.alloc (.cells #[.int .i64 d0.mean, .slice A0_1 d0.parts.length c0_1, .slice A0_2 d0.surges.length c0_2] 27)).alloc (.cells #[.slice A1_0 d1.points.length c1_0, .slice A1_1 d1.segs.length c1_1] 31)) (w.heap.size + 1) #[.slice A1_0 d1.points.length c1_0, .slice A1_1 d1.segs.length c1_1] 31 := Blk.newAt (w := (w.alloc (.cells #[.int .i64 d0.mean, .slice A0_1 d0.parts.length c0_1, .slice A0_2 d0.surges.length c0_2] 27))) (by first | rfl | simp) _ _
    have hBk : Blk (((w.alloc (.cells #[.int .i64 d0.mean, .slice A0_1 d0.parts.length c0_1, .slice A0_2 d0.surges.length c0_2] 27)).alloc (.cells #[.slice A1_0 d1.points.length c1_0, .slice A1_1 d1.segs.length c1_1] 31)).alloc (.cells #[.int .i64 d3.ship, .int .i64 d3.segment, .bool d3.toward, .int .i64 d3.start, .int .i64 d3.stop] 34)) (w.heap.size + 1) #[.slice A1_0 d1.points.length c1_0, .slice A1_1 d1.segs.length c1_1] 31 := hBk0.below (by repeat (first | exact Below.refl _ _ | refine Below.alloc ?_ (by simp) _))
    exact ⟨hBk.cell 0, hBk.cell 1⟩)
  have ABX3 := Lib.hid (show ((((w.alloc (.cells #[.int .i64 d0.mean, .slice A0_1 d0.parts.length c0_1, .slice A0_2 d0.surges.length c0_2] 27)).alloc (.cells #[.slice A1_0 d1.points.length c1_0, .slice A1_1 d1.segs.length c1_1] 31)).alloc (.cells #[.int .i64 d3.ship, .int .i64 d3.segment, .bool d3.toward, .int .i64 d3.start, .int .i64 d3.stop] 34))).cell? ⟨w.heap.size + 2, 0, none⟩ = some (.int .i64 d3.ship) ∧ ((((w.alloc (.cells #[.int .i64 d0.mean, .slice A0_1 d0.parts.length c0_1, .slice A0_2 d0.surges.length c0_2] 27)).alloc (.cells #[.slice A1_0 d1.points.length c1_0, .slice A1_1 d1.segs.length c1_1] 31)).alloc (.cells #[.int .i64 d3.ship, .int .i64 d3.segment, .bool d3.toward, .int .i64 d3.start, .int .i64 d3.stop] 34))).cell? ⟨w.heap.size + 2, 1, none⟩ = some (.int .i64 d3.segment) ∧ ((((w.alloc (.cells #[.int .i64 d0.mean, .slice A0_1 d0.parts.length c0_1, .slice A0_2 d0.surges.length c0_2] 27)).alloc (.cells #[.slice A1_0 d1.points.length c1_0, .slice A1_1 d1.segs.length c1_1] 31)).alloc (.cells #[.int .i64 d3.ship, .int .i64 d3.segment, .bool d3.toward, .int .i64 d3.start, .int .i64 d3.stop] 34))).cell? ⟨w.heap.size + 2, 2, none⟩ = some (.bool d3.toward) ∧ ((((w.alloc (.cells #[.int .i64 d0.mean, .slice A0_1 d0.parts.length c0_1, .slice A0_2 d0.surges.length c0_2] 27)).alloc (.cells #[.slice A1_0 d1.points.length c1_0, .slice A1_1 d1.segs.length c1_1] 31)).alloc (.cells #[.int .i64 d3.ship, .int .i64 d3.segment, .bool d3.toward, .int .i64 d3.start, .int .i64 d3.stop] 34))).cell? ⟨w.heap.size + 2, 3, none⟩ = some (.int .i64 d3.start) ∧ ((((w.alloc (.cells #[.int .i64 d0.mean, .slice A0_1 d0.parts.length c0_1, .slice A0_2 d0.surges.length c0_2] 27)).alloc (.cells #[.slice A1_0 d1.points.length c1_0, .slice A1_1 d1.segs.length c1_1] 31)).alloc (.cells #[.int .i64 d3.ship, .int .i64 d3.segment, .bool d3.toward, .int .i64 d3.start, .int .i64 d3.stop] 34))).cell? ⟨w.heap.size + 2, 4, none⟩ = some (.int .i64 d3.stop) from by
    have hBk0 : Blk (((w.alloc (.cells #[.int .i64 d0.mean, .slice A0_1 d0.parts.length c0_1, .slice A0_2 d0.surges.length c0_2] 27)).alloc (.cells #[.slice A1_0 d1.points.length c1_0, .slice A1_1 d1.segs.length c1_1] 31)).alloc (.cells #[.int .i64 d3.ship, .int .i64 d3.segment, .bool d3.toward, .int .i64 d3.start, .int .i64 d3.stop] 34)) (w.heap.size + 2) #[.int .i64 d3.ship, .int .i64 d3.segment, .bool d3.toward, .int .i64 d3.start, .int .i64 d3.stop] 34 := Blk.newAt (w := ((w.alloc (.cells #[.int .i64 d0.mean, .slice A0_1 d0.parts.length c0_1, .slice A0_2 d0.surges.length c0_2] 27)).alloc (.cells #[.slice A1_0 d1.points.length c1_0, .slice A1_1 d1.segs.length c1_1] 31))) (by first | rfl | simp) _ _
    have hBk : Blk (((w.alloc (.cells #[.int .i64 d0.mean, .slice A0_1 d0.parts.length c0_1, .slice A0_2 d0.surges.length c0_2] 27)).alloc (.cells #[.slice A1_0 d1.points.length c1_0, .slice A1_1 d1.segs.length c1_1] 31)).alloc (.cells #[.int .i64 d3.ship, .int .i64 d3.segment, .bool d3.toward, .int .i64 d3.start, .int .i64 d3.stop] 34)) (w.heap.size + 2) #[.int .i64 d3.ship, .int .i64 d3.segment, .bool d3.toward, .int .i64 d3.start, .int .i64 d3.stop] 34 := hBk0.below (by repeat (first | exact Below.refl _ _ | refine Below.alloc ?_ (by simp) _))
    exact ⟨hBk.cell 0, hBk.cell 1, hBk.cell 2, hBk.cell 3, hBk.cell 4⟩)
  obtain ⟨r0, hr0⟩ : ∃ r0, (safeB d0 d1 l2 d3) = r0 := ⟨_, rfl⟩
  have HR0 := Lib.hid hr0
  clear hr0
  -- left := 1 << 20
  -- left = szForecast(aF, left)
  have y0_0 : ((((w.alloc (.cells #[.int .i64 d0.mean, .slice A0_1 d0.parts.length c0_1, .slice A0_2 d0.surges.length c0_2] 27)).alloc (.cells #[.slice A1_0 d1.points.length c1_0, .slice A1_1 d1.segs.length c1_1] 31)).alloc (.cells #[.int .i64 d3.ship, .int .i64 d3.segment, .bool d3.toward, .int .i64 d3.start, .int .i64 d3.stop] 34))).cell? ⟨w.heap.size, 0, none⟩ = some (.int .i64 d0.mean) := cell_onV (ABX0.out.1) B0.out
  have y0_1 : ((((w.alloc (.cells #[.int .i64 d0.mean, .slice A0_1 d0.parts.length c0_1, .slice A0_2 d0.surges.length c0_2] 27)).alloc (.cells #[.slice A1_0 d1.points.length c1_0, .slice A1_1 d1.segs.length c1_1] 31)).alloc (.cells #[.int .i64 d3.ship, .int .i64 d3.segment, .bool d3.toward, .int .i64 d3.start, .int .i64 d3.stop] 34))).cell? ⟨w.heap.size, 1, none⟩ = some (.slice A0_1 d0.parts.length c0_1) := cell_onV (ABX0.out.2.1) B0.out
  have y0_2 : ((((w.alloc (.cells #[.int .i64 d0.mean, .slice A0_1 d0.parts.length c0_1, .slice A0_2 d0.surges.length c0_2] 27)).alloc (.cells #[.slice A1_0 d1.points.length c1_0, .slice A1_1 d1.segs.length c1_1] 31)).alloc (.cells #[.int .i64 d3.ship, .int .i64 d3.segment, .bool d3.toward, .int .i64 d3.start, .int .i64 d3.stop] 34))).cell? ⟨w.heap.size, 2, none⟩ = some (.slice A0_2 d0.surges.length c0_2) := cell_onV (ABX0.out.2.2) B0.out
  have hl1 : 0 ≤ (1048576 : Int) := by omega
  have hll1 : (1048576 : Int) ≤ 1048576 := by omega
  go_wp2_with fail
  refine (szForecastC_any _ _ _ _ d0 _ (SizForecast.below SZ0.out (BW.out.trans (B0.out.mono hs0))) (1048576) hl1 hll1).mono ?_
  rintro e w1 ⟨rfl, hb1⟩
  have B1 := Lib.hid (B0.out.trans (hb1.mono B0.out.size))
  have hz1 : ((((w.alloc (.cells #[.int .i64 d0.mean, .slice A0_1 d0.parts.length c0_1, .slice A0_2 d0.surges.length c0_2] 27)).alloc (.cells #[.slice A1_0 d1.points.length c1_0, .slice A1_1 d1.segs.length c1_1] 31)).alloc (.cells #[.int .i64 d3.ship, .int .i64 d3.segment, .bool d3.toward, .int .i64 d3.start, .int .i64 d3.stop] 34))).heap.size ≤ w1.heap.size := hb1.size
  clear hb1 y0_0 y0_1 y0_2
  by_cases neg1 : (1048576 : Int) < bulkForecast d0
  · rw [leftOf_no neg1]
    go_wp2
    go_ret
    exact ⟨rfl, BW.out.trans (B1.out.mono hs0)⟩
  rw [leftOf_yes neg1]
  have ne1 : ¬ (1048576 - bulkForecast d0 : Int) < 0 := by omega
  have le0 := bulkForecast_le d0
  have R0 : Hid (RdForecast w (.slice A0_1 d0.parts.length c0_1) (.slice A0_2 d0.surges.length c0_2) d0) := Lib.hid ⟨SS0_1.out (by omega), SS0_2.out (by omega)⟩
  -- left = szChart(aC, left)
  have y1_0 : (w1).cell? ⟨w.heap.size + 1, 0, none⟩ = some (.slice A1_0 d1.points.length c1_0) := cell_onV (ABX1.out.1) B1.out
  have y1_1 : (w1).cell? ⟨w.heap.size + 1, 1, none⟩ = some (.slice A1_1 d1.segs.length c1_1) := cell_onV (ABX1.out.2) B1.out
  have hl2 : 0 ≤ (1048576 - bulkForecast d0 : Int) := by omega
  have hll2 : (1048576 - bulkForecast d0 : Int) ≤ 1048576 := by omega
  go_wp2_with fail
  refine (szChart_any _ _ _ _ d1 _ (SizChart.below SZ1.out (BW.out.trans (B1.out.mono hs0))) (1048576 - bulkForecast d0) hl2 hll2).mono ?_
  rintro e w2 ⟨rfl, hb2⟩
  have B2 := Lib.hid (B1.out.trans (hb2.mono B1.out.size))
  have hz2 : (w1).heap.size ≤ w2.heap.size := hb2.size
  clear hb2 y1_0 y1_1
  by_cases neg2 : (1048576 - bulkForecast d0 : Int) < bulkChart d1
  · rw [leftOf_no neg2]
    go_wp2
    go_ret
    exact ⟨rfl, BW.out.trans (B2.out.mono hs0)⟩
  rw [leftOf_yes neg2]
  have ne2 : ¬ (1048576 - bulkForecast d0 - bulkChart d1 : Int) < 0 := by omega
  have le1 := bulkChart_le d1
  have R1 : Hid (RdChart w (.slice A1_0 d1.points.length c1_0) (.slice A1_1 d1.segs.length c1_1) d1) := Lib.hid ⟨SS1_0.out (by omega), SS1_1.out (by omega)⟩
  -- left = szShipS(aFleet, left)
  have hl3 : 0 ≤ (1048576 - bulkForecast d0 - bulkChart d1 : Int) := by omega
  have hll3 : (1048576 - bulkForecast d0 - bulkChart d1 : Int) ≤ 1048576 := by omega
  go_wp2_with fail
  refine (szShipS_any A2 l2 c2 _ (by omega) (fun h => (SS2.out h).below (BW.out.trans (B2.out.mono hs0))) (fun x hx => wfszShip (FF2.out x hx)) (1048576 - bulkForecast d0 - bulkChart d1) hl3 hll3).mono ?_
  rintro e w3 ⟨rfl, hb3⟩
  have B3 := Lib.hid (B2.out.trans (hb3.mono B2.out.size))
  have hz3 : (w2).heap.size ≤ w3.heap.size := hb3.size
  clear hb3 
  have ps3 := bulkShip_pos l2
  by_cases neg3 : (1048576 - bulkForecast d0 - bulkChart d1 : Int) < ((l2.length : Int) + bulkShip l2)
  · rw [leftOf_no neg3]
    go_wp2
    go_ret
    exact ⟨rfl, BW.out.trans (B3.out.mono hs0)⟩
  rw [leftOf_yes neg3]
  have ne3 : ¬ (1048576 - bulkForecast d0 - bulkChart d1 - ((l2.length : Int) + bulkShip l2) : Int) < 0 := by omega
  have R2 := Lib.hid (SS2.out (by omega))
  clear SS2
  -- w0 := spec.IsSafePassage(toForecast(aF), toChart(aC), toShipS(aFleet), toPassage(aP))
  have y0_0 : (w3).cell? ⟨w.heap.size, 0, none⟩ = some (.int .i64 d0.mean) := cell_onV (ABX0.out.1) B3.out
  have y0_1 : (w3).cell? ⟨w.heap.size, 1, none⟩ = some (.slice A0_1 d0.parts.length c0_1) := cell_onV (ABX0.out.2.1) B3.out
  have y0_2 : (w3).cell? ⟨w.heap.size, 2, none⟩ = some (.slice A0_2 d0.surges.length c0_2) := cell_onV (ABX0.out.2.2) B3.out
  have y1_0 : (w3).cell? ⟨w.heap.size + 1, 0, none⟩ = some (.slice A1_0 d1.points.length c1_0) := cell_onV (ABX1.out.1) B3.out
  have y1_1 : (w3).cell? ⟨w.heap.size + 1, 1, none⟩ = some (.slice A1_1 d1.segs.length c1_1) := cell_onV (ABX1.out.2) B3.out
  have y3_0 : (w3).cell? ⟨w.heap.size + 2, 0, none⟩ = some (.int .i64 d3.ship) := cell_onV (ABX3.out.1) B3.out
  have y3_1 : (w3).cell? ⟨w.heap.size + 2, 1, none⟩ = some (.int .i64 d3.segment) := cell_onV (ABX3.out.2.1) B3.out
  have y3_2 : (w3).cell? ⟨w.heap.size + 2, 2, none⟩ = some (.bool d3.toward) := cell_onV (ABX3.out.2.2.1) B3.out
  have y3_3 : (w3).cell? ⟨w.heap.size + 2, 3, none⟩ = some (.int .i64 d3.start) := cell_onV (ABX3.out.2.2.2.1) B3.out
  have y3_4 : (w3).cell? ⟨w.heap.size + 2, 4, none⟩ = some (.int .i64 d3.stop) := cell_onV (ABX3.out.2.2.2.2) B3.out
  have DD := Lib.hid ((Below.refl (w3).heap.size (w3)).drew)
  go_upto_region 11 with fail
  go_cut [10] (fun sL wx => sL = .bool r0 ∧ Hid (Below (w3).heap.size (w3) wx))
  case first =>
    refine wp_region_held_drew (S := (fun w' => w'.cell? ⟨w.heap.size, 0, none⟩ = some (.int .i64 d0.mean) ∧ w'.cell? ⟨w.heap.size, 1, none⟩ = some (.slice A0_1 d0.parts.length c0_1) ∧ w'.cell? ⟨w.heap.size, 2, none⟩ = some (.slice A0_2 d0.surges.length c0_2) ∧ w'.cell? ⟨w.heap.size + 1, 0, none⟩ = some (.slice A1_0 d1.points.length c1_0) ∧ w'.cell? ⟨w.heap.size + 1, 1, none⟩ = some (.slice A1_1 d1.segs.length c1_1) ∧ w'.cell? ⟨w.heap.size + 2, 0, none⟩ = some (.int .i64 d3.ship) ∧ w'.cell? ⟨w.heap.size + 2, 1, none⟩ = some (.int .i64 d3.segment) ∧ w'.cell? ⟨w.heap.size + 2, 2, none⟩ = some (.bool d3.toward) ∧ w'.cell? ⟨w.heap.size + 2, 3, none⟩ = some (.int .i64 d3.start) ∧ w'.cell? ⟨w.heap.size + 2, 4, none⟩ = some (.int .i64 d3.stop) ∧ Hid (Below (w3).heap.size (w3) w'))) (by kernel_rfl) ?_ (fun hHeld => ?_)
    · (try dsimp only); go_keep
    refine wpAnyH_take (i := 0) (v := ?_) (by simp only [List.getElem?_toArray, List.getElem?_cons_zero]; rfl) (by kernel_rfl) (by kernel_rfl) (by kernel_rfl) (by exact fun _ _ _ h => h) (Or.inl ⟨by rfl, ?_⟩) (by assumption) ?_; rotate_left; focus (intro w hSw; (try dsimp only at hSw); first | (go_simp; done) | (go_simp; with_reducible rfl))
    try simp only [Act.put, List.setIfInBounds_toArray, List.set_cons_zero, List.set_cons_succ]
    refine wpAnyH_take (i := 2) (v := ?_) (by simp only [List.getElem?_toArray, List.getElem?_cons_succ, List.getElem?_cons_zero]; rfl) (by kernel_rfl) (by kernel_rfl) (by kernel_rfl) (by exact fun _ _ _ h => h) (Or.inl ⟨by rfl, ?_⟩) (by assumption) ?_; rotate_left; focus (intro w hSw; (try dsimp only at hSw); first | (go_simp; done) | (go_simp; with_reducible rfl))
    try simp only [Act.put, List.setIfInBounds_toArray, List.set_cons_zero, List.set_cons_succ]
    refine wpAnyH_take (i := 4) (v := ?_) (by simp only [List.getElem?_toArray, List.getElem?_cons_succ, List.getElem?_cons_zero]; rfl) (by kernel_rfl) (by kernel_rfl) (by kernel_rfl) (by exact fun _ _ _ h => h) (Or.inl ⟨by rfl, ?_⟩) (by assumption) ?_; rotate_left; focus (intro w hSw; (try dsimp only at hSw); first | (go_simp; done) | (go_simp; with_reducible rfl))
    try simp only [Act.put, List.setIfInBounds_toArray, List.set_cons_zero, List.set_cons_succ]
    refine wpAnyH_take (i := 6) (v := ?_) (by simp only [List.getElem?_toArray, List.getElem?_cons_succ, List.getElem?_cons_zero]; rfl) (by kernel_rfl) (by kernel_rfl) (by kernel_rfl) (by exact fun _ _ _ h => h) (Or.inl ⟨by rfl, ?_⟩) (by assumption) ?_; rotate_left; focus (intro w hSw; (try dsimp only at hSw); first | (go_simp; done) | (go_simp; with_reducible rfl))
    try simp only [Act.put, List.setIfInBounds_toArray, List.set_cons_zero, List.set_cons_succ]
    refine wpAnyH_ready (rs := [1]) (by kernel_rfl) (by simp) ?_
    refine AllReadyH.cons rfl (fun K hK => ?_) AllReadyH.nil
    rw [if_pos (by rfl)]
    go_simp
    go_at_call 10
    have kB := hHeld.2.2.2.2.2.2.2.2.2.2
    refine (toForecastC_any _ _ d0 _ (R0.out.below (BW.out.trans ((B3.out.trans (kB.out.mono B3.out.size)).mono hs0)))).mono ?_
    intro e wt0 hN
    obtain ⟨Q0_1, q0_1, Q0_2, q0_2, rfl, hRD, hbk⟩ := hN.rd (by omega) (by omega)
    have HRD0 := Lib.hid hRD
    have HBK := kB.out.trans (hbk.mono kB.out.size)
    have QS0 := Lib.hid (show wt0.cell? ⟨w.heap.size, 0, none⟩ = some (.int .i64 d0.mean) ∧ wt0.cell? ⟨w.heap.size, 1, none⟩ = some (.slice A0_1 d0.parts.length c0_1) ∧ wt0.cell? ⟨w.heap.size, 2, none⟩ = some (.slice A0_2 d0.surges.length c0_2) ∧ wt0.cell? ⟨w.heap.size + 1, 0, none⟩ = some (.slice A1_0 d1.points.length c1_0) ∧ wt0.cell? ⟨w.heap.size + 1, 1, none⟩ = some (.slice A1_1 d1.segs.length c1_1) ∧ wt0.cell? ⟨w.heap.size + 2, 0, none⟩ = some (.int .i64 d3.ship) ∧ wt0.cell? ⟨w.heap.size + 2, 1, none⟩ = some (.int .i64 d3.segment) ∧ wt0.cell? ⟨w.heap.size + 2, 2, none⟩ = some (.bool d3.toward) ∧ wt0.cell? ⟨w.heap.size + 2, 3, none⟩ = some (.int .i64 d3.start) ∧ wt0.cell? ⟨w.heap.size + 2, 4, none⟩ = some (.int .i64 d3.stop) ∧ Hid (Below (w3).heap.size (w3) wt0) from ⟨cell_onV (cell_onV (ABX0.out.1) B3.out) HBK, cell_onV (cell_onV (ABX0.out.2.1) B3.out) HBK, cell_onV (cell_onV (ABX0.out.2.2) B3.out) HBK, cell_onV (cell_onV (ABX1.out.1) B3.out) HBK, cell_onV (cell_onV (ABX1.out.2) B3.out) HBK, cell_onV (cell_onV (ABX3.out.1) B3.out) HBK, cell_onV (cell_onV (ABX3.out.2.1) B3.out) HBK, cell_onV (cell_onV (ABX3.out.2.2.1) B3.out) HBK, cell_onV (cell_onV (ABX3.out.2.2.2.1) B3.out) HBK, cell_onV (cell_onV (ABX3.out.2.2.2.2) B3.out) HBK, Lib.hid HBK⟩)
    clear hbk kB hHeld hN hRD HBK
    go_simp
    refine hK.out _ _ ?_ (fun hHeld => ?_)
    · (try dsimp only); exact QS0.out
    clear hK K
    try simp only [Act.put, List.setIfInBounds_toArray, List.set_cons_zero, List.set_cons_succ]
    refine wpAnyH_ready (rs := [3]) (by kernel_rfl) (by simp) ?_
    refine AllReadyH.cons rfl (fun K hK => ?_) AllReadyH.nil
    rw [if_pos (by rfl)]
    go_simp
    go_at_call 11
    have kB := hHeld.2.2.2.2.2.2.2.2.2.2
    refine (toChart_any _ _ d1 _ (R1.out.below (BW.out.trans ((B3.out.trans (kB.out.mono B3.out.size)).mono hs0)))).mono ?_
    intro e wt1 hN
    obtain ⟨Q1_0, q1_0, Q1_1, q1_1, rfl, hRD, hbk⟩ := hN.rd (by omega) (by omega)
    have HRD0' := Lib.hid (HRD0.out.below hbk)
    clear HRD0
    have HRD0 := HRD0'
    clear HRD0'
    have HRD1 := Lib.hid hRD
    have HBK := kB.out.trans (hbk.mono kB.out.size)
    have QS1 := Lib.hid (show wt1.cell? ⟨w.heap.size, 0, none⟩ = some (.int .i64 d0.mean) ∧ wt1.cell? ⟨w.heap.size, 1, none⟩ = some (.slice A0_1 d0.parts.length c0_1) ∧ wt1.cell? ⟨w.heap.size, 2, none⟩ = some (.slice A0_2 d0.surges.length c0_2) ∧ wt1.cell? ⟨w.heap.size + 1, 0, none⟩ = some (.slice A1_0 d1.points.length c1_0) ∧ wt1.cell? ⟨w.heap.size + 1, 1, none⟩ = some (.slice A1_1 d1.segs.length c1_1) ∧ wt1.cell? ⟨w.heap.size + 2, 0, none⟩ = some (.int .i64 d3.ship) ∧ wt1.cell? ⟨w.heap.size + 2, 1, none⟩ = some (.int .i64 d3.segment) ∧ wt1.cell? ⟨w.heap.size + 2, 2, none⟩ = some (.bool d3.toward) ∧ wt1.cell? ⟨w.heap.size + 2, 3, none⟩ = some (.int .i64 d3.start) ∧ wt1.cell? ⟨w.heap.size + 2, 4, none⟩ = some (.int .i64 d3.stop) ∧ Hid (Below (w3).heap.size (w3) wt1) from ⟨cell_onV (cell_onV (ABX0.out.1) B3.out) HBK, cell_onV (cell_onV (ABX0.out.2.1) B3.out) HBK, cell_onV (cell_onV (ABX0.out.2.2) B3.out) HBK, cell_onV (cell_onV (ABX1.out.1) B3.out) HBK, cell_onV (cell_onV (ABX1.out.2) B3.out) HBK, cell_onV (cell_onV (ABX3.out.1) B3.out) HBK, cell_onV (cell_onV (ABX3.out.2.1) B3.out) HBK, cell_onV (cell_onV (ABX3.out.2.2.1) B3.out) HBK, cell_onV (cell_onV (ABX3.out.2.2.2.1) B3.out) HBK, cell_onV (cell_onV (ABX3.out.2.2.2.2) B3.out) HBK, Lib.hid HBK⟩)
    clear hbk kB hHeld hN hRD HBK
    go_simp
    refine hK.out _ _ ?_ (fun hHeld => ?_)
    · (try dsimp only); exact QS1.out
    clear hK K
    try simp only [Act.put, List.setIfInBounds_toArray, List.set_cons_zero, List.set_cons_succ]
    refine wpAnyH_ready (rs := [5]) (by kernel_rfl) (by simp) ?_
    refine AllReadyH.cons rfl (fun K hK => ?_) AllReadyH.nil
    rw [if_pos (by rfl)]
    go_simp
    go_at_call 12
    have kB := hHeld.2.2.2.2.2.2.2.2.2.2
    refine (toShipS_any _ l2 _ (R2.out.below (BW.out.trans ((B3.out.trans (kB.out.mono B3.out.size)).mono hs0)))).mono ?_
    rintro e wt2 ⟨uz2, rfl, oz2, hbk⟩
    have hRD := OwnShip.sl oz2 (by omega)
    obtain ⟨Dz2, kz2, rfl⟩ := own_form oz2
    have HRD0' := Lib.hid (HRD0.out.below hbk)
    clear HRD0
    have HRD0 := HRD0'
    clear HRD0'
    have HRD1' := Lib.hid (HRD1.out.below hbk)
    clear HRD1
    have HRD1 := HRD1'
    clear HRD1'
    have HRD2 := Lib.hid hRD
    have HBK := kB.out.trans (hbk.mono kB.out.size)
    have QS2 := Lib.hid (show wt2.cell? ⟨w.heap.size, 0, none⟩ = some (.int .i64 d0.mean) ∧ wt2.cell? ⟨w.heap.size, 1, none⟩ = some (.slice A0_1 d0.parts.length c0_1) ∧ wt2.cell? ⟨w.heap.size, 2, none⟩ = some (.slice A0_2 d0.surges.length c0_2) ∧ wt2.cell? ⟨w.heap.size + 1, 0, none⟩ = some (.slice A1_0 d1.points.length c1_0) ∧ wt2.cell? ⟨w.heap.size + 1, 1, none⟩ = some (.slice A1_1 d1.segs.length c1_1) ∧ wt2.cell? ⟨w.heap.size + 2, 0, none⟩ = some (.int .i64 d3.ship) ∧ wt2.cell? ⟨w.heap.size + 2, 1, none⟩ = some (.int .i64 d3.segment) ∧ wt2.cell? ⟨w.heap.size + 2, 2, none⟩ = some (.bool d3.toward) ∧ wt2.cell? ⟨w.heap.size + 2, 3, none⟩ = some (.int .i64 d3.start) ∧ wt2.cell? ⟨w.heap.size + 2, 4, none⟩ = some (.int .i64 d3.stop) ∧ Hid (Below (w3).heap.size (w3) wt2) from ⟨cell_onV (cell_onV (ABX0.out.1) B3.out) HBK, cell_onV (cell_onV (ABX0.out.2.1) B3.out) HBK, cell_onV (cell_onV (ABX0.out.2.2) B3.out) HBK, cell_onV (cell_onV (ABX1.out.1) B3.out) HBK, cell_onV (cell_onV (ABX1.out.2) B3.out) HBK, cell_onV (cell_onV (ABX3.out.1) B3.out) HBK, cell_onV (cell_onV (ABX3.out.2.1) B3.out) HBK, cell_onV (cell_onV (ABX3.out.2.2.1) B3.out) HBK, cell_onV (cell_onV (ABX3.out.2.2.2.1) B3.out) HBK, cell_onV (cell_onV (ABX3.out.2.2.2.2) B3.out) HBK, Lib.hid HBK⟩)
    clear hbk kB hHeld oz2 hRD HBK
    go_simp
    refine hK.out _ _ ?_ (fun hHeld => ?_)
    · (try dsimp only); exact QS2.out
    clear hK K
    try simp only [Act.put, List.setIfInBounds_toArray, List.set_cons_zero, List.set_cons_succ]
    refine wpAnyH_ready (rs := [7]) (by kernel_rfl) (by simp) ?_
    refine AllReadyH.cons rfl (fun K hK => ?_) AllReadyH.nil
    rw [if_pos (by rfl)]
    go_simp
    go_at_call 13
    have kB := hHeld.2.2.2.2.2.2.2.2.2.2
    refine (toPassage_any d3.ship d3.segment d3.toward d3.start d3.stop _).mono ?_
    rintro e wt3 ⟨rfl, hbk⟩
    have HRD0' := Lib.hid (HRD0.out.below hbk)
    clear HRD0
    have HRD0 := HRD0'
    clear HRD0'
    have HRD1' := Lib.hid (HRD1.out.below hbk)
    clear HRD1
    have HRD1 := HRD1'
    clear HRD1'
    have HRD2' := Lib.hid (HRD2.out.below hbk)
    clear HRD2
    have HRD2 := HRD2'
    clear HRD2'
    have HBK := kB.out.trans (hbk.mono kB.out.size)
    have QS3 := Lib.hid (show wt3.cell? ⟨w.heap.size, 0, none⟩ = some (.int .i64 d0.mean) ∧ wt3.cell? ⟨w.heap.size, 1, none⟩ = some (.slice A0_1 d0.parts.length c0_1) ∧ wt3.cell? ⟨w.heap.size, 2, none⟩ = some (.slice A0_2 d0.surges.length c0_2) ∧ wt3.cell? ⟨w.heap.size + 1, 0, none⟩ = some (.slice A1_0 d1.points.length c1_0) ∧ wt3.cell? ⟨w.heap.size + 1, 1, none⟩ = some (.slice A1_1 d1.segs.length c1_1) ∧ wt3.cell? ⟨w.heap.size + 2, 0, none⟩ = some (.int .i64 d3.ship) ∧ wt3.cell? ⟨w.heap.size + 2, 1, none⟩ = some (.int .i64 d3.segment) ∧ wt3.cell? ⟨w.heap.size + 2, 2, none⟩ = some (.bool d3.toward) ∧ wt3.cell? ⟨w.heap.size + 2, 3, none⟩ = some (.int .i64 d3.start) ∧ wt3.cell? ⟨w.heap.size + 2, 4, none⟩ = some (.int .i64 d3.stop) ∧ Hid (Below (w3).heap.size (w3) wt3) from ⟨cell_onV (cell_onV (ABX0.out.1) B3.out) HBK, cell_onV (cell_onV (ABX0.out.2.1) B3.out) HBK, cell_onV (cell_onV (ABX0.out.2.2) B3.out) HBK, cell_onV (cell_onV (ABX1.out.1) B3.out) HBK, cell_onV (cell_onV (ABX1.out.2) B3.out) HBK, cell_onV (cell_onV (ABX3.out.1) B3.out) HBK, cell_onV (cell_onV (ABX3.out.2.1) B3.out) HBK, cell_onV (cell_onV (ABX3.out.2.2.1) B3.out) HBK, cell_onV (cell_onV (ABX3.out.2.2.2.1) B3.out) HBK, cell_onV (cell_onV (ABX3.out.2.2.2.2) B3.out) HBK, Lib.hid HBK⟩)
    clear hbk kB hHeld HBK
    go_simp
    refine hK.out _ _ ?_ (fun hHeld => ?_)
    · (try dsimp only); exact QS3.out
    clear hK K
    try simp only [Act.put, List.setIfInBounds_toArray, List.set_cons_zero, List.set_cons_succ]
    refine wpAnyH_ready (rs := [8]) (by kernel_rfl) (by simp) ?_
    refine AllReadyH.cons rfl (fun K hK => ?_) AllReadyH.nil
    rw [if_pos (by rfl)]
    go_simp
    go_at_call 9
    have kB := hHeld.2.2.2.2.2.2.2.2.2.2
    refine (specIsSafePassage _ _ d0 _ _ d1 _ l2 d3 _ HRD0.out HRD1.out HRD2.out WF1_0.out FF2.out).mono ?_
    rw [HR0.out]
    rintro e wq ⟨rfl, hbk⟩
    have HBK := kB.out.trans (hbk.mono kB.out.size)
    have QQ := Lib.hid (show wq.cell? ⟨w.heap.size, 0, none⟩ = some (.int .i64 d0.mean) ∧ wq.cell? ⟨w.heap.size, 1, none⟩ = some (.slice A0_1 d0.parts.length c0_1) ∧ wq.cell? ⟨w.heap.size, 2, none⟩ = some (.slice A0_2 d0.surges.length c0_2) ∧ wq.cell? ⟨w.heap.size + 1, 0, none⟩ = some (.slice A1_0 d1.points.length c1_0) ∧ wq.cell? ⟨w.heap.size + 1, 1, none⟩ = some (.slice A1_1 d1.segs.length c1_1) ∧ wq.cell? ⟨w.heap.size + 2, 0, none⟩ = some (.int .i64 d3.ship) ∧ wq.cell? ⟨w.heap.size + 2, 1, none⟩ = some (.int .i64 d3.segment) ∧ wq.cell? ⟨w.heap.size + 2, 2, none⟩ = some (.bool d3.toward) ∧ wq.cell? ⟨w.heap.size + 2, 3, none⟩ = some (.int .i64 d3.start) ∧ wq.cell? ⟨w.heap.size + 2, 4, none⟩ = some (.int .i64 d3.stop) ∧ Hid (Below (w3).heap.size (w3) wq) from ⟨cell_onV (cell_onV (ABX0.out.1) B3.out) HBK, cell_onV (cell_onV (ABX0.out.2.1) B3.out) HBK, cell_onV (cell_onV (ABX0.out.2.2) B3.out) HBK, cell_onV (cell_onV (ABX1.out.1) B3.out) HBK, cell_onV (cell_onV (ABX1.out.2) B3.out) HBK, cell_onV (cell_onV (ABX3.out.1) B3.out) HBK, cell_onV (cell_onV (ABX3.out.2.1) B3.out) HBK, cell_onV (cell_onV (ABX3.out.2.2.1) B3.out) HBK, cell_onV (cell_onV (ABX3.out.2.2.2.1) B3.out) HBK, cell_onV (cell_onV (ABX3.out.2.2.2.2) B3.out) HBK, Lib.hid HBK⟩)
    clear hbk kB hHeld HBK
    go_simp
    refine hK.out _ _ ?_ (fun hHeld => ?_)
    · (try dsimp only); exact QQ.out
    clear hK K
    try simp only [Act.put, List.setIfInBounds_toArray, List.set_cons_zero, List.set_cons_succ]
    refine wpAnyH_take (i := 9) (v := ?_) (by simp only [List.getElem?_toArray, List.getElem?_cons_succ, List.getElem?_cons_zero]; rfl) (by kernel_rfl) (by kernel_rfl) (by kernel_rfl) (by exact fun _ _ _ h => h) (Or.inl ⟨by rfl, ?_⟩) (by assumption) ?_; rotate_left; focus (intro w hSw; (try dsimp only at hSw); first | (go_simp; done) | (go_simp; with_reducible rfl))
    try simp only [Act.put, List.setIfInBounds_toArray, List.set_cons_zero, List.set_cons_succ]
    refine wpAnyH_done (by kernel_rfl) ?_ _
    go_wp2_with fail
    go_meet
    exact ⟨rfl, hHeld.2.2.2.2.2.2.2.2.2.2⟩
  case rest =>
    obtain ⟨rfl, hbH⟩ := hcut
    have hb4 := hbH.out
    obtain ⟨w4, rfl⟩ : ∃ W, W = wc := ⟨_, rfl⟩
    clear hbH DD y0_0 y0_1 y0_2 y1_0 y1_1 y3_0 y3_1 y3_2 y3_3 y3_4 
    have B4 := Lib.hid (B3.out.trans (hb4.mono B3.out.size))
    have hz4 : (w3).heap.size ≤ w4.heap.size := hb4.size
    clear hb4
    -- x0 := toForecast(aF)
    have y0_0 : (w4).cell? ⟨w.heap.size, 0, none⟩ = some (.int .i64 d0.mean) := cell_onV (ABX0.out.1) B4.out
    have y0_1 : (w4).cell? ⟨w.heap.size, 1, none⟩ = some (.slice A0_1 d0.parts.length c0_1) := cell_onV (ABX0.out.2.1) B4.out
    have y0_2 : (w4).cell? ⟨w.heap.size, 2, none⟩ = some (.slice A0_2 d0.surges.length c0_2) := cell_onV (ABX0.out.2.2) B4.out
    go_wp2_with fail
    refine (toForecastC_any _ _ d0 _ (R0.out.below (BW.out.trans (B4.out.mono hs0)))).mono ?_
    intro e w5 hN
    obtain ⟨u5_1, u5_2, rfl, o5_1, o5_2, ap5_1_2, hb5⟩ := hN
    have S5_1 := Lib.hid (OwnPart.sl o5_1 (by omega))
    have RG5_1 := Lib.hid (own_range o5_1)
    have FR5_1 := Lib.hid (own_freeV o5_1)
    obtain ⟨D5_1, k5_1, rfl⟩ := own_form o5_1
    have S5_2 := Lib.hid (OwnSurge.sl o5_2 (by omega))
    have RG5_2 := Lib.hid (own_range o5_2)
    have FR5_2 := Lib.hid (own_freeV o5_2)
    obtain ⟨D5_2, k5_2, rfl⟩ := own_form o5_2
    have AP5_1_2 := Lib.hid ap5_1_2
    clear ap5_1_2
    have B5 := Lib.hid (B4.out.trans (hb5.mono B4.out.size))
    have hz5 : (w4).heap.size ≤ w5.heap.size := hb5.size
    clear hb5 o5_1 o5_2 y0_0 y0_1 y0_2
    have BX_x0 := Lib.hid (ForecastBox.new 44 (show RdForecast w5 (.slice D5_1 d0.parts.length k5_1) (.slice D5_2 d0.surges.length k5_2) d0 from ⟨S5_1.out, S5_2.out⟩))
    have hb5b := Joins.below_alloc1 w5 (.cells #[.int .i64 d0.mean, .slice D5_1 d0.parts.length k5_1, .slice D5_2 d0.surges.length k5_2] 44)
    have B5x := Lib.hid (B5.out.trans (hb5b.mono B5.out.size))
    have FX_x0_1 := Lib.hid (FR5_1.out.below hb5b)
    have FX_x0_2 := Lib.hid (FR5_2.out.below hb5b)
    clear hb5b
    have hsx5 : ((w5.alloc (.cells #[.int .i64 d0.mean, .slice D5_1 d0.parts.length k5_1, .slice D5_2 d0.surges.length k5_2] 44))).heap.size = w5.heap.size + 1 := by simp
    -- x1 := toChart(aC)
    have y1_0 : ((w5.alloc (.cells #[.int .i64 d0.mean, .slice D5_1 d0.parts.length k5_1, .slice D5_2 d0.surges.length k5_2] 44))).cell? ⟨w.heap.size + 1, 0, none⟩ = some (.slice A1_0 d1.points.length c1_0) := cell_onV (ABX1.out.1) B5x.out
    have y1_1 : ((w5.alloc (.cells #[.int .i64 d0.mean, .slice D5_1 d0.parts.length k5_1, .slice D5_2 d0.surges.length k5_2] 44))).cell? ⟨w.heap.size + 1, 1, none⟩ = some (.slice A1_1 d1.segs.length c1_1) := cell_onV (ABX1.out.2) B5x.out
    go_wp2_with fail
    refine (toChart_any _ _ d1 _ (R1.out.below (BW.out.trans (B5x.out.mono hs0)))).mono ?_
    intro e w6 hN
    obtain ⟨u6_0, u6_1, rfl, o6_0, o6_1, ap6_0_1, hb6⟩ := hN
    have S6_0 := Lib.hid (OwnPoint.sl o6_0 (by omega))
    have RG6_0 := Lib.hid (own_range o6_0)
    have FR6_0 := Lib.hid (own_freeV o6_0)
    obtain ⟨D6_0, k6_0, rfl⟩ := own_form o6_0
    have S6_1 := Lib.hid (OwnSegment.sl o6_1 (by omega))
    have RG6_1 := Lib.hid (own_range o6_1)
    have FR6_1 := Lib.hid (own_freeV o6_1)
    obtain ⟨D6_1, k6_1, rfl⟩ := own_form o6_1
    have AP6_0_1 := Lib.hid ap6_0_1
    clear ap6_0_1
    have B6 := Lib.hid (B5x.out.trans (hb6.mono B5x.out.size))
    have x0_6 := Lib.hid (BX_x0.out.below hb6)
    have x0F1_6 := Lib.hid (FX_x0_1.out.below hb6)
    have x0F2_6 := Lib.hid (FX_x0_2.out.below hb6)
    have hz6 : ((w5.alloc (.cells #[.int .i64 d0.mean, .slice D5_1 d0.parts.length k5_1, .slice D5_2 d0.surges.length k5_2] 44))).heap.size ≤ w6.heap.size := hb6.size
    clear hb6 o6_0 o6_1 y1_0 y1_1
    have BX_x1 := Lib.hid (ChartBox.new 49 (show RdChart w6 (.slice D6_0 d1.points.length k6_0) (.slice D6_1 d1.segs.length k6_1) d1 from ⟨S6_0.out, S6_1.out⟩))
    have hb6b := Joins.below_alloc1 w6 (.cells #[.slice D6_0 d1.points.length k6_0, .slice D6_1 d1.segs.length k6_1] 49)
    have B6x := Lib.hid (B6.out.trans (hb6b.mono B6.out.size))
    have x0_6x := Lib.hid (x0_6.out.below hb6b)
    have x0F1_6x := Lib.hid (x0F1_6.out.below hb6b)
    have x0F2_6x := Lib.hid (x0F2_6.out.below hb6b)
    have FX_x1_0 := Lib.hid (FR6_0.out.below hb6b)
    have FX_x1_1 := Lib.hid (FR6_1.out.below hb6b)
    clear hb6b
    have hsx6 : ((w6.alloc (.cells #[.slice D6_0 d1.points.length k6_0, .slice D6_1 d1.segs.length k6_1] 49))).heap.size = w6.heap.size + 1 := by simp
    -- x2 := toShipS(aFleet)
    go_wp2_with fail
    refine (toShipS_any _ l2 _ (R2.out.below (BW.out.trans (B6x.out.mono hs0)))).mono ?_
    rintro e w7 ⟨u7, rfl, o7, hb7⟩
    have S7 := Lib.hid (OwnShip.sl o7 (by omega))
    have RG7 := Lib.hid (own_range o7)
    have FR7 := Lib.hid (own_freeV o7)
    obtain ⟨D7, k7, rfl⟩ := own_form o7
    have B7 := Lib.hid (B6x.out.trans (hb7.mono B6x.out.size))
    have x0_7 := Lib.hid (x0_6x.out.below hb7)
    have x0F1_7 := Lib.hid (x0F1_6x.out.below hb7)
    have x0F2_7 := Lib.hid (x0F2_6x.out.below hb7)
    have x1_7 := Lib.hid (BX_x1.out.below hb7)
    have x1F0_7 := Lib.hid (FX_x1_0.out.below hb7)
    have x1F1_7 := Lib.hid (FX_x1_1.out.below hb7)
    have hz7 : ((w6.alloc (.cells #[.slice D6_0 d1.points.length k6_0, .slice D6_1 d1.segs.length k6_1] 49))).heap.size ≤ w7.heap.size := hb7.size
    clear hb7 o7
    -- g0 := impl.IsSafePassage(x0, x1, x2, toPassage(aP))
    have y3_0 : (w7).cell? ⟨w.heap.size + 2, 0, none⟩ = some (.int .i64 d3.ship) := cell_onV (ABX3.out.1) B7.out
    have y3_1 : (w7).cell? ⟨w.heap.size + 2, 1, none⟩ = some (.int .i64 d3.segment) := cell_onV (ABX3.out.2.1) B7.out
    have y3_2 : (w7).cell? ⟨w.heap.size + 2, 2, none⟩ = some (.bool d3.toward) := cell_onV (ABX3.out.2.2.1) B7.out
    have y3_3 : (w7).cell? ⟨w.heap.size + 2, 3, none⟩ = some (.int .i64 d3.start) := cell_onV (ABX3.out.2.2.2.1) B7.out
    have y3_4 : (w7).cell? ⟨w.heap.size + 2, 4, none⟩ = some (.int .i64 d3.stop) := cell_onV (ABX3.out.2.2.2.2) B7.out
    obtain ⟨z_x0_0, z_x0_1, z_x0_2, _⟩ := x0_7.out
    obtain ⟨z_x1_0, z_x1_1, _⟩ := x1_7.out
    have DD := Lib.hid ((Below.refl (w7).heap.size (w7)).drew)
    go_upto_region 15 with fail
    go_cut [14] (fun sL wx => sL = .bool r0 ∧ Hid (Below (w7).heap.size (w7) wx))
    case first =>
      refine wp_region_held_drew (S := (fun w' => w'.cell? ⟨w5.heap.size, 0, none⟩ = some (.int .i64 d0.mean) ∧ w'.cell? ⟨w5.heap.size, 1, none⟩ = some (.slice D5_1 d0.parts.length k5_1) ∧ w'.cell? ⟨w5.heap.size, 2, none⟩ = some (.slice D5_2 d0.surges.length k5_2) ∧ w'.cell? ⟨w6.heap.size, 0, none⟩ = some (.slice D6_0 d1.points.length k6_0) ∧ w'.cell? ⟨w6.heap.size, 1, none⟩ = some (.slice D6_1 d1.segs.length k6_1) ∧ w'.cell? ⟨w.heap.size + 2, 0, none⟩ = some (.int .i64 d3.ship) ∧ w'.cell? ⟨w.heap.size + 2, 1, none⟩ = some (.int .i64 d3.segment) ∧ w'.cell? ⟨w.heap.size + 2, 2, none⟩ = some (.bool d3.toward) ∧ w'.cell? ⟨w.heap.size + 2, 3, none⟩ = some (.int .i64 d3.start) ∧ w'.cell? ⟨w.heap.size + 2, 4, none⟩ = some (.int .i64 d3.stop) ∧ Hid (Below (w7).heap.size (w7) w'))) (by kernel_rfl) ?_ (fun hHeld => ?_)
      · (try dsimp only); go_keep
      refine wpAnyH_take (i := 0) (v := ?_) (by simp only [List.getElem?_toArray, List.getElem?_cons_zero]; rfl) (by kernel_rfl) (by kernel_rfl) (by kernel_rfl) (by exact fun _ _ _ h => h) (Or.inl ⟨by rfl, ?_⟩) (by assumption) ?_; rotate_left; focus (intro w hSw; (try dsimp only at hSw); first | (go_simp; done) | (go_simp; with_reducible rfl))
      try simp only [Act.put, List.setIfInBounds_toArray, List.set_cons_zero, List.set_cons_succ]
      refine wpAnyH_take (i := 1) (v := ?_) (by simp only [List.getElem?_toArray, List.getElem?_cons_succ, List.getElem?_cons_zero]; rfl) (by kernel_rfl) (by kernel_rfl) (by kernel_rfl) (by exact fun _ _ _ h => h) (Or.inl ⟨by rfl, ?_⟩) (by assumption) ?_; rotate_left; focus (intro w hSw; (try dsimp only at hSw); first | (go_simp; done) | (go_simp; with_reducible rfl))
      try simp only [Act.put, List.setIfInBounds_toArray, List.set_cons_zero, List.set_cons_succ]
      refine wpAnyH_take (i := 2) (v := ?_) (by simp only [List.getElem?_toArray, List.getElem?_cons_succ, List.getElem?_cons_zero]; rfl) (by kernel_rfl) (by kernel_rfl) (by kernel_rfl) (by exact fun _ _ _ h => h) (Or.inl ⟨by rfl, ?_⟩) (by assumption) ?_; rotate_left; focus (intro w hSw; (try dsimp only at hSw); first | (go_simp; done) | (go_simp; with_reducible rfl))
      try simp only [Act.put, List.setIfInBounds_toArray, List.set_cons_zero, List.set_cons_succ]
      refine wpAnyH_take (i := 3) (v := ?_) (by simp only [List.getElem?_toArray, List.getElem?_cons_succ, List.getElem?_cons_zero]; rfl) (by kernel_rfl) (by kernel_rfl) (by kernel_rfl) (by exact fun _ _ _ h => h) (Or.inl ⟨by rfl, ?_⟩) (by assumption) ?_; rotate_left; focus (intro w hSw; (try dsimp only at hSw); first | (go_simp; done) | (go_simp; with_reducible rfl))
      try simp only [Act.put, List.setIfInBounds_toArray, List.set_cons_zero, List.set_cons_succ]
      refine wpAnyH_ready (rs := [4]) (by kernel_rfl) (by simp) ?_
      refine AllReadyH.cons rfl (fun K hK => ?_) AllReadyH.nil
      rw [if_pos (by rfl)]
      go_simp
      go_at_call 13
      have kB := hHeld.2.2.2.2.2.2.2.2.2.2
      refine (toPassage_any d3.ship d3.segment d3.toward d3.start d3.stop _).mono ?_
      rintro e wt0 ⟨rfl, hbk⟩
      have HBK := kB.out.trans (hbk.mono kB.out.size)
      have QS0 := Lib.hid (show wt0.cell? ⟨w5.heap.size, 0, none⟩ = some (.int .i64 d0.mean) ∧ wt0.cell? ⟨w5.heap.size, 1, none⟩ = some (.slice D5_1 d0.parts.length k5_1) ∧ wt0.cell? ⟨w5.heap.size, 2, none⟩ = some (.slice D5_2 d0.surges.length k5_2) ∧ wt0.cell? ⟨w6.heap.size, 0, none⟩ = some (.slice D6_0 d1.points.length k6_0) ∧ wt0.cell? ⟨w6.heap.size, 1, none⟩ = some (.slice D6_1 d1.segs.length k6_1) ∧ wt0.cell? ⟨w.heap.size + 2, 0, none⟩ = some (.int .i64 d3.ship) ∧ wt0.cell? ⟨w.heap.size + 2, 1, none⟩ = some (.int .i64 d3.segment) ∧ wt0.cell? ⟨w.heap.size + 2, 2, none⟩ = some (.bool d3.toward) ∧ wt0.cell? ⟨w.heap.size + 2, 3, none⟩ = some (.int .i64 d3.start) ∧ wt0.cell? ⟨w.heap.size + 2, 4, none⟩ = some (.int .i64 d3.stop) ∧ Hid (Below (w7).heap.size (w7) wt0) from ⟨(x0_7.out.below HBK).1, (x0_7.out.below HBK).2.1, (x0_7.out.below HBK).2.2.1, (x1_7.out.below HBK).1, (x1_7.out.below HBK).2.1, cell_onV (cell_onV (ABX3.out.1) B7.out) HBK, cell_onV (cell_onV (ABX3.out.2.1) B7.out) HBK, cell_onV (cell_onV (ABX3.out.2.2.1) B7.out) HBK, cell_onV (cell_onV (ABX3.out.2.2.2.1) B7.out) HBK, cell_onV (cell_onV (ABX3.out.2.2.2.2) B7.out) HBK, Lib.hid HBK⟩)
      clear hbk kB hHeld HBK
      go_simp
      refine hK.out _ _ ?_ (fun hHeld => ?_)
      · (try dsimp only); exact QS0.out
      clear hK K
      try simp only [Act.put, List.setIfInBounds_toArray, List.set_cons_zero, List.set_cons_succ]
      refine wpAnyH_ready (rs := [5]) (by kernel_rfl) (by simp) ?_
      refine AllReadyH.cons rfl (fun K hK => ?_) AllReadyH.nil
      rw [if_pos (by rfl)]
      go_simp
      go_at_call 14
      have kB := hHeld.2.2.2.2.2.2.2.2.2.2
      refine (implIsSafePassage _ _ d0 _ _ d1 _ l2 d3 _ (x0_7.out.below kB.out).2.2.2 (x1_7.out.below kB.out).2.2 (S7.out.below kB.out) WF1_0.out FF2.out).mono ?_
      rw [HR0.out]
      rintro e wq ⟨rfl, hbk⟩
      have HBK := kB.out.trans (hbk.mono kB.out.size)
      have QQ := Lib.hid (show wq.cell? ⟨w5.heap.size, 0, none⟩ = some (.int .i64 d0.mean) ∧ wq.cell? ⟨w5.heap.size, 1, none⟩ = some (.slice D5_1 d0.parts.length k5_1) ∧ wq.cell? ⟨w5.heap.size, 2, none⟩ = some (.slice D5_2 d0.surges.length k5_2) ∧ wq.cell? ⟨w6.heap.size, 0, none⟩ = some (.slice D6_0 d1.points.length k6_0) ∧ wq.cell? ⟨w6.heap.size, 1, none⟩ = some (.slice D6_1 d1.segs.length k6_1) ∧ wq.cell? ⟨w.heap.size + 2, 0, none⟩ = some (.int .i64 d3.ship) ∧ wq.cell? ⟨w.heap.size + 2, 1, none⟩ = some (.int .i64 d3.segment) ∧ wq.cell? ⟨w.heap.size + 2, 2, none⟩ = some (.bool d3.toward) ∧ wq.cell? ⟨w.heap.size + 2, 3, none⟩ = some (.int .i64 d3.start) ∧ wq.cell? ⟨w.heap.size + 2, 4, none⟩ = some (.int .i64 d3.stop) ∧ Hid (Below (w7).heap.size (w7) wq) from ⟨(x0_7.out.below HBK).1, (x0_7.out.below HBK).2.1, (x0_7.out.below HBK).2.2.1, (x1_7.out.below HBK).1, (x1_7.out.below HBK).2.1, cell_onV (cell_onV (ABX3.out.1) B7.out) HBK, cell_onV (cell_onV (ABX3.out.2.1) B7.out) HBK, cell_onV (cell_onV (ABX3.out.2.2.1) B7.out) HBK, cell_onV (cell_onV (ABX3.out.2.2.2.1) B7.out) HBK, cell_onV (cell_onV (ABX3.out.2.2.2.2) B7.out) HBK, Lib.hid HBK⟩)
      clear hbk kB hHeld HBK
      go_simp
      refine hK.out _ _ ?_ (fun hHeld => ?_)
      · (try dsimp only); exact QQ.out
      clear hK K
      try simp only [Act.put, List.setIfInBounds_toArray, List.set_cons_zero, List.set_cons_succ]
      refine wpAnyH_take (i := 6) (v := ?_) (by simp only [List.getElem?_toArray, List.getElem?_cons_succ, List.getElem?_cons_zero]; rfl) (by kernel_rfl) (by kernel_rfl) (by kernel_rfl) (by exact fun _ _ _ h => h) (Or.inl ⟨by rfl, ?_⟩) (by assumption) ?_; rotate_left; focus (intro w hSw; (try dsimp only at hSw); first | (go_simp; done) | (go_simp; with_reducible rfl))
      try simp only [Act.put, List.setIfInBounds_toArray, List.set_cons_zero, List.set_cons_succ]
      refine wpAnyH_done (by kernel_rfl) ?_ _
      go_wp2_with fail
      go_meet
      exact ⟨rfl, hHeld.2.2.2.2.2.2.2.2.2.2⟩
    case rest =>
      obtain ⟨rfl, hbH⟩ := hcut
      have hb8 := hbH.out
      obtain ⟨w8, rfl⟩ : ∃ W, W = wc := ⟨_, rfl⟩
      clear hbH DD y3_0 y3_1 y3_2 y3_3 y3_4 z_x0_0 z_x0_1 z_x0_2 z_x1_0 z_x1_1
      have B8 := Lib.hid (B7.out.trans (hb8.mono B7.out.size))
      have x0_8 := Lib.hid (x0_7.out.below hb8)
      have x0F1_8 := Lib.hid (x0F1_7.out.below hb8)
      have x0F2_8 := Lib.hid (x0F2_7.out.below hb8)
      have x1_8 := Lib.hid (x1_7.out.below hb8)
      have x1F0_8 := Lib.hid (x1F0_7.out.below hb8)
      have x1F1_8 := Lib.hid (x1F1_7.out.below hb8)
      have x2_8 := Lib.hid (S7.out.below hb8)
      have x2F_8 := Lib.hid (FR7.out.below hb8)
      have hz8 : (w7).heap.size ≤ w8.heap.size := hb8.size
      clear hb8
      -- if g0 != w0 {
      -- if !eqForecast(x0, toForecast(aF)) {
      have y0_0 : (w8).cell? ⟨w.heap.size, 0, none⟩ = some (.int .i64 d0.mean) := cell_onV (ABX0.out.1) B8.out
      have y0_1 : (w8).cell? ⟨w.heap.size, 1, none⟩ = some (.slice A0_1 d0.parts.length c0_1) := cell_onV (ABX0.out.2.1) B8.out
      have y0_2 : (w8).cell? ⟨w.heap.size, 2, none⟩ = some (.slice A0_2 d0.surges.length c0_2) := cell_onV (ABX0.out.2.2) B8.out
      obtain ⟨z_x0_0, z_x0_1, z_x0_2, _⟩ := x0_8.out
      have DD := Lib.hid ((Below.refl (w8).heap.size (w8)).drew)
      go_upto_region 18 with fail
      go_cut [58] (fun sL wx => sL = .bool false ∧ Hid (Below (w8).heap.size (w8) wx))
      case first =>
        refine wp_region_held_drew (S := (fun w' => w'.cell? ⟨w5.heap.size, 0, none⟩ = some (.int .i64 d0.mean) ∧ w'.cell? ⟨w5.heap.size, 1, none⟩ = some (.slice D5_1 d0.parts.length k5_1) ∧ w'.cell? ⟨w5.heap.size, 2, none⟩ = some (.slice D5_2 d0.surges.length k5_2) ∧ w'.cell? ⟨w.heap.size, 0, none⟩ = some (.int .i64 d0.mean) ∧ w'.cell? ⟨w.heap.size, 1, none⟩ = some (.slice A0_1 d0.parts.length c0_1) ∧ w'.cell? ⟨w.heap.size, 2, none⟩ = some (.slice A0_2 d0.surges.length c0_2) ∧ Hid (Below (w8).heap.size (w8) w'))) (by kernel_rfl) ?_ (fun hHeld => ?_)
        · (try dsimp only); go_keep
        refine wpAnyH_take (i := 0) (v := ?_) (by simp only [List.getElem?_toArray, List.getElem?_cons_zero]; rfl) (by kernel_rfl) (by kernel_rfl) (by kernel_rfl) (by exact fun _ _ _ h => h) (Or.inl ⟨by rfl, ?_⟩) (by assumption) ?_; rotate_left; focus (intro w hSw; (try dsimp only at hSw); first | (go_simp; done) | (go_simp; with_reducible rfl))
        try simp only [Act.put, List.setIfInBounds_toArray, List.set_cons_zero, List.set_cons_succ]
        refine wpAnyH_take (i := 1) (v := ?_) (by simp only [List.getElem?_toArray, List.getElem?_cons_succ, List.getElem?_cons_zero]; rfl) (by kernel_rfl) (by kernel_rfl) (by kernel_rfl) (by exact fun _ _ _ h => h) (Or.inl ⟨by rfl, ?_⟩) (by assumption) ?_; rotate_left; focus (intro w hSw; (try dsimp only at hSw); first | (go_simp; done) | (go_simp; with_reducible rfl))
        try simp only [Act.put, List.setIfInBounds_toArray, List.set_cons_zero, List.set_cons_succ]
        refine wpAnyH_ready (rs := [2]) (by kernel_rfl) (by simp) ?_
        refine AllReadyH.cons rfl (fun K hK => ?_) AllReadyH.nil
        rw [if_pos (by rfl)]
        go_simp
        go_at_call 10
        have kB := hHeld.2.2.2.2.2.2
        refine (toForecastC_any _ _ d0 _ (R0.out.below (BW.out.trans ((B8.out.trans (kB.out.mono B8.out.size)).mono hs0)))).mono ?_
        intro e wt hN
        obtain ⟨Q1, q1, Q2, q2, rfl, hRD, hbk⟩ := hN.rd (by omega) (by omega)
        have HRD := Lib.hid hRD
        have HBK := kB.out.trans (hbk.mono kB.out.size)
        have QS := Lib.hid (show wt.cell? ⟨w5.heap.size, 0, none⟩ = some (.int .i64 d0.mean) ∧ wt.cell? ⟨w5.heap.size, 1, none⟩ = some (.slice D5_1 d0.parts.length k5_1) ∧ wt.cell? ⟨w5.heap.size, 2, none⟩ = some (.slice D5_2 d0.surges.length k5_2) ∧ wt.cell? ⟨w.heap.size, 0, none⟩ = some (.int .i64 d0.mean) ∧ wt.cell? ⟨w.heap.size, 1, none⟩ = some (.slice A0_1 d0.parts.length c0_1) ∧ wt.cell? ⟨w.heap.size, 2, none⟩ = some (.slice A0_2 d0.surges.length c0_2) ∧ Hid (Below (w8).heap.size (w8) wt) from ⟨(x0_8.out.below HBK).1, (x0_8.out.below HBK).2.1, (x0_8.out.below HBK).2.2.1, cell_onV (cell_onV (ABX0.out.1) B8.out) HBK, cell_onV (cell_onV (ABX0.out.2.1) B8.out) HBK, cell_onV (cell_onV (ABX0.out.2.2) B8.out) HBK, Lib.hid HBK⟩)
        clear hbk kB hHeld hN hRD HBK
        go_simp
        refine hK.out _ _ ?_ (fun hHeld => ?_)
        · (try dsimp only); exact QS.out
        clear hK K
        try simp only [Act.put, List.setIfInBounds_toArray, List.set_cons_zero, List.set_cons_succ]
        refine wpAnyH_ready (rs := [3]) (by kernel_rfl) (by simp) ?_
        refine AllReadyH.cons rfl (fun K hK => ?_) AllReadyH.nil
        rw [if_pos (by rfl)]
        go_simp
        go_at_call 15
        have kB := hHeld.2.2.2.2.2.2
        refine (eqForecastC_same _ _ _ _ d0 _ (x0_8.out.below kB.out).2.2.2 HRD.out).mono ?_
        rintro e wq ⟨rfl, hbk⟩
        have HBK := kB.out.trans (hbk.mono kB.out.size)
        have QQ := Lib.hid (show wq.cell? ⟨w5.heap.size, 0, none⟩ = some (.int .i64 d0.mean) ∧ wq.cell? ⟨w5.heap.size, 1, none⟩ = some (.slice D5_1 d0.parts.length k5_1) ∧ wq.cell? ⟨w5.heap.size, 2, none⟩ = some (.slice D5_2 d0.surges.length k5_2) ∧ wq.cell? ⟨w.heap.size, 0, none⟩ = some (.int .i64 d0.mean) ∧ wq.cell? ⟨w.heap.size, 1, none⟩ = some (.slice A0_1 d0.parts.length c0_1) ∧ wq.cell? ⟨w.heap.size, 2, none⟩ = some (.slice A0_2 d0.surges.length c0_2) ∧ Hid (Below (w8).heap.size (w8) wq) from ⟨(x0_8.out.below HBK).1, (x0_8.out.below HBK).2.1, (x0_8.out.below HBK).2.2.1, cell_onV (cell_onV (ABX0.out.1) B8.out) HBK, cell_onV (cell_onV (ABX0.out.2.1) B8.out) HBK, cell_onV (cell_onV (ABX0.out.2.2) B8.out) HBK, Lib.hid HBK⟩)
        clear hbk kB hHeld HBK
        go_simp
        refine hK.out _ _ ?_ (fun hHeld => ?_)
        · (try dsimp only); exact QQ.out
        clear hK K
        try simp only [Act.put, List.setIfInBounds_toArray, List.set_cons_zero, List.set_cons_succ]
        refine wpAnyH_take (i := 4) (v := ?_) (by simp only [List.getElem?_toArray, List.getElem?_cons_succ, List.getElem?_cons_zero]; rfl) (by kernel_rfl) (by kernel_rfl) (by kernel_rfl) (by exact fun _ _ _ h => h) (Or.inl ⟨by rfl, ?_⟩) (by assumption) ?_; rotate_left; focus (intro w hSw; (try dsimp only at hSw); first | (go_simp; done) | (go_simp; with_reducible rfl))
        try simp only [Act.put, List.setIfInBounds_toArray, List.set_cons_zero, List.set_cons_succ]
        refine wpAnyH_done (by kernel_rfl) ?_ _
        go_wp2_with fail
        go_meet
        exact ⟨rfl, hHeld.2.2.2.2.2.2⟩
      case rest =>
        obtain ⟨rfl, hbH⟩ := hcut
        have hb9 := hbH.out
        obtain ⟨w9, rfl⟩ : ∃ W, W = wc := ⟨_, rfl⟩
        clear hbH DD y0_0 y0_1 y0_2 z_x0_0 z_x0_1 z_x0_2
        have B9 := Lib.hid (B8.out.trans (hb9.mono B8.out.size))
        have x0_9 := Lib.hid (x0_8.out.below hb9)
        have x0F1_9 := Lib.hid (x0F1_8.out.below hb9)
        have x0F2_9 := Lib.hid (x0F2_8.out.below hb9)
        have x1_9 := Lib.hid (x1_8.out.below hb9)
        have x1F0_9 := Lib.hid (x1F0_8.out.below hb9)
        have x1F1_9 := Lib.hid (x1F1_8.out.below hb9)
        have x2_9 := Lib.hid (x2_8.out.below hb9)
        have x2F_9 := Lib.hid (x2F_8.out.below hb9)
        have hz9 : (w8).heap.size ≤ w9.heap.size := hb9.size
        clear hb9
        -- if !eqChart(x1, toChart(aC)) {
        have y1_0 : (w9).cell? ⟨w.heap.size + 1, 0, none⟩ = some (.slice A1_0 d1.points.length c1_0) := cell_onV (ABX1.out.1) B9.out
        have y1_1 : (w9).cell? ⟨w.heap.size + 1, 1, none⟩ = some (.slice A1_1 d1.segs.length c1_1) := cell_onV (ABX1.out.2) B9.out
        obtain ⟨z_x1_0, z_x1_1, _⟩ := x1_9.out
        have DD := Lib.hid ((Below.refl (w9).heap.size (w9)).drew)
        go_upto_region 20 with fail
        go_cut [63] (fun sL wx => sL = .bool false ∧ Hid (Below (w9).heap.size (w9) wx))
        case first =>
          refine wp_region_held_drew (S := (fun w' => w'.cell? ⟨w6.heap.size, 0, none⟩ = some (.slice D6_0 d1.points.length k6_0) ∧ w'.cell? ⟨w6.heap.size, 1, none⟩ = some (.slice D6_1 d1.segs.length k6_1) ∧ w'.cell? ⟨w.heap.size + 1, 0, none⟩ = some (.slice A1_0 d1.points.length c1_0) ∧ w'.cell? ⟨w.heap.size + 1, 1, none⟩ = some (.slice A1_1 d1.segs.length c1_1) ∧ Hid (Below (w9).heap.size (w9) w'))) (by kernel_rfl) ?_ (fun hHeld => ?_)
          · (try dsimp only); go_keep
          refine wpAnyH_take (i := 0) (v := ?_) (by simp only [List.getElem?_toArray, List.getElem?_cons_zero]; rfl) (by kernel_rfl) (by kernel_rfl) (by kernel_rfl) (by exact fun _ _ _ h => h) (Or.inl ⟨by rfl, ?_⟩) (by assumption) ?_; rotate_left; focus (intro w hSw; (try dsimp only at hSw); first | (go_simp; done) | (go_simp; with_reducible rfl))
          try simp only [Act.put, List.setIfInBounds_toArray, List.set_cons_zero, List.set_cons_succ]
          refine wpAnyH_take (i := 1) (v := ?_) (by simp only [List.getElem?_toArray, List.getElem?_cons_succ, List.getElem?_cons_zero]; rfl) (by kernel_rfl) (by kernel_rfl) (by kernel_rfl) (by exact fun _ _ _ h => h) (Or.inl ⟨by rfl, ?_⟩) (by assumption) ?_; rotate_left; focus (intro w hSw; (try dsimp only at hSw); first | (go_simp; done) | (go_simp; with_reducible rfl))
          try simp only [Act.put, List.setIfInBounds_toArray, List.set_cons_zero, List.set_cons_succ]
          refine wpAnyH_ready (rs := [2]) (by kernel_rfl) (by simp) ?_
          refine AllReadyH.cons rfl (fun K hK => ?_) AllReadyH.nil
          rw [if_pos (by rfl)]
          go_simp
          go_at_call 11
          have kB := hHeld.2.2.2.2
          refine (toChart_any _ _ d1 _ (R1.out.below (BW.out.trans ((B9.out.trans (kB.out.mono B9.out.size)).mono hs0)))).mono ?_
          intro e wt hN
          obtain ⟨Q0, q0, Q1, q1, rfl, hRD, hbk⟩ := hN.rd (by omega) (by omega)
          have HRD := Lib.hid hRD
          have HBK := kB.out.trans (hbk.mono kB.out.size)
          have QS := Lib.hid (show wt.cell? ⟨w6.heap.size, 0, none⟩ = some (.slice D6_0 d1.points.length k6_0) ∧ wt.cell? ⟨w6.heap.size, 1, none⟩ = some (.slice D6_1 d1.segs.length k6_1) ∧ wt.cell? ⟨w.heap.size + 1, 0, none⟩ = some (.slice A1_0 d1.points.length c1_0) ∧ wt.cell? ⟨w.heap.size + 1, 1, none⟩ = some (.slice A1_1 d1.segs.length c1_1) ∧ Hid (Below (w9).heap.size (w9) wt) from ⟨(x1_9.out.below HBK).1, (x1_9.out.below HBK).2.1, cell_onV (cell_onV (ABX1.out.1) B9.out) HBK, cell_onV (cell_onV (ABX1.out.2) B9.out) HBK, Lib.hid HBK⟩)
          clear hbk kB hHeld hN hRD HBK
          go_simp
          refine hK.out _ _ ?_ (fun hHeld => ?_)
          · (try dsimp only); exact QS.out
          clear hK K
          try simp only [Act.put, List.setIfInBounds_toArray, List.set_cons_zero, List.set_cons_succ]
          refine wpAnyH_ready (rs := [3]) (by kernel_rfl) (by simp) ?_
          refine AllReadyH.cons rfl (fun K hK => ?_) AllReadyH.nil
          rw [if_pos (by rfl)]
          go_simp
          go_at_call 16
          have kB := hHeld.2.2.2.2
          refine (eqChart_same _ _ _ _ d1 _ (x1_9.out.below kB.out).2.2 HRD.out).mono ?_
          rintro e wq ⟨rfl, hbk⟩
          have HBK := kB.out.trans (hbk.mono kB.out.size)
          have QQ := Lib.hid (show wq.cell? ⟨w6.heap.size, 0, none⟩ = some (.slice D6_0 d1.points.length k6_0) ∧ wq.cell? ⟨w6.heap.size, 1, none⟩ = some (.slice D6_1 d1.segs.length k6_1) ∧ wq.cell? ⟨w.heap.size + 1, 0, none⟩ = some (.slice A1_0 d1.points.length c1_0) ∧ wq.cell? ⟨w.heap.size + 1, 1, none⟩ = some (.slice A1_1 d1.segs.length c1_1) ∧ Hid (Below (w9).heap.size (w9) wq) from ⟨(x1_9.out.below HBK).1, (x1_9.out.below HBK).2.1, cell_onV (cell_onV (ABX1.out.1) B9.out) HBK, cell_onV (cell_onV (ABX1.out.2) B9.out) HBK, Lib.hid HBK⟩)
          clear hbk kB hHeld HBK
          go_simp
          refine hK.out _ _ ?_ (fun hHeld => ?_)
          · (try dsimp only); exact QQ.out
          clear hK K
          try simp only [Act.put, List.setIfInBounds_toArray, List.set_cons_zero, List.set_cons_succ]
          refine wpAnyH_take (i := 4) (v := ?_) (by simp only [List.getElem?_toArray, List.getElem?_cons_succ, List.getElem?_cons_zero]; rfl) (by kernel_rfl) (by kernel_rfl) (by kernel_rfl) (by exact fun _ _ _ h => h) (Or.inl ⟨by rfl, ?_⟩) (by assumption) ?_; rotate_left; focus (intro w hSw; (try dsimp only at hSw); first | (go_simp; done) | (go_simp; with_reducible rfl))
          try simp only [Act.put, List.setIfInBounds_toArray, List.set_cons_zero, List.set_cons_succ]
          refine wpAnyH_done (by kernel_rfl) ?_ _
          go_wp2_with fail
          go_meet
          exact ⟨rfl, hHeld.2.2.2.2⟩
        case rest =>
          obtain ⟨rfl, hbH⟩ := hcut
          have hb10 := hbH.out
          obtain ⟨w10, rfl⟩ : ∃ W, W = wc := ⟨_, rfl⟩
          clear hbH DD y1_0 y1_1 z_x1_0 z_x1_1
          have B10 := Lib.hid (B9.out.trans (hb10.mono B9.out.size))
          have x0_10 := Lib.hid (x0_9.out.below hb10)
          have x0F1_10 := Lib.hid (x0F1_9.out.below hb10)
          have x0F2_10 := Lib.hid (x0F2_9.out.below hb10)
          have x1_10 := Lib.hid (x1_9.out.below hb10)
          have x1F0_10 := Lib.hid (x1F0_9.out.below hb10)
          have x1F1_10 := Lib.hid (x1F1_9.out.below hb10)
          have x2_10 := Lib.hid (x2_9.out.below hb10)
          have x2F_10 := Lib.hid (x2F_9.out.below hb10)
          have hz10 : (w9).heap.size ≤ w10.heap.size := hb10.size
          clear hb10
          -- if !eqShipS(x2, toShipS(aFleet)) {
          go_wp2_with fail
          refine (toShipS_any _ l2 _ (R2.out.below (BW.out.trans (B10.out.mono hs0)))).mono ?_
          rintro e w11 ⟨u11, rfl, o11, hb11⟩
          have S11 := Lib.hid (OwnShip.sl o11 (by omega))
          have RG11 := Lib.hid (own_range o11)
          have FR11 := Lib.hid (own_freeV o11)
          obtain ⟨D11, k11, rfl⟩ := own_form o11
          have B11 := Lib.hid (B10.out.trans (hb11.mono B10.out.size))
          have x0_11 := Lib.hid (x0_10.out.below hb11)
          have x0F1_11 := Lib.hid (x0F1_10.out.below hb11)
          have x0F2_11 := Lib.hid (x0F2_10.out.below hb11)
          have x1_11 := Lib.hid (x1_10.out.below hb11)
          have x1F0_11 := Lib.hid (x1F0_10.out.below hb11)
          have x1F1_11 := Lib.hid (x1F1_10.out.below hb11)
          have x2_11 := Lib.hid (x2_10.out.below hb11)
          have x2F_11 := Lib.hid (x2F_10.out.below hb11)
          have hz11 : (w10).heap.size ≤ w11.heap.size := hb11.size
          clear hb11 o11
          go_wp2_with fail
          refine (eqShipS_same _ _ l2 _ x2_11.out S11.out).mono ?_
          rintro e w12 ⟨rfl, hb12⟩
          have B12 := Lib.hid (B11.out.trans (hb12.mono B11.out.size))
          have x0_12 := Lib.hid (x0_11.out.below hb12)
          have x0F1_12 := Lib.hid (x0F1_11.out.below hb12)
          have x0F2_12 := Lib.hid (x0F2_11.out.below hb12)
          have x1_12 := Lib.hid (x1_11.out.below hb12)
          have x1F0_12 := Lib.hid (x1F0_11.out.below hb12)
          have x1F1_12 := Lib.hid (x1F1_11.out.below hb12)
          have x2_12 := Lib.hid (x2_11.out.below hb12)
          have x2F_12 := Lib.hid (x2F_11.out.below hb12)
          have hz12 : (w11).heap.size ≤ w12.heap.size := hb12.size
          clear hb12
          -- return true
          go_wp2
          go_ret
          exact ⟨rfl, BW.out.trans (B12.out.mono hs0)⟩
set_option maxRecDepth 100000 in
theorem lifted (os : Os) (started : os.Started) (H : Type) (enc : TypeId × Value → H) :
    ReturnsInHanded {} Tryz.checked os 3 .any (Rows.fnExactIsSafePassageSpec.pre6 enc Tryz.prog Tryz.f3 Rows.fnExactIsSafePassageRow.domain false) (Rows.fnExactIsSafePassageSpec.post enc Tryz.prog Tryz.f3 false true false false) := by
  refine returnsInHanded_of_change (C := Tryz.checked) own started (by kernel_rfl) Tryz.func3
    (ChangeSpec.witness6 (enc := enc) (C := Tryz.checked) false ⟨#[], #[.agg #[.int .i64 0, .slice none 0 0, .slice none 0 0], .agg #[.slice none 0 0, .slice none 0 0], .slice none 0 0, .agg #[.int .i64 0, .int .i64 0, .bool false, .int .i64 0, .int .i64 0]], []⟩ 8 (by kernel_rfl) (by kernel_rfl) (by kernel_rfl) (by kernel_rfl)) ?_
  intro W base args ds gs before hval0 hW _ _
  have hval : ∀ (j : Nat) t v, Tryz.f3.params[j]? = some t → args[j]? = some v → Value.okWide Tryz.prog W .any base t v := hval0
  have hW' := hW
  obtain ⟨p, q, hA0, hV, rfl, _, _⟩ := hW
  have hA : DataW.TrodAll enc Tryz.prog W 0 (fun _ => true) true Tryz.f3.params.toList args.toList ds p := hA0
  rw [Tryz.params3] at hA hval
  obtain ⟨v0, vs0, d0, ds0, p0, q0, hargs, rfl, rfl, h0, r0⟩ := trodAll_cons hA
  obtain ⟨v1, vs1, d1, ds1, p1, q1, rfl, rfl, rfl, h1, r1⟩ := trodAll_cons r0
  obtain ⟨v2, vs2, d2, ds2, p2, q2, rfl, rfl, rfl, h2, r2⟩ := trodAll_cons r1
  obtain ⟨v3, vs3, d3, ds3, p3, q3, rfl, rfl, rfl, h3, r3⟩ := trodAll_cons r2
  obtain ⟨rfl, rfl, rfl⟩ := trodAll_nil r3
  obtain rfl : args = #[v0, v1, v2, v3] := by cases args; simp_all
  obtain ⟨A0_1, c0_1, A0_2, c0_2, d0', rfl, g0⟩ := open_forecast_arg (hval 0 27 v0 rfl rfl) h0
  obtain ⟨A1_0, c1_0, A1_1, c1_1, d1', rfl, g1⟩ := open_chart_arg (hval 1 31 v1 rfl rfl) h1
  obtain ⟨A2, c2, l2, rfl, g2⟩ := open_ships_arg (hval 2 32 v2 rfl rfl) h2
  obtain ⟨d3', rfl, g3⟩ := open_passage_arg (hval 3 34 v3 rfl rfl) h3
  refine (law A0_1 c0_1 A0_2 c0_2 d0' A1_0 c1_0 A1_1 c1_1 d1' A2 c2 l2 d3' W g0 g1 g2 g3).mono fun e W' ⟨he, hb⟩ => ⟨_, he, ?_⟩
  exact law_post laidOut (by kernel_rfl) rfl (by kernel_rfl) Tryz.underlying4 rfl rfl rfl hW' hb
theorem holds : Rows.FnExactIsSafePassageSaid :=
  OpenClaim.holds_of_wide 3 Tryz.f3 rfl rfl rfl rfl rfl rfl rfl ⟨rfl, rfl, rfl, rfl, rfl⟩ rfl rfl rfl rfl rfl (by kernel_rfl) Tryz.func3 (by kernel_rfl)
    (of_decide_eq_true (by kernel_rfl)) (by unfold Func.isWrapper; first | (rw [if_pos (by decide +kernel)]; kernel_rfl) | (rw [if_neg (by decide +kernel)]; exact ⟨rfl, rfl⟩))
    (fun os started H enc _ => lifted os started H enc)
end Go.Proofs.YtooeikimoheecaaGreat.exactIsSafePassage
