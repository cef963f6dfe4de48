
/- The exact law of ConflictOf holds for all arguments: impl.ConflictOf answers as its model, and the arguments read as before. No condition. -/
import Derived.Test.YtpglaffmmddcdaaRows
import Derived.Test.YtpglaffmmddcdaaKit
import Derived.Test.YtpglaffmmddcdaaConfSpec
import Derived.Test.YtpglaffmmddcdaaBetween
import Derived.Deep.RegionHeld3
import Derived.Deep.DeepCutAuto
namespace Go.Proofs.Ytpglaffmmddcdaa.exactConflictOf
open Go.ChangeShapes Go.WideShapes Go.ChangeAt Go.RowKit
set_option maxRecDepth 100000

theorem own : ownKnob Try.prog.godebug = none := by kernel_rfl
theorem laidOut : laidOutB Try.prog = true := by kernel_rfl

set_option maxHeartbeats 16000000 in
theorem law (A0_0 : Option Addr) (c0_0 : Nat) (A0_1 : Option Addr) (c0_1 : Nat) (d0 : ChartD) (d1 : RegimeD) (d2 : PassageD) (d3 : PassageD) (w : World) (hin0 : ChartIn w A0_0 A0_1 c0_0 c0_1 d0) (_ : d1.wf) (hin2 : d2.wf) (hin3 : d3.wf) :
    Calls Try.prog 6 #[.agg #[.slice A0_0 d0.points.length c0_0, .slice A0_1 d0.segs.length c0_1], .agg #[.int .i64 d1.gap, .bool d1.noMeet], .agg #[.int .i64 d2.ship, .int .i64 d2.segment, .bool d2.toward, .int .i64 d2.start, .int .i64 d2.stop], .agg #[.int .i64 d3.ship, .int .i64 d3.segment, .bool d3.toward, .int .i64 d3.start, .int .i64 d3.stop]] w fun e w' => e = .returned (.bool true) ∧ Below w.heap.size w w' := by
  have hsz0 : SizChart w A0_0 A0_1 c0_0 c0_1 d0 := hin0
  clear hin0
  have SZ0 := Lib.hid hsz0
  obtain ⟨m0_0, s0_0, f0_0, m0_1, s0_1, f0_1⟩ := hsz0
  have SS0_0 := Lib.hid s0_0
  have SS0_1 := Lib.hid s0_1
  have WF0_0 := Lib.hid f0_0
  clear s0_0 f0_0 s0_1 f0_1
  have bp0 := bulkChart_pos d0
  have HB0 : Below w.heap.size w ((((w.alloc (.cells #[.slice A0_0 d0.points.length c0_0, .slice A0_1 d0.segs.length c0_1] 54)).alloc (.cells #[.int .i64 d1.gap, .bool d1.noMeet] 45)).alloc (.cells #[.int .i64 d2.ship, .int .i64 d2.segment, .bool d2.toward, .int .i64 d2.start, .int .i64 d2.stop] 48)).alloc (.cells #[.int .i64 d3.ship, .int .i64 d3.segment, .bool d3.toward, .int .i64 d3.start, .int .i64 d3.stop] 48)) := by
    repeat (first | exact Below.refl _ _ | refine Below.alloc ?_ (by simp <;> omega) _)
  have BW := Lib.hid HB0
  clear HB0
  go_enter Try.func6, Try.ntmps6
  have B0 := Lib.hid (Below.refl (((((w.alloc (.cells #[.slice A0_0 d0.points.length c0_0, .slice A0_1 d0.segs.length c0_1] 54)).alloc (.cells #[.int .i64 d1.gap, .bool d1.noMeet] 45)).alloc (.cells #[.int .i64 d2.ship, .int .i64 d2.segment, .bool d2.toward, .int .i64 d2.start, .int .i64 d2.stop] 48)).alloc (.cells #[.int .i64 d3.ship, .int .i64 d3.segment, .bool d3.toward, .int .i64 d3.start, .int .i64 d3.stop] 48))).heap.size ((((w.alloc (.cells #[.slice A0_0 d0.points.length c0_0, .slice A0_1 d0.segs.length c0_1] 54)).alloc (.cells #[.int .i64 d1.gap, .bool d1.noMeet] 45)).alloc (.cells #[.int .i64 d2.ship, .int .i64 d2.segment, .bool d2.toward, .int .i64 d2.start, .int .i64 d2.stop] 48)).alloc (.cells #[.int .i64 d3.ship, .int .i64 d3.segment, .bool d3.toward, .int .i64 d3.start, .int .i64 d3.stop] 48)))
  have hs0 : w.heap.size ≤ (((((w.alloc (.cells #[.slice A0_0 d0.points.length c0_0, .slice A0_1 d0.segs.length c0_1] 54)).alloc (.cells #[.int .i64 d1.gap, .bool d1.noMeet] 45)).alloc (.cells #[.int .i64 d2.ship, .int .i64 d2.segment, .bool d2.toward, .int .i64 d2.start, .int .i64 d2.stop] 48)).alloc (.cells #[.int .i64 d3.ship, .int .i64 d3.segment, .bool d3.toward, .int .i64 d3.start, .int .i64 d3.stop] 48))).heap.size := BW.out.size
  have ABX0 := Lib.hid (show (((((w.alloc (.cells #[.slice A0_0 d0.points.length c0_0, .slice A0_1 d0.segs.length c0_1] 54)).alloc (.cells #[.int .i64 d1.gap, .bool d1.noMeet] 45)).alloc (.cells #[.int .i64 d2.ship, .int .i64 d2.segment, .bool d2.toward, .int .i64 d2.start, .int .i64 d2.stop] 48)).alloc (.cells #[.int .i64 d3.ship, .int .i64 d3.segment, .bool d3.toward, .int .i64 d3.start, .int .i64 d3.stop] 48))).cell? ⟨w.heap.size, 0, none⟩ = some (.slice A0_0 d0.points.length c0_0) ∧ (((((w.alloc (.cells #[.slice A0_0 d0.points.length c0_0, .slice A0_1 d0.segs.length c0_1] 54)).alloc (.cells #[.int .i64 d1.gap, .bool d1.noMeet] 45)).alloc (.cells #[.int .i64 d2.ship, .int .i64 d2.segment, .bool d2.toward, .int .i64 d2.start, .int .i64 d2.stop] 48)).alloc (.cells #[.int .i64 d3.ship, .int .i64 d3.segment, .bool d3.toward, .int .i64 d3.start, .int .i64 d3.stop] 48))).cell? ⟨w.heap.size, 1, none⟩ = some (.slice A0_1 d0.segs.length c0_1) from by
    have hBk0 : Blk (w.alloc (.cells #[.slice A0_0 d0.points.length c0_0, .slice A0_1 d0.segs.length c0_1] 54)) (w.heap.size) #[.slice A0_0 d0.points.length c0_0, .slice A0_1 d0.segs.length c0_1] 54 := Blk.newAt (w := w) (by first | rfl | simp) _ _
    have hBk : Blk ((((w.alloc (.cells #[.slice A0_0 d0.points.length c0_0, .slice A0_1 d0.segs.length c0_1] 54)).alloc (.cells #[.int .i64 d1.gap, .bool d1.noMeet] 45)).alloc (.cells #[.int .i64 d2.ship, .int .i64 d2.segment, .bool d2.toward, .int .i64 d2.start, .int .i64 d2.stop] 48)).alloc (.cells #[.int .i64 d3.ship, .int .i64 d3.segment, .bool d3.toward, .int .i64 d3.start, .int .i64 d3.stop] 48)) (w.heap.size) #[.slice A0_0 d0.points.length c0_0, .slice A0_1 d0.segs.length c0_1] 54 := hBk0.below (by repeat (first | exact Below.refl _ _ | refine Below.alloc ?_ (by simp) _))
    exact ⟨hBk.cell 0, hBk.cell 1⟩)
  have ABX1 := Lib.hid (show (((((w.alloc (.cells #[.slice A0_0 d0.points.length c0_0, .slice A0_1 d0.segs.length c0_1] 54)).alloc (.cells #[.int .i64 d1.gap, .bool d1.noMeet] 45)).alloc (.cells #[.int .i64 d2.ship, .int .i64 d2.segment, .bool d2.toward, .int .i64 d2.start, .int .i64 d2.stop] 48)).alloc (.cells #[.int .i64 d3.ship, .int .i64 d3.segment, .bool d3.toward, .int .i64 d3.start, .int .i64 d3.stop] 48))).cell? ⟨w.heap.size + 1, 0, none⟩ = some (.int .i64 d1.gap) ∧ (((((w.alloc (.cells #[.slice A0_0 d0.points.length c0_0, .slice A0_1 d0.segs.length c0_1] 54)).alloc (.cells #[.int .i64 d1.gap, .bool d1.noMeet] 45)).alloc (.cells #[.int .i64 d2.ship, .int .i64 d2.segment, .bool d2.toward, .int .i64 d2.start, .int .i64 d2.stop] 48)).alloc (.cells #[.int .i64 d3.ship, .int .i64 d3.segment, .bool d3.toward, .int .i64 d3.start, .int .i64 d3.stop] 48))).cell? ⟨w.heap.size + 1, 1, none⟩ = some (.bool d1.noMeet) from by
    have hBk0 : Blk ((w.alloc (.cells #[.slice A0_0 d0.points.length c0_0, .slice A0_1 d0.segs.length c0_1] 54)).alloc (.cells #[.int .i64 d1.gap, .bool d1.noMeet] 45)) (w.heap.size + 1) #[.int .i64 d1.gap, .bool d1.noMeet] 45 := Blk.newAt (w := (w.alloc (.cells #[.slice A0_0 d0.points.length c0_0, .slice A0_1 d0.segs.length c0_1] 54))) (by first | rfl | simp) _ _
    have hBk : Blk ((((w.alloc (.cells #[.slice A0_0 d0.points.length c0_0, .slice A0_1 d0.segs.length c0_1] 54)).alloc (.cells #[.int .i64 d1.gap, .bool d1.noMeet] 45)).alloc (.cells #[.int .i64 d2.ship, .int .i64 d2.segment, .bool d2.toward, .int .i64 d2.start, .int .i64 d2.stop] 48)).alloc (.cells #[.int .i64 d3.ship, .int .i64 d3.segment, .bool d3.toward, .int .i64 d3.start, .int .i64 d3.stop] 48)) (w.heap.size + 1) #[.int .i64 d1.gap, .bool d1.noMeet] 45 := hBk0.below (by repeat (first | exact Below.refl _ _ | refine Below.alloc ?_ (by simp) _))
    exact ⟨hBk.cell 0, hBk.cell 1⟩)
  have ABX2 := Lib.hid (show (((((w.alloc (.cells #[.slice A0_0 d0.points.length c0_0, .slice A0_1 d0.segs.length c0_1] 54)).alloc (.cells #[.int .i64 d1.gap, .bool d1.noMeet] 45)).alloc (.cells #[.int .i64 d2.ship, .int .i64 d2.segment, .bool d2.toward, .int .i64 d2.start, .int .i64 d2.stop] 48)).alloc (.cells #[.int .i64 d3.ship, .int .i64 d3.segment, .bool d3.toward, .int .i64 d3.start, .int .i64 d3.stop] 48))).cell? ⟨w.heap.size + 2, 0, none⟩ = some (.int .i64 d2.ship) ∧ (((((w.alloc (.cells #[.slice A0_0 d0.points.length c0_0, .slice A0_1 d0.segs.length c0_1] 54)).alloc (.cells #[.int .i64 d1.gap, .bool d1.noMeet] 45)).alloc (.cells #[.int .i64 d2.ship, .int .i64 d2.segment, .bool d2.toward, .int .i64 d2.start, .int .i64 d2.stop] 48)).alloc (.cells #[.int .i64 d3.ship, .int .i64 d3.segment, .bool d3.toward, .int .i64 d3.start, .int .i64 d3.stop] 48))).cell? ⟨w.heap.size + 2, 1, none⟩ = some (.int .i64 d2.segment) ∧ (((((w.alloc (.cells #[.slice A0_0 d0.points.length c0_0, .slice A0_1 d0.segs.length c0_1] 54)).alloc (.cells #[.int .i64 d1.gap, .bool d1.noMeet] 45)).alloc (.cells #[.int .i64 d2.ship, .int .i64 d2.segment, .bool d2.toward, .int .i64 d2.start, .int .i64 d2.stop] 48)).alloc (.cells #[.int .i64 d3.ship, .int .i64 d3.segment, .bool d3.toward, .int .i64 d3.start, .int .i64 d3.stop] 48))).cell? ⟨w.heap.size + 2, 2, none⟩ = some (.bool d2.toward) ∧ (((((w.alloc (.cells #[.slice A0_0 d0.points.length c0_0, .slice A0_1 d0.segs.length c0_1] 54)).alloc (.cells #[.int .i64 d1.gap, .bool d1.noMeet] 45)).alloc (.cells #[.int .i64 d2.ship, .int .i64 d2.segment, .bool d2.toward, .int .i64 d2.start, .int .i64 d2.stop] 48)).alloc (.cells #[.int .i64 d3.ship, .int .i64 d3.segment, .bool d3.toward, .int .i64 d3.start, .int .i64 d3.stop] 48))).cell? ⟨w.heap.size + 2, 3, none⟩ = some (.int .i64 d2.start) ∧ (((((w.alloc (.cells #[.slice A0_0 d0.points.length c0_0, .slice A0_1 d0.segs.length c0_1] 54)).alloc (.cells #[.int .i64 d1.gap, .bool d1.noMeet] 45)).alloc (.cells #[.int .i64 d2.ship, .int .i64 d2.segment, .bool d2.toward, .int .i64 d2.start, .int .i64 d2.stop] 48)).alloc (.cells #[.int .i64 d3.ship, .int .i64 d3.segment, .bool d3.toward, .int .i64 d3.start, .int .i64 d3.stop] 48))).cell? ⟨w.heap.size + 2, 4, none⟩ = some (.int .i64 d2.stop) from by
    have hBk0 : Blk (((w.alloc (.cells #[.slice A0_0 d0.points.length c0_0, .slice A0_1 d0.segs.length c0_1] 54)).alloc (.cells #[.int .i64 d1.gap, .bool d1.noMeet] 45)).alloc (.cells #[.int .i64 d2.ship, .int .i64 d2.segment, .bool d2.toward, .int .i64 d2.start, .int .i64 d2.stop] 48)) (w.heap.size + 2) #[.int .i64 d2.ship, .int .i64 d2.segment, .bool d2.toward, .int .i64 d2.start, .int .i64 d2.stop] 48 := Blk.newAt (w := ((w.alloc (.cells #[.slice A0_0 d0.points.length c0_0, .slice A0_1 d0.segs.length c0_1] 54)).alloc (.cells #[.int .i64 d1.gap, .bool d1.noMeet] 45))) (by first | rfl | simp) _ _
    have hBk : Blk ((((w.alloc (.cells #[.slice A0_0 d0.points.length c0_0, .slice A0_1 d0.segs.length c0_1] 54)).alloc (.cells #[.int .i64 d1.gap, .bool d1.noMeet] 45)).alloc (.cells #[.int .i64 d2.ship, .int .i64 d2.segment, .bool d2.toward, .int .i64 d2.start, .int .i64 d2.stop] 48)).alloc (.cells #[.int .i64 d3.ship, .int .i64 d3.segment, .bool d3.toward, .int .i64 d3.start, .int .i64 d3.stop] 48)) (w.heap.size + 2) #[.int .i64 d2.ship, .int .i64 d2.segment, .bool d2.toward, .int .i64 d2.start, .int .i64 d2.stop] 48 := hBk0.below (by repeat (first | exact Below.refl _ _ | refine Below.alloc ?_ (by simp) _))
    exact ⟨hBk.cell 0, hBk.cell 1, hBk.cell 2, hBk.cell 3, hBk.cell 4⟩)
  have ABX3 := Lib.hid (show (((((w.alloc (.cells #[.slice A0_0 d0.points.length c0_0, .slice A0_1 d0.segs.length c0_1] 54)).alloc (.cells #[.int .i64 d1.gap, .bool d1.noMeet] 45)).alloc (.cells #[.int .i64 d2.ship, .int .i64 d2.segment, .bool d2.toward, .int .i64 d2.start, .int .i64 d2.stop] 48)).alloc (.cells #[.int .i64 d3.ship, .int .i64 d3.segment, .bool d3.toward, .int .i64 d3.start, .int .i64 d3.stop] 48))).cell? ⟨w.heap.size + 3, 0, none⟩ = some (.int .i64 d3.ship) ∧ (((((w.alloc (.cells #[.slice A0_0 d0.points.length c0_0, .slice A0_1 d0.segs.length c0_1] 54)).alloc (.cells #[.int .i64 d1.gap, .bool d1.noMeet] 45)).alloc (.cells #[.int .i64 d2.ship, .int .i64 d2.segment, .bool d2.toward, .int .i64 d2.start, .int .i64 d2.stop] 48)).alloc (.cells #[.int .i64 d3.ship, .int .i64 d3.segment, .bool d3.toward, .int .i64 d3.start, .int .i64 d3.stop] 48))).cell? ⟨w.heap.size + 3, 1, none⟩ = some (.int .i64 d3.segment) ∧ (((((w.alloc (.cells #[.slice A0_0 d0.points.length c0_0, .slice A0_1 d0.segs.length c0_1] 54)).alloc (.cells #[.int .i64 d1.gap, .bool d1.noMeet] 45)).alloc (.cells #[.int .i64 d2.ship, .int .i64 d2.segment, .bool d2.toward, .int .i64 d2.start, .int .i64 d2.stop] 48)).alloc (.cells #[.int .i64 d3.ship, .int .i64 d3.segment, .bool d3.toward, .int .i64 d3.start, .int .i64 d3.stop] 48))).cell? ⟨w.heap.size + 3, 2, none⟩ = some (.bool d3.toward) ∧ (((((w.alloc (.cells #[.slice A0_0 d0.points.length c0_0, .slice A0_1 d0.segs.length c0_1] 54)).alloc (.cells #[.int .i64 d1.gap, .bool d1.noMeet] 45)).alloc (.cells #[.int .i64 d2.ship, .int .i64 d2.segment, .bool d2.toward, .int .i64 d2.start, .int .i64 d2.stop] 48)).alloc (.cells #[.int .i64 d3.ship, .int .i64 d3.segment, .bool d3.toward, .int .i64 d3.start, .int .i64 d3.stop] 48))).cell? ⟨w.heap.size + 3, 3, none⟩ = some (.int .i64 d3.start) ∧ (((((w.alloc (.cells #[.slice A0_0 d0.points.length c0_0, .slice A0_1 d0.segs.length c0_1] 54)).alloc (.cells #[.int .i64 d1.gap, .bool d1.noMeet] 45)).alloc (.cells #[.int .i64 d2.ship, .int .i64 d2.segment, .bool d2.toward, .int .i64 d2.start, .int .i64 d2.stop] 48)).alloc (.cells #[.int .i64 d3.ship, .int .i64 d3.segment, .bool d3.toward, .int .i64 d3.start, .int .i64 d3.stop] 48))).cell? ⟨w.heap.size + 3, 4, none⟩ = some (.int .i64 d3.stop) from by
    have hBk0 : Blk ((((w.alloc (.cells #[.slice A0_0 d0.points.length c0_0, .slice A0_1 d0.segs.length c0_1] 54)).alloc (.cells #[.int .i64 d1.gap, .bool d1.noMeet] 45)).alloc (.cells #[.int .i64 d2.ship, .int .i64 d2.segment, .bool d2.toward, .int .i64 d2.start, .int .i64 d2.stop] 48)).alloc (.cells #[.int .i64 d3.ship, .int .i64 d3.segment, .bool d3.toward, .int .i64 d3.start, .int .i64 d3.stop] 48)) (w.heap.size + 3) #[.int .i64 d3.ship, .int .i64 d3.segment, .bool d3.toward, .int .i64 d3.start, .int .i64 d3.stop] 48 := Blk.newAt (w := (((w.alloc (.cells #[.slice A0_0 d0.points.length c0_0, .slice A0_1 d0.segs.length c0_1] 54)).alloc (.cells #[.int .i64 d1.gap, .bool d1.noMeet] 45)).alloc (.cells #[.int .i64 d2.ship, .int .i64 d2.segment, .bool d2.toward, .int .i64 d2.start, .int .i64 d2.stop] 48))) (by first | rfl | simp) _ _
    have hBk : Blk ((((w.alloc (.cells #[.slice A0_0 d0.points.length c0_0, .slice A0_1 d0.segs.length c0_1] 54)).alloc (.cells #[.int .i64 d1.gap, .bool d1.noMeet] 45)).alloc (.cells #[.int .i64 d2.ship, .int .i64 d2.segment, .bool d2.toward, .int .i64 d2.start, .int .i64 d2.stop] 48)).alloc (.cells #[.int .i64 d3.ship, .int .i64 d3.segment, .bool d3.toward, .int .i64 d3.start, .int .i64 d3.stop] 48)) (w.heap.size + 3) #[.int .i64 d3.ship, .int .i64 d3.segment, .bool d3.toward, .int .i64 d3.start, .int .i64 d3.stop] 48 := hBk0.below (by repeat (first | exact Below.refl _ _ | refine Below.alloc ?_ (by simp) _))
    exact ⟨hBk.cell 0, hBk.cell 1, hBk.cell 2, hBk.cell 3, hBk.cell 4⟩)
  obtain ⟨r0, hr0⟩ : ∃ r0, (confI d0 d1 d2 d3) = r0 := ⟨_, rfl⟩
  have HR0 := Lib.hid hr0
  clear hr0
  -- left := 1 << 20
  -- left = szChart(aC, left)
  have y0_0 : (((((w.alloc (.cells #[.slice A0_0 d0.points.length c0_0, .slice A0_1 d0.segs.length c0_1] 54)).alloc (.cells #[.int .i64 d1.gap, .bool d1.noMeet] 45)).alloc (.cells #[.int .i64 d2.ship, .int .i64 d2.segment, .bool d2.toward, .int .i64 d2.start, .int .i64 d2.stop] 48)).alloc (.cells #[.int .i64 d3.ship, .int .i64 d3.segment, .bool d3.toward, .int .i64 d3.start, .int .i64 d3.stop] 48))).cell? ⟨w.heap.size, 0, none⟩ = some (.slice A0_0 d0.points.length c0_0) := cell_onV (ABX0.out.1) B0.out
  have y0_1 : (((((w.alloc (.cells #[.slice A0_0 d0.points.length c0_0, .slice A0_1 d0.segs.length c0_1] 54)).alloc (.cells #[.int .i64 d1.gap, .bool d1.noMeet] 45)).alloc (.cells #[.int .i64 d2.ship, .int .i64 d2.segment, .bool d2.toward, .int .i64 d2.start, .int .i64 d2.stop] 48)).alloc (.cells #[.int .i64 d3.ship, .int .i64 d3.segment, .bool d3.toward, .int .i64 d3.start, .int .i64 d3.stop] 48))).cell? ⟨w.heap.size, 1, none⟩ = some (.slice A0_1 d0.segs.length c0_1) := cell_onV (ABX0.out.2) B0.out
  have hl1 : 0 ≤ (1048576 : Int) := by omega
  have hll1 : (1048576 : Int) ≤ 1048576 := by omega
  go_wp2_with fail
  refine (szChart_any _ _ _ _ d0 _ (SizChart.below SZ0.out (BW.out.trans (B0.out.mono hs0))) (1048576) hl1 hll1).mono ?_
  rintro e w1 ⟨rfl, hb1⟩
  have B1 := Lib.hid (B0.out.trans (hb1.mono B0.out.size))
  have hz1 : (((((w.alloc (.cells #[.slice A0_0 d0.points.length c0_0, .slice A0_1 d0.segs.length c0_1] 54)).alloc (.cells #[.int .i64 d1.gap, .bool d1.noMeet] 45)).alloc (.cells #[.int .i64 d2.ship, .int .i64 d2.segment, .bool d2.toward, .int .i64 d2.start, .int .i64 d2.stop] 48)).alloc (.cells #[.int .i64 d3.ship, .int .i64 d3.segment, .bool d3.toward, .int .i64 d3.start, .int .i64 d3.stop] 48))).heap.size ≤ w1.heap.size := hb1.size
  clear hb1 y0_0 y0_1
  by_cases neg1 : (1048576 : Int) < bulkChart d0
  · rw [leftOf_no neg1]
    go_wp2
    go_ret
    exact ⟨rfl, BW.out.trans (B1.out.mono hs0)⟩
  rw [leftOf_yes neg1]
  have ne1 : ¬ (1048576 - bulkChart d0 : Int) < 0 := by omega
  have le0 := bulkChart_le d0
  have R0 : Hid (RdChart w (.slice A0_0 d0.points.length c0_0) (.slice A0_1 d0.segs.length c0_1) d0) := Lib.hid ⟨SS0_0.out (by omega), SS0_1.out (by omega)⟩
  -- w0 := spec.ConflictOf(toChart(aC), toRegime(aR), toPassage(aP), toPassage(aQ))
  have y0_0 : (w1).cell? ⟨w.heap.size, 0, none⟩ = some (.slice A0_0 d0.points.length c0_0) := cell_onV (ABX0.out.1) B1.out
  have y0_1 : (w1).cell? ⟨w.heap.size, 1, none⟩ = some (.slice A0_1 d0.segs.length c0_1) := cell_onV (ABX0.out.2) B1.out
  have y1_0 : (w1).cell? ⟨w.heap.size + 1, 0, none⟩ = some (.int .i64 d1.gap) := cell_onV (ABX1.out.1) B1.out
  have y1_1 : (w1).cell? ⟨w.heap.size + 1, 1, none⟩ = some (.bool d1.noMeet) := cell_onV (ABX1.out.2) B1.out
  have y2_0 : (w1).cell? ⟨w.heap.size + 2, 0, none⟩ = some (.int .i64 d2.ship) := cell_onV (ABX2.out.1) B1.out
  have y2_1 : (w1).cell? ⟨w.heap.size + 2, 1, none⟩ = some (.int .i64 d2.segment) := cell_onV (ABX2.out.2.1) B1.out
  have y2_2 : (w1).cell? ⟨w.heap.size + 2, 2, none⟩ = some (.bool d2.toward) := cell_onV (ABX2.out.2.2.1) B1.out
  have y2_3 : (w1).cell? ⟨w.heap.size + 2, 3, none⟩ = some (.int .i64 d2.start) := cell_onV (ABX2.out.2.2.2.1) B1.out
  have y2_4 : (w1).cell? ⟨w.heap.size + 2, 4, none⟩ = some (.int .i64 d2.stop) := cell_onV (ABX2.out.2.2.2.2) B1.out
  have y3_0 : (w1).cell? ⟨w.heap.size + 3, 0, none⟩ = some (.int .i64 d3.ship) := cell_onV (ABX3.out.1) B1.out
  have y3_1 : (w1).cell? ⟨w.heap.size + 3, 1, none⟩ = some (.int .i64 d3.segment) := cell_onV (ABX3.out.2.1) B1.out
  have y3_2 : (w1).cell? ⟨w.heap.size + 3, 2, none⟩ = some (.bool d3.toward) := cell_onV (ABX3.out.2.2.1) B1.out
  have y3_3 : (w1).cell? ⟨w.heap.size + 3, 3, none⟩ = some (.int .i64 d3.start) := cell_onV (ABX3.out.2.2.2.1) B1.out
  have y3_4 : (w1).cell? ⟨w.heap.size + 3, 4, none⟩ = some (.int .i64 d3.stop) := cell_onV (ABX3.out.2.2.2.2) B1.out
  have DD := Lib.hid ((Below.refl (w1).heap.size (w1)).drew)
  go_upto_region 5 with fail
  go_cut [10] (fun sL wx => sL = .int .i64 r0 ∧ Hid (Below (w1).heap.size (w1) wx))
  case first =>
    refine wp_region_held_drew (S := (fun w' => w'.cell? ⟨w.heap.size, 0, none⟩ = some (.slice A0_0 d0.points.length c0_0) ∧ w'.cell? ⟨w.heap.size, 1, none⟩ = some (.slice A0_1 d0.segs.length c0_1) ∧ w'.cell? ⟨w.heap.size + 1, 0, none⟩ = some (.int .i64 d1.gap) ∧ w'.cell? ⟨w.heap.size + 1, 1, none⟩ = some (.bool d1.noMeet) ∧ w'.cell? ⟨w.heap.size + 2, 0, none⟩ = some (.int .i64 d2.ship) ∧ w'.cell? ⟨w.heap.size + 2, 1, none⟩ = some (.int .i64 d2.segment) ∧ w'.cell? ⟨w.heap.size + 2, 2, none⟩ = some (.bool d2.toward) ∧ w'.cell? ⟨w.heap.size + 2, 3, none⟩ = some (.int .i64 d2.start) ∧ w'.cell? ⟨w.heap.size + 2, 4, none⟩ = some (.int .i64 d2.stop) ∧ w'.cell? ⟨w.heap.size + 3, 0, none⟩ = some (.int .i64 d3.ship) ∧ w'.cell? ⟨w.heap.size + 3, 1, none⟩ = some (.int .i64 d3.segment) ∧ w'.cell? ⟨w.heap.size + 3, 2, none⟩ = some (.bool d3.toward) ∧ w'.cell? ⟨w.heap.size + 3, 3, none⟩ = some (.int .i64 d3.start) ∧ w'.cell? ⟨w.heap.size + 3, 4, none⟩ = some (.int .i64 d3.stop) ∧ Hid (Below (w1).heap.size (w1) w'))) (by kernel_rfl) ?_ (fun hHeld => ?_)
    · (try dsimp only); go_keep
    refine wpAnyH_take (i := 0) (v := ?_) (by simp only [List.getElem?_toArray, List.getElem?_cons_zero]; rfl) (by kernel_rfl) (by kernel_rfl) (by kernel_rfl) (by exact fun _ _ _ h => h) (Or.inl ⟨by rfl, ?_⟩) (by assumption) ?_; rotate_left; focus (intro w hSw; (try dsimp only at hSw); first | (go_simp; done) | (go_simp; with_reducible rfl))
    try simp only [Act.put, List.setIfInBounds_toArray, List.set_cons_zero, List.set_cons_succ]
    refine wpAnyH_take (i := 2) (v := ?_) (by simp only [List.getElem?_toArray, List.getElem?_cons_succ, List.getElem?_cons_zero]; rfl) (by kernel_rfl) (by kernel_rfl) (by kernel_rfl) (by exact fun _ _ _ h => h) (Or.inl ⟨by rfl, ?_⟩) (by assumption) ?_; rotate_left; focus (intro w hSw; (try dsimp only at hSw); first | (go_simp; done) | (go_simp; with_reducible rfl))
    try simp only [Act.put, List.setIfInBounds_toArray, List.set_cons_zero, List.set_cons_succ]
    refine wpAnyH_take (i := 4) (v := ?_) (by simp only [List.getElem?_toArray, List.getElem?_cons_succ, List.getElem?_cons_zero]; rfl) (by kernel_rfl) (by kernel_rfl) (by kernel_rfl) (by exact fun _ _ _ h => h) (Or.inl ⟨by rfl, ?_⟩) (by assumption) ?_; rotate_left; focus (intro w hSw; (try dsimp only at hSw); first | (go_simp; done) | (go_simp; with_reducible rfl))
    try simp only [Act.put, List.setIfInBounds_toArray, List.set_cons_zero, List.set_cons_succ]
    refine wpAnyH_take (i := 6) (v := ?_) (by simp only [List.getElem?_toArray, List.getElem?_cons_succ, List.getElem?_cons_zero]; rfl) (by kernel_rfl) (by kernel_rfl) (by kernel_rfl) (by exact fun _ _ _ h => h) (Or.inl ⟨by rfl, ?_⟩) (by assumption) ?_; rotate_left; focus (intro w hSw; (try dsimp only at hSw); first | (go_simp; done) | (go_simp; with_reducible rfl))
    try simp only [Act.put, List.setIfInBounds_toArray, List.set_cons_zero, List.set_cons_succ]
    refine wpAnyH_ready (rs := [1]) (by kernel_rfl) (by simp) ?_
    refine AllReadyH.cons rfl (fun K hK => ?_) AllReadyH.nil
    rw [if_pos (by rfl)]
    go_simp
    go_at_call 28
    have kB := hHeld.2.2.2.2.2.2.2.2.2.2.2.2.2.2
    refine (toChart_any _ _ d0 _ (R0.out.below (BW.out.trans ((B1.out.trans (kB.out.mono B1.out.size)).mono hs0)))).mono ?_
    intro e wt0 hN
    obtain ⟨Q0_0, q0_0, Q0_1, q0_1, rfl, hRD, hbk⟩ := hN.rd (by omega) (by omega)
    have HRD0 := Lib.hid hRD
    have HBK := kB.out.trans (hbk.mono kB.out.size)
    have QS0 := Lib.hid (show wt0.cell? ⟨w.heap.size, 0, none⟩ = some (.slice A0_0 d0.points.length c0_0) ∧ wt0.cell? ⟨w.heap.size, 1, none⟩ = some (.slice A0_1 d0.segs.length c0_1) ∧ wt0.cell? ⟨w.heap.size + 1, 0, none⟩ = some (.int .i64 d1.gap) ∧ wt0.cell? ⟨w.heap.size + 1, 1, none⟩ = some (.bool d1.noMeet) ∧ wt0.cell? ⟨w.heap.size + 2, 0, none⟩ = some (.int .i64 d2.ship) ∧ wt0.cell? ⟨w.heap.size + 2, 1, none⟩ = some (.int .i64 d2.segment) ∧ wt0.cell? ⟨w.heap.size + 2, 2, none⟩ = some (.bool d2.toward) ∧ wt0.cell? ⟨w.heap.size + 2, 3, none⟩ = some (.int .i64 d2.start) ∧ wt0.cell? ⟨w.heap.size + 2, 4, none⟩ = some (.int .i64 d2.stop) ∧ wt0.cell? ⟨w.heap.size + 3, 0, none⟩ = some (.int .i64 d3.ship) ∧ wt0.cell? ⟨w.heap.size + 3, 1, none⟩ = some (.int .i64 d3.segment) ∧ wt0.cell? ⟨w.heap.size + 3, 2, none⟩ = some (.bool d3.toward) ∧ wt0.cell? ⟨w.heap.size + 3, 3, none⟩ = some (.int .i64 d3.start) ∧ wt0.cell? ⟨w.heap.size + 3, 4, none⟩ = some (.int .i64 d3.stop) ∧ Hid (Below (w1).heap.size (w1) wt0) from ⟨cell_onV (cell_onV (ABX0.out.1) B1.out) HBK, cell_onV (cell_onV (ABX0.out.2) B1.out) HBK, cell_onV (cell_onV (ABX1.out.1) B1.out) HBK, cell_onV (cell_onV (ABX1.out.2) B1.out) HBK, cell_onV (cell_onV (ABX2.out.1) B1.out) HBK, cell_onV (cell_onV (ABX2.out.2.1) B1.out) HBK, cell_onV (cell_onV (ABX2.out.2.2.1) B1.out) HBK, cell_onV (cell_onV (ABX2.out.2.2.2.1) B1.out) HBK, cell_onV (cell_onV (ABX2.out.2.2.2.2) B1.out) HBK, cell_onV (cell_onV (ABX3.out.1) B1.out) HBK, cell_onV (cell_onV (ABX3.out.2.1) B1.out) HBK, cell_onV (cell_onV (ABX3.out.2.2.1) B1.out) HBK, cell_onV (cell_onV (ABX3.out.2.2.2.1) B1.out) HBK, cell_onV (cell_onV (ABX3.out.2.2.2.2) B1.out) HBK, Lib.hid HBK⟩)
    clear hbk kB hHeld hN hRD HBK
    go_simp
    refine hK.out _ _ ?_ (fun hHeld => ?_)
    · (try dsimp only); exact QS0.out
    clear hK K
    try simp only [Act.put, List.setIfInBounds_toArray, List.set_cons_zero, List.set_cons_succ]
    refine wpAnyH_ready (rs := [3]) (by kernel_rfl) (by simp) ?_
    refine AllReadyH.cons rfl (fun K hK => ?_) AllReadyH.nil
    rw [if_pos (by rfl)]
    go_simp
    go_at_call 23
    have kB := hHeld.2.2.2.2.2.2.2.2.2.2.2.2.2.2
    refine (toRegime_any d1.gap d1.noMeet _).mono ?_
    rintro e wt1 ⟨rfl, hbk⟩
    have HRD0' := Lib.hid (HRD0.out.below hbk)
    clear HRD0
    have HRD0 := HRD0'
    clear HRD0'
    have HBK := kB.out.trans (hbk.mono kB.out.size)
    have QS1 := Lib.hid (show wt1.cell? ⟨w.heap.size, 0, none⟩ = some (.slice A0_0 d0.points.length c0_0) ∧ wt1.cell? ⟨w.heap.size, 1, none⟩ = some (.slice A0_1 d0.segs.length c0_1) ∧ wt1.cell? ⟨w.heap.size + 1, 0, none⟩ = some (.int .i64 d1.gap) ∧ wt1.cell? ⟨w.heap.size + 1, 1, none⟩ = some (.bool d1.noMeet) ∧ wt1.cell? ⟨w.heap.size + 2, 0, none⟩ = some (.int .i64 d2.ship) ∧ wt1.cell? ⟨w.heap.size + 2, 1, none⟩ = some (.int .i64 d2.segment) ∧ wt1.cell? ⟨w.heap.size + 2, 2, none⟩ = some (.bool d2.toward) ∧ wt1.cell? ⟨w.heap.size + 2, 3, none⟩ = some (.int .i64 d2.start) ∧ wt1.cell? ⟨w.heap.size + 2, 4, none⟩ = some (.int .i64 d2.stop) ∧ wt1.cell? ⟨w.heap.size + 3, 0, none⟩ = some (.int .i64 d3.ship) ∧ wt1.cell? ⟨w.heap.size + 3, 1, none⟩ = some (.int .i64 d3.segment) ∧ wt1.cell? ⟨w.heap.size + 3, 2, none⟩ = some (.bool d3.toward) ∧ wt1.cell? ⟨w.heap.size + 3, 3, none⟩ = some (.int .i64 d3.start) ∧ wt1.cell? ⟨w.heap.size + 3, 4, none⟩ = some (.int .i64 d3.stop) ∧ Hid (Below (w1).heap.size (w1) wt1) from ⟨cell_onV (cell_onV (ABX0.out.1) B1.out) HBK, cell_onV (cell_onV (ABX0.out.2) B1.out) HBK, cell_onV (cell_onV (ABX1.out.1) B1.out) HBK, cell_onV (cell_onV (ABX1.out.2) B1.out) HBK, cell_onV (cell_onV (ABX2.out.1) B1.out) HBK, cell_onV (cell_onV (ABX2.out.2.1) B1.out) HBK, cell_onV (cell_onV (ABX2.out.2.2.1) B1.out) HBK, cell_onV (cell_onV (ABX2.out.2.2.2.1) B1.out) HBK, cell_onV (cell_onV (ABX2.out.2.2.2.2) B1.out) HBK, cell_onV (cell_onV (ABX3.out.1) B1.out) HBK, cell_onV (cell_onV (ABX3.out.2.1) B1.out) HBK, cell_onV (cell_onV (ABX3.out.2.2.1) B1.out) HBK, cell_onV (cell_onV (ABX3.out.2.2.2.1) B1.out) HBK, cell_onV (cell_onV (ABX3.out.2.2.2.2) B1.out) HBK, Lib.hid HBK⟩)
    clear hbk kB hHeld HBK
    go_simp
    refine hK.out _ _ ?_ (fun hHeld => ?_)
    · (try dsimp only); exact QS1.out
    clear hK K
    try simp only [Act.put, List.setIfInBounds_toArray, List.set_cons_zero, List.set_cons_succ]
    refine wpAnyH_ready (rs := [5]) (by kernel_rfl) (by simp) ?_
    refine AllReadyH.cons rfl (fun K hK => ?_) AllReadyH.nil
    rw [if_pos (by rfl)]
    go_simp
    go_at_call 25
    have kB := hHeld.2.2.2.2.2.2.2.2.2.2.2.2.2.2
    refine (toPassage_any d2.ship d2.segment d2.toward d2.start d2.stop _).mono ?_
    rintro e wt2 ⟨rfl, hbk⟩
    have HRD0' := Lib.hid (HRD0.out.below hbk)
    clear HRD0
    have HRD0 := HRD0'
    clear HRD0'
    have HBK := kB.out.trans (hbk.mono kB.out.size)
    have QS2 := Lib.hid (show wt2.cell? ⟨w.heap.size, 0, none⟩ = some (.slice A0_0 d0.points.length c0_0) ∧ wt2.cell? ⟨w.heap.size, 1, none⟩ = some (.slice A0_1 d0.segs.length c0_1) ∧ wt2.cell? ⟨w.heap.size + 1, 0, none⟩ = some (.int .i64 d1.gap) ∧ wt2.cell? ⟨w.heap.size + 1, 1, none⟩ = some (.bool d1.noMeet) ∧ wt2.cell? ⟨w.heap.size + 2, 0, none⟩ = some (.int .i64 d2.ship) ∧ wt2.cell? ⟨w.heap.size + 2, 1, none⟩ = some (.int .i64 d2.segment) ∧ wt2.cell? ⟨w.heap.size + 2, 2, none⟩ = some (.bool d2.toward) ∧ wt2.cell? ⟨w.heap.size + 2, 3, none⟩ = some (.int .i64 d2.start) ∧ wt2.cell? ⟨w.heap.size + 2, 4, none⟩ = some (.int .i64 d2.stop) ∧ wt2.cell? ⟨w.heap.size + 3, 0, none⟩ = some (.int .i64 d3.ship) ∧ wt2.cell? ⟨w.heap.size + 3, 1, none⟩ = some (.int .i64 d3.segment) ∧ wt2.cell? ⟨w.heap.size + 3, 2, none⟩ = some (.bool d3.toward) ∧ wt2.cell? ⟨w.heap.size + 3, 3, none⟩ = some (.int .i64 d3.start) ∧ wt2.cell? ⟨w.heap.size + 3, 4, none⟩ = some (.int .i64 d3.stop) ∧ Hid (Below (w1).heap.size (w1) wt2) from ⟨cell_onV (cell_onV (ABX0.out.1) B1.out) HBK, cell_onV (cell_onV (ABX0.out.2) B1.out) HBK, cell_onV (cell_onV (ABX1.out.1) B1.out) HBK, cell_onV (cell_onV (ABX1.out.2) B1.out) HBK, cell_onV (cell_onV (ABX2.out.1) B1.out) HBK, cell_onV (cell_onV (ABX2.out.2.1) B1.out) HBK, cell_onV (cell_onV (ABX2.out.2.2.1) B1.out) HBK, cell_onV (cell_onV (ABX2.out.2.2.2.1) B1.out) HBK, cell_onV (cell_onV (ABX2.out.2.2.2.2) B1.out) HBK, cell_onV (cell_onV (ABX3.out.1) B1.out) HBK, cell_onV (cell_onV (ABX3.out.2.1) B1.out) HBK, cell_onV (cell_onV (ABX3.out.2.2.1) B1.out) HBK, cell_onV (cell_onV (ABX3.out.2.2.2.1) B1.out) HBK, cell_onV (cell_onV (ABX3.out.2.2.2.2) B1.out) HBK, Lib.hid HBK⟩)
    clear hbk kB hHeld HBK
    go_simp
    refine hK.out _ _ ?_ (fun hHeld => ?_)
    · (try dsimp only); exact QS2.out
    clear hK K
    try simp only [Act.put, List.setIfInBounds_toArray, List.set_cons_zero, List.set_cons_succ]
    refine wpAnyH_ready (rs := [7]) (by kernel_rfl) (by simp) ?_
    refine AllReadyH.cons rfl (fun K hK => ?_) AllReadyH.nil
    rw [if_pos (by rfl)]
    go_simp
    go_at_call 25
    have kB := hHeld.2.2.2.2.2.2.2.2.2.2.2.2.2.2
    refine (toPassage_any d3.ship d3.segment d3.toward d3.start d3.stop _).mono ?_
    rintro e wt3 ⟨rfl, hbk⟩
    have HRD0' := Lib.hid (HRD0.out.below hbk)
    clear HRD0
    have HRD0 := HRD0'
    clear HRD0'
    have HBK := kB.out.trans (hbk.mono kB.out.size)
    have QS3 := Lib.hid (show wt3.cell? ⟨w.heap.size, 0, none⟩ = some (.slice A0_0 d0.points.length c0_0) ∧ wt3.cell? ⟨w.heap.size, 1, none⟩ = some (.slice A0_1 d0.segs.length c0_1) ∧ wt3.cell? ⟨w.heap.size + 1, 0, none⟩ = some (.int .i64 d1.gap) ∧ wt3.cell? ⟨w.heap.size + 1, 1, none⟩ = some (.bool d1.noMeet) ∧ wt3.cell? ⟨w.heap.size + 2, 0, none⟩ = some (.int .i64 d2.ship) ∧ wt3.cell? ⟨w.heap.size + 2, 1, none⟩ = some (.int .i64 d2.segment) ∧ wt3.cell? ⟨w.heap.size + 2, 2, none⟩ = some (.bool d2.toward) ∧ wt3.cell? ⟨w.heap.size + 2, 3, none⟩ = some (.int .i64 d2.start) ∧ wt3.cell? ⟨w.heap.size + 2, 4, none⟩ = some (.int .i64 d2.stop) ∧ wt3.cell? ⟨w.heap.size + 3, 0, none⟩ = some (.int .i64 d3.ship) ∧ wt3.cell? ⟨w.heap.size + 3, 1, none⟩ = some (.int .i64 d3.segment) ∧ wt3.cell? ⟨w.heap.size + 3, 2, none⟩ = some (.bool d3.toward) ∧ wt3.cell? ⟨w.heap.size + 3, 3, none⟩ = some (.int .i64 d3.start) ∧ wt3.cell? ⟨w.heap.size + 3, 4, none⟩ = some (.int .i64 d3.stop) ∧ Hid (Below (w1).heap.size (w1) wt3) from ⟨cell_onV (cell_onV (ABX0.out.1) B1.out) HBK, cell_onV (cell_onV (ABX0.out.2) B1.out) HBK, cell_onV (cell_onV (ABX1.out.1) B1.out) HBK, cell_onV (cell_onV (ABX1.out.2) B1.out) HBK, cell_onV (cell_onV (ABX2.out.1) B1.out) HBK, cell_onV (cell_onV (ABX2.out.2.1) B1.out) HBK, cell_onV (cell_onV (ABX2.out.2.2.1) B1.out) HBK, cell_onV (cell_onV (ABX2.out.2.2.2.1) B1.out) HBK, cell_onV (cell_onV (ABX2.out.2.2.2.2) B1.out) HBK, cell_onV (cell_onV (ABX3.out.1) B1.out) HBK, cell_onV (cell_onV (ABX3.out.2.1) B1.out) HBK, cell_onV (cell_onV (ABX3.out.2.2.1) B1.out) HBK, cell_onV (cell_onV (ABX3.out.2.2.2.1) B1.out) HBK, cell_onV (cell_onV (ABX3.out.2.2.2.2) B1.out) HBK, Lib.hid HBK⟩)
    clear hbk kB hHeld HBK
    go_simp
    refine hK.out _ _ ?_ (fun hHeld => ?_)
    · (try dsimp only); exact QS3.out
    clear hK K
    try simp only [Act.put, List.setIfInBounds_toArray, List.set_cons_zero, List.set_cons_succ]
    refine wpAnyH_ready (rs := [8]) (by kernel_rfl) (by simp) ?_
    refine AllReadyH.cons rfl (fun K hK => ?_) AllReadyH.nil
    rw [if_pos (by rfl)]
    go_simp
    go_at_call 27
    have kB := hHeld.2.2.2.2.2.2.2.2.2.2.2.2.2.2
    refine (specConflictOf _ _ d0 d1 d2 d3 _ HRD0.out WF0_0.out hin2 hin3).mono ?_
    rw [HR0.out]
    rintro e wq ⟨rfl, hbk⟩
    have HBK := kB.out.trans (hbk.mono kB.out.size)
    have QQ := Lib.hid (show wq.cell? ⟨w.heap.size, 0, none⟩ = some (.slice A0_0 d0.points.length c0_0) ∧ wq.cell? ⟨w.heap.size, 1, none⟩ = some (.slice A0_1 d0.segs.length c0_1) ∧ wq.cell? ⟨w.heap.size + 1, 0, none⟩ = some (.int .i64 d1.gap) ∧ wq.cell? ⟨w.heap.size + 1, 1, none⟩ = some (.bool d1.noMeet) ∧ wq.cell? ⟨w.heap.size + 2, 0, none⟩ = some (.int .i64 d2.ship) ∧ wq.cell? ⟨w.heap.size + 2, 1, none⟩ = some (.int .i64 d2.segment) ∧ wq.cell? ⟨w.heap.size + 2, 2, none⟩ = some (.bool d2.toward) ∧ wq.cell? ⟨w.heap.size + 2, 3, none⟩ = some (.int .i64 d2.start) ∧ wq.cell? ⟨w.heap.size + 2, 4, none⟩ = some (.int .i64 d2.stop) ∧ wq.cell? ⟨w.heap.size + 3, 0, none⟩ = some (.int .i64 d3.ship) ∧ wq.cell? ⟨w.heap.size + 3, 1, none⟩ = some (.int .i64 d3.segment) ∧ wq.cell? ⟨w.heap.size + 3, 2, none⟩ = some (.bool d3.toward) ∧ wq.cell? ⟨w.heap.size + 3, 3, none⟩ = some (.int .i64 d3.start) ∧ wq.cell? ⟨w.heap.size + 3, 4, none⟩ = some (.int .i64 d3.stop) ∧ Hid (Below (w1).heap.size (w1) wq) from ⟨cell_onV (cell_onV (ABX0.out.1) B1.out) HBK, cell_onV (cell_onV (ABX0.out.2) B1.out) HBK, cell_onV (cell_onV (ABX1.out.1) B1.out) HBK, cell_onV (cell_onV (ABX1.out.2) B1.out) HBK, cell_onV (cell_onV (ABX2.out.1) B1.out) HBK, cell_onV (cell_onV (ABX2.out.2.1) B1.out) HBK, cell_onV (cell_onV (ABX2.out.2.2.1) B1.out) HBK, cell_onV (cell_onV (ABX2.out.2.2.2.1) B1.out) HBK, cell_onV (cell_onV (ABX2.out.2.2.2.2) B1.out) HBK, cell_onV (cell_onV (ABX3.out.1) B1.out) HBK, cell_onV (cell_onV (ABX3.out.2.1) B1.out) HBK, cell_onV (cell_onV (ABX3.out.2.2.1) B1.out) HBK, cell_onV (cell_onV (ABX3.out.2.2.2.1) B1.out) HBK, cell_onV (cell_onV (ABX3.out.2.2.2.2) B1.out) HBK, Lib.hid HBK⟩)
    clear hbk kB hHeld HBK
    go_simp
    refine hK.out _ _ ?_ (fun hHeld => ?_)
    · (try dsimp only); exact QQ.out
    clear hK K
    try simp only [Act.put, List.setIfInBounds_toArray, List.set_cons_zero, List.set_cons_succ]
    refine wpAnyH_take (i := 9) (v := ?_) (by simp only [List.getElem?_toArray, List.getElem?_cons_succ, List.getElem?_cons_zero]; rfl) (by kernel_rfl) (by kernel_rfl) (by kernel_rfl) (by exact fun _ _ _ h => h) (Or.inl ⟨by rfl, ?_⟩) (by assumption) ?_; rotate_left; focus (intro w hSw; (try dsimp only at hSw); first | (go_simp; done) | (go_simp; with_reducible rfl))
    try simp only [Act.put, List.setIfInBounds_toArray, List.set_cons_zero, List.set_cons_succ]
    refine wpAnyH_done (by kernel_rfl) ?_ _
    go_wp2_with fail
    go_meet
    exact ⟨rfl, hHeld.2.2.2.2.2.2.2.2.2.2.2.2.2.2⟩
  case rest =>
    obtain ⟨rfl, hbH⟩ := hcut
    have hb2 := hbH.out
    obtain ⟨w2, rfl⟩ : ∃ W, W = wc := ⟨_, rfl⟩
    clear hbH DD y0_0 y0_1 y1_0 y1_1 y2_0 y2_1 y2_2 y2_3 y2_4 y3_0 y3_1 y3_2 y3_3 y3_4 
    have B2 := Lib.hid (B1.out.trans (hb2.mono B1.out.size))
    have hz2 : (w1).heap.size ≤ w2.heap.size := hb2.size
    clear hb2
    -- x0 := toChart(aC)
    have y0_0 : (w2).cell? ⟨w.heap.size, 0, none⟩ = some (.slice A0_0 d0.points.length c0_0) := cell_onV (ABX0.out.1) B2.out
    have y0_1 : (w2).cell? ⟨w.heap.size, 1, none⟩ = some (.slice A0_1 d0.segs.length c0_1) := cell_onV (ABX0.out.2) B2.out
    go_wp2_with fail
    refine (toChart_any _ _ d0 _ (R0.out.below (BW.out.trans (B2.out.mono hs0)))).mono ?_
    intro e w3 hN
    obtain ⟨u3_0, u3_1, rfl, o3_0, o3_1, ap3_0_1, hb3⟩ := hN
    have S3_0 := Lib.hid (OwnPoint.sl o3_0 (by omega))
    have RG3_0 := Lib.hid (own_range o3_0)
    have FR3_0 := Lib.hid (own_freeV o3_0)
    obtain ⟨D3_0, k3_0, rfl⟩ := own_form o3_0
    have S3_1 := Lib.hid (OwnSegment.sl o3_1 (by omega))
    have RG3_1 := Lib.hid (own_range o3_1)
    have FR3_1 := Lib.hid (own_freeV o3_1)
    obtain ⟨D3_1, k3_1, rfl⟩ := own_form o3_1
    have AP3_0_1 := Lib.hid ap3_0_1
    clear ap3_0_1
    have B3 := Lib.hid (B2.out.trans (hb3.mono B2.out.size))
    have hz3 : (w2).heap.size ≤ w3.heap.size := hb3.size
    clear hb3 o3_0 o3_1 y0_0 y0_1
    have BX_x0 := Lib.hid (ChartBox.new 26 (show RdChart w3 (.slice D3_0 d0.points.length k3_0) (.slice D3_1 d0.segs.length k3_1) d0 from ⟨S3_0.out, S3_1.out⟩))
    have hb3b := Joins.below_alloc1 w3 (.cells #[.slice D3_0 d0.points.length k3_0, .slice D3_1 d0.segs.length k3_1] 26)
    have B3x := Lib.hid (B3.out.trans (hb3b.mono B3.out.size))
    have FX_x0_0 := Lib.hid (FR3_0.out.below hb3b)
    have FX_x0_1 := Lib.hid (FR3_1.out.below hb3b)
    clear hb3b
    have hsx3 : ((w3.alloc (.cells #[.slice D3_0 d0.points.length k3_0, .slice D3_1 d0.segs.length k3_1] 26))).heap.size = w3.heap.size + 1 := by simp
    -- g0 := impl.ConflictOf(x0, toRegime(aR), toPassage(aP), toPassage(aQ))
    have y1_0 : ((w3.alloc (.cells #[.slice D3_0 d0.points.length k3_0, .slice D3_1 d0.segs.length k3_1] 26))).cell? ⟨w.heap.size + 1, 0, none⟩ = some (.int .i64 d1.gap) := cell_onV (ABX1.out.1) B3x.out
    have y1_1 : ((w3.alloc (.cells #[.slice D3_0 d0.points.length k3_0, .slice D3_1 d0.segs.length k3_1] 26))).cell? ⟨w.heap.size + 1, 1, none⟩ = some (.bool d1.noMeet) := cell_onV (ABX1.out.2) B3x.out
    have y2_0 : ((w3.alloc (.cells #[.slice D3_0 d0.points.length k3_0, .slice D3_1 d0.segs.length k3_1] 26))).cell? ⟨w.heap.size + 2, 0, none⟩ = some (.int .i64 d2.ship) := cell_onV (ABX2.out.1) B3x.out
    have y2_1 : ((w3.alloc (.cells #[.slice D3_0 d0.points.length k3_0, .slice D3_1 d0.segs.length k3_1] 26))).cell? ⟨w.heap.size + 2, 1, none⟩ = some (.int .i64 d2.segment) := cell_onV (ABX2.out.2.1) B3x.out
    have y2_2 : ((w3.alloc (.cells #[.slice D3_0 d0.points.length k3_0, .slice D3_1 d0.segs.length k3_1] 26))).cell? ⟨w.heap.size + 2, 2, none⟩ = some (.bool d2.toward) := cell_onV (ABX2.out.2.2.1) B3x.out
    have y2_3 : ((w3.alloc (.cells #[.slice D3_0 d0.points.length k3_0, .slice D3_1 d0.segs.length k3_1] 26))).cell? ⟨w.heap.size + 2, 3, none⟩ = some (.int .i64 d2.start) := cell_onV (ABX2.out.2.2.2.1) B3x.out
    have y2_4 : ((w3.alloc (.cells #[.slice D3_0 d0.points.length k3_0, .slice D3_1 d0.segs.length k3_1] 26))).cell? ⟨w.heap.size + 2, 4, none⟩ = some (.int .i64 d2.stop) := cell_onV (ABX2.out.2.2.2.2) B3x.out
    have y3_0 : ((w3.alloc (.cells #[.slice D3_0 d0.points.length k3_0, .slice D3_1 d0.segs.length k3_1] 26))).cell? ⟨w.heap.size + 3, 0, none⟩ = some (.int .i64 d3.ship) := cell_onV (ABX3.out.1) B3x.out
    have y3_1 : ((w3.alloc (.cells #[.slice D3_0 d0.points.length k3_0, .slice D3_1 d0.segs.length k3_1] 26))).cell? ⟨w.heap.size + 3, 1, none⟩ = some (.int .i64 d3.segment) := cell_onV (ABX3.out.2.1) B3x.out
    have y3_2 : ((w3.alloc (.cells #[.slice D3_0 d0.points.length k3_0, .slice D3_1 d0.segs.length k3_1] 26))).cell? ⟨w.heap.size + 3, 2, none⟩ = some (.bool d3.toward) := cell_onV (ABX3.out.2.2.1) B3x.out
    have y3_3 : ((w3.alloc (.cells #[.slice D3_0 d0.points.length k3_0, .slice D3_1 d0.segs.length k3_1] 26))).cell? ⟨w.heap.size + 3, 3, none⟩ = some (.int .i64 d3.start) := cell_onV (ABX3.out.2.2.2.1) B3x.out
    have y3_4 : ((w3.alloc (.cells #[.slice D3_0 d0.points.length k3_0, .slice D3_1 d0.segs.length k3_1] 26))).cell? ⟨w.heap.size + 3, 4, none⟩ = some (.int .i64 d3.stop) := cell_onV (ABX3.out.2.2.2.2) B3x.out
    obtain ⟨z_x0_0, z_x0_1, _⟩ := BX_x0.out
    have hDD := (Below.refl ((w3.alloc (.cells #[.slice D3_0 d0.points.length k3_0, .slice D3_1 d0.segs.length k3_1] 26))).heap.size ((w3.alloc (.cells #[.slice D3_0 d0.points.length k3_0, .slice D3_1 d0.segs.length k3_1] 26)))).drew
    simp only [World.size_alloc] at hDD
    have DD := Lib.hid hDD
    clear hDD
    go_upto_region 7 with fail
    go_cut [12] (fun sL wx => sL = .int .i64 r0 ∧ Hid (Below ((w3.alloc (.cells #[.slice D3_0 d0.points.length k3_0, .slice D3_1 d0.segs.length k3_1] 26))).heap.size ((w3.alloc (.cells #[.slice D3_0 d0.points.length k3_0, .slice D3_1 d0.segs.length k3_1] 26))) wx))
    case first =>
      refine wp_region_held_drew (S := (fun w' => w'.cell? ⟨w3.heap.size, 0, none⟩ = some (.slice D3_0 d0.points.length k3_0) ∧ w'.cell? ⟨w3.heap.size, 1, none⟩ = some (.slice D3_1 d0.segs.length k3_1) ∧ w'.cell? ⟨w.heap.size + 1, 0, none⟩ = some (.int .i64 d1.gap) ∧ w'.cell? ⟨w.heap.size + 1, 1, none⟩ = some (.bool d1.noMeet) ∧ w'.cell? ⟨w.heap.size + 2, 0, none⟩ = some (.int .i64 d2.ship) ∧ w'.cell? ⟨w.heap.size + 2, 1, none⟩ = some (.int .i64 d2.segment) ∧ w'.cell? ⟨w.heap.size + 2, 2, none⟩ = some (.bool d2.toward) ∧ w'.cell? ⟨w.heap.size + 2, 3, none⟩ = some (.int .i64 d2.start) ∧ w'.cell? ⟨w.heap.size + 2, 4, none⟩ = some (.int .i64 d2.stop) ∧ w'.cell? ⟨w.heap.size + 3, 0, none⟩ = some (.int .i64 d3.ship) ∧ w'.cell? ⟨w.heap.size + 3, 1, none⟩ = some (.int .i64 d3.segment) ∧ w'.cell? ⟨w.heap.size + 3, 2, none⟩ = some (.bool d3.toward) ∧ w'.cell? ⟨w.heap.size + 3, 3, none⟩ = some (.int .i64 d3.start) ∧ w'.cell? ⟨w.heap.size + 3, 4, none⟩ = some (.int .i64 d3.stop) ∧ Hid (Below ((w3.alloc (.cells #[.slice D3_0 d0.points.length k3_0, .slice D3_1 d0.segs.length k3_1] 26))).heap.size ((w3.alloc (.cells #[.slice D3_0 d0.points.length k3_0, .slice D3_1 d0.segs.length k3_1] 26))) w'))) (by kernel_rfl) ?_ (fun hHeld => ?_)
      · (try dsimp only); go_keep
      refine wpAnyH_take (i := 0) (v := ?_) (by simp only [List.getElem?_toArray, List.getElem?_cons_zero]; rfl) (by kernel_rfl) (by kernel_rfl) (by kernel_rfl) (by exact fun _ _ _ h => h) (Or.inl ⟨by rfl, ?_⟩) (by assumption) ?_; rotate_left; focus (intro w hSw; (try dsimp only at hSw); first | (go_simp; done) | (go_simp; with_reducible rfl))
      try simp only [Act.put, List.setIfInBounds_toArray, List.set_cons_zero, List.set_cons_succ]
      refine wpAnyH_take (i := 1) (v := ?_) (by simp only [List.getElem?_toArray, List.getElem?_cons_succ, List.getElem?_cons_zero]; rfl) (by kernel_rfl) (by kernel_rfl) (by kernel_rfl) (by exact fun _ _ _ h => h) (Or.inl ⟨by rfl, ?_⟩) (by assumption) ?_; rotate_left; focus (intro w hSw; (try dsimp only at hSw); first | (go_simp; done) | (go_simp; with_reducible rfl))
      try simp only [Act.put, List.setIfInBounds_toArray, List.set_cons_zero, List.set_cons_succ]
      refine wpAnyH_take (i := 3) (v := ?_) (by simp only [List.getElem?_toArray, List.getElem?_cons_succ, List.getElem?_cons_zero]; rfl) (by kernel_rfl) (by kernel_rfl) (by kernel_rfl) (by exact fun _ _ _ h => h) (Or.inl ⟨by rfl, ?_⟩) (by assumption) ?_; rotate_left; focus (intro w hSw; (try dsimp only at hSw); first | (go_simp; done) | (go_simp; with_reducible rfl))
      try simp only [Act.put, List.setIfInBounds_toArray, List.set_cons_zero, List.set_cons_succ]
      refine wpAnyH_take (i := 5) (v := ?_) (by simp only [List.getElem?_toArray, List.getElem?_cons_succ, List.getElem?_cons_zero]; rfl) (by kernel_rfl) (by kernel_rfl) (by kernel_rfl) (by exact fun _ _ _ h => h) (Or.inl ⟨by rfl, ?_⟩) (by assumption) ?_; rotate_left; focus (intro w hSw; (try dsimp only at hSw); first | (go_simp; done) | (go_simp; with_reducible rfl))
      try simp only [Act.put, List.setIfInBounds_toArray, List.set_cons_zero, List.set_cons_succ]
      refine wpAnyH_ready (rs := [2]) (by kernel_rfl) (by simp) ?_
      refine AllReadyH.cons rfl (fun K hK => ?_) AllReadyH.nil
      rw [if_pos (by rfl)]
      go_simp
      go_at_call 23
      have kB := hHeld.2.2.2.2.2.2.2.2.2.2.2.2.2.2
      refine (toRegime_any d1.gap d1.noMeet _).mono ?_
      rintro e wt0 ⟨rfl, hbk⟩
      have HBK := kB.out.trans (hbk.mono kB.out.size)
      have QS0 := Lib.hid (show wt0.cell? ⟨w3.heap.size, 0, none⟩ = some (.slice D3_0 d0.points.length k3_0) ∧ wt0.cell? ⟨w3.heap.size, 1, none⟩ = some (.slice D3_1 d0.segs.length k3_1) ∧ wt0.cell? ⟨w.heap.size + 1, 0, none⟩ = some (.int .i64 d1.gap) ∧ wt0.cell? ⟨w.heap.size + 1, 1, none⟩ = some (.bool d1.noMeet) ∧ wt0.cell? ⟨w.heap.size + 2, 0, none⟩ = some (.int .i64 d2.ship) ∧ wt0.cell? ⟨w.heap.size + 2, 1, none⟩ = some (.int .i64 d2.segment) ∧ wt0.cell? ⟨w.heap.size + 2, 2, none⟩ = some (.bool d2.toward) ∧ wt0.cell? ⟨w.heap.size + 2, 3, none⟩ = some (.int .i64 d2.start) ∧ wt0.cell? ⟨w.heap.size + 2, 4, none⟩ = some (.int .i64 d2.stop) ∧ wt0.cell? ⟨w.heap.size + 3, 0, none⟩ = some (.int .i64 d3.ship) ∧ wt0.cell? ⟨w.heap.size + 3, 1, none⟩ = some (.int .i64 d3.segment) ∧ wt0.cell? ⟨w.heap.size + 3, 2, none⟩ = some (.bool d3.toward) ∧ wt0.cell? ⟨w.heap.size + 3, 3, none⟩ = some (.int .i64 d3.start) ∧ wt0.cell? ⟨w.heap.size + 3, 4, none⟩ = some (.int .i64 d3.stop) ∧ Hid (Below ((w3.alloc (.cells #[.slice D3_0 d0.points.length k3_0, .slice D3_1 d0.segs.length k3_1] 26))).heap.size ((w3.alloc (.cells #[.slice D3_0 d0.points.length k3_0, .slice D3_1 d0.segs.length k3_1] 26))) wt0) from ⟨(BX_x0.out.below HBK).1, (BX_x0.out.below HBK).2.1, cell_onV (cell_onV (ABX1.out.1) B3x.out) HBK, cell_onV (cell_onV (ABX1.out.2) B3x.out) HBK, cell_onV (cell_onV (ABX2.out.1) B3x.out) HBK, cell_onV (cell_onV (ABX2.out.2.1) B3x.out) HBK, cell_onV (cell_onV (ABX2.out.2.2.1) B3x.out) HBK, cell_onV (cell_onV (ABX2.out.2.2.2.1) B3x.out) HBK, cell_onV (cell_onV (ABX2.out.2.2.2.2) B3x.out) HBK, cell_onV (cell_onV (ABX3.out.1) B3x.out) HBK, cell_onV (cell_onV (ABX3.out.2.1) B3x.out) HBK, cell_onV (cell_onV (ABX3.out.2.2.1) B3x.out) HBK, cell_onV (cell_onV (ABX3.out.2.2.2.1) B3x.out) HBK, cell_onV (cell_onV (ABX3.out.2.2.2.2) B3x.out) HBK, Lib.hid HBK⟩)
      clear hbk kB hHeld HBK
      go_simp
      refine hK.out _ _ ?_ (fun hHeld => ?_)
      · (try dsimp only); exact QS0.out
      clear hK K
      try simp only [Act.put, List.setIfInBounds_toArray, List.set_cons_zero, List.set_cons_succ]
      refine wpAnyH_ready (rs := [4]) (by kernel_rfl) (by simp) ?_
      refine AllReadyH.cons rfl (fun K hK => ?_) AllReadyH.nil
      rw [if_pos (by rfl)]
      go_simp
      go_at_call 25
      have kB := hHeld.2.2.2.2.2.2.2.2.2.2.2.2.2.2
      refine (toPassage_any d2.ship d2.segment d2.toward d2.start d2.stop _).mono ?_
      rintro e wt1 ⟨rfl, hbk⟩
      have HBK := kB.out.trans (hbk.mono kB.out.size)
      have QS1 := Lib.hid (show wt1.cell? ⟨w3.heap.size, 0, none⟩ = some (.slice D3_0 d0.points.length k3_0) ∧ wt1.cell? ⟨w3.heap.size, 1, none⟩ = some (.slice D3_1 d0.segs.length k3_1) ∧ wt1.cell? ⟨w.heap.size + 1, 0, none⟩ = some (.int .i64 d1.gap) ∧ wt1.cell? ⟨w.heap.size + 1, 1, none⟩ = some (.bool d1.noMeet) ∧ wt1.cell? ⟨w.heap.size + 2, 0, none⟩ = some (.int .i64 d2.ship) ∧ wt1.cell? ⟨w.heap.size + 2, 1, none⟩ = some (.int .i64 d2.segment) ∧ wt1.cell? ⟨w.heap.size + 2, 2, none⟩ = some (.bool d2.toward) ∧ wt1.cell? ⟨w.heap.size + 2, 3, none⟩ = some (.int .i64 d2.start) ∧ wt1.cell? ⟨w.heap.size + 2, 4, none⟩ = some (.int .i64 d2.stop) ∧ wt1.cell? ⟨w.heap.size + 3, 0, none⟩ = some (.int .i64 d3.ship) ∧ wt1.cell? ⟨w.heap.size + 3, 1, none⟩ = some (.int .i64 d3.segment) ∧ wt1.cell? ⟨w.heap.size + 3, 2, none⟩ = some (.bool d3.toward) ∧ wt1.cell? ⟨w.heap.size + 3, 3, none⟩ = some (.int .i64 d3.start) ∧ wt1.cell? ⟨w.heap.size + 3, 4, none⟩ = some (.int .i64 d3.stop) ∧ Hid (Below ((w3.alloc (.cells #[.slice D3_0 d0.points.length k3_0, .slice D3_1 d0.segs.length k3_1] 26))).heap.size ((w3.alloc (.cells #[.slice D3_0 d0.points.length k3_0, .slice D3_1 d0.segs.length k3_1] 26))) wt1) from ⟨(BX_x0.out.below HBK).1, (BX_x0.out.below HBK).2.1, cell_onV (cell_onV (ABX1.out.1) B3x.out) HBK, cell_onV (cell_onV (ABX1.out.2) B3x.out) HBK, cell_onV (cell_onV (ABX2.out.1) B3x.out) HBK, cell_onV (cell_onV (ABX2.out.2.1) B3x.out) HBK, cell_onV (cell_onV (ABX2.out.2.2.1) B3x.out) HBK, cell_onV (cell_onV (ABX2.out.2.2.2.1) B3x.out) HBK, cell_onV (cell_onV (ABX2.out.2.2.2.2) B3x.out) HBK, cell_onV (cell_onV (ABX3.out.1) B3x.out) HBK, cell_onV (cell_onV (ABX3.out.2.1) B3x.out) HBK, cell_onV (cell_onV (ABX3.out.2.2.1) B3x.out) HBK, cell_onV (cell_onV (ABX3.out.2.2.2.1) B3x.out) HBK, cell_onV (cell_onV (ABX3.out.2.2.2.2) B3x.out) HBK, Lib.hid HBK⟩)
      clear hbk kB hHeld HBK
      go_simp
      refine hK.out _ _ ?_ (fun hHeld => ?_)
      · (try dsimp only); exact QS1.out
      clear hK K
      try simp only [Act.put, List.setIfInBounds_toArray, List.set_cons_zero, List.set_cons_succ]
      refine wpAnyH_ready (rs := [6]) (by kernel_rfl) (by simp) ?_
      refine AllReadyH.cons rfl (fun K hK => ?_) AllReadyH.nil
      rw [if_pos (by rfl)]
      go_simp
      go_at_call 25
      have kB := hHeld.2.2.2.2.2.2.2.2.2.2.2.2.2.2
      refine (toPassage_any d3.ship d3.segment d3.toward d3.start d3.stop _).mono ?_
      rintro e wt2 ⟨rfl, hbk⟩
      have HBK := kB.out.trans (hbk.mono kB.out.size)
      have QS2 := Lib.hid (show wt2.cell? ⟨w3.heap.size, 0, none⟩ = some (.slice D3_0 d0.points.length k3_0) ∧ wt2.cell? ⟨w3.heap.size, 1, none⟩ = some (.slice D3_1 d0.segs.length k3_1) ∧ wt2.cell? ⟨w.heap.size + 1, 0, none⟩ = some (.int .i64 d1.gap) ∧ wt2.cell? ⟨w.heap.size + 1, 1, none⟩ = some (.bool d1.noMeet) ∧ wt2.cell? ⟨w.heap.size + 2, 0, none⟩ = some (.int .i64 d2.ship) ∧ wt2.cell? ⟨w.heap.size + 2, 1, none⟩ = some (.int .i64 d2.segment) ∧ wt2.cell? ⟨w.heap.size + 2, 2, none⟩ = some (.bool d2.toward) ∧ wt2.cell? ⟨w.heap.size + 2, 3, none⟩ = some (.int .i64 d2.start) ∧ wt2.cell? ⟨w.heap.size + 2, 4, none⟩ = some (.int .i64 d2.stop) ∧ wt2.cell? ⟨w.heap.size + 3, 0, none⟩ = some (.int .i64 d3.ship) ∧ wt2.cell? ⟨w.heap.size + 3, 1, none⟩ = some (.int .i64 d3.segment) ∧ wt2.cell? ⟨w.heap.size + 3, 2, none⟩ = some (.bool d3.toward) ∧ wt2.cell? ⟨w.heap.size + 3, 3, none⟩ = some (.int .i64 d3.start) ∧ wt2.cell? ⟨w.heap.size + 3, 4, none⟩ = some (.int .i64 d3.stop) ∧ Hid (Below ((w3.alloc (.cells #[.slice D3_0 d0.points.length k3_0, .slice D3_1 d0.segs.length k3_1] 26))).heap.size ((w3.alloc (.cells #[.slice D3_0 d0.points.length k3_0, .slice D3_1 d0.segs.length k3_1] 26))) wt2) from ⟨(BX_x0.out.below HBK).1, (BX_x0.out.below HBK).2.1, cell_onV (cell_onV (ABX1.out.1) B3x.out) HBK, cell_onV (cell_onV (ABX1.out.2) B3x.out) HBK, cell_onV (cell_onV (ABX2.out.1) B3x.out) HBK, cell_onV (cell_onV (ABX2.out.2.1) B3x.out) HBK, cell_onV (cell_onV (ABX2.out.2.2.1) B3x.out) HBK, cell_onV (cell_onV (ABX2.out.2.2.2.1) B3x.out) HBK, cell_onV (cell_onV (ABX2.out.2.2.2.2) B3x.out) HBK, cell_onV (cell_onV (ABX3.out.1) B3x.out) HBK, cell_onV (cell_onV (ABX3.out.2.1) B3x.out) HBK, cell_onV (cell_onV (ABX3.out.2.2.1) B3x.out) HBK, cell_onV (cell_onV (ABX3.out.2.2.2.1) B3x.out) HBK, cell_onV (cell_onV (ABX3.out.2.2.2.2) B3x.out) HBK, Lib.hid HBK⟩)
      clear hbk kB hHeld HBK
      go_simp
      refine hK.out _ _ ?_ (fun hHeld => ?_)
      · (try dsimp only); exact QS2.out
      clear hK K
      try simp only [Act.put, List.setIfInBounds_toArray, List.set_cons_zero, List.set_cons_succ]
      refine wpAnyH_ready (rs := [7]) (by kernel_rfl) (by simp) ?_
      refine AllReadyH.cons rfl (fun K hK => ?_) AllReadyH.nil
      rw [if_pos (by rfl)]
      go_simp
      go_at_call 19
      have kB := hHeld.2.2.2.2.2.2.2.2.2.2.2.2.2.2
      refine (implConflictOf _ _ d0 d1 d2 d3 _ (BX_x0.out.below kB.out).2.2 WF0_0.out hin2 hin3).mono ?_
      rw [HR0.out]
      rintro e wq ⟨rfl, hbk⟩
      have HBK := kB.out.trans (hbk.mono kB.out.size)
      have QQ := Lib.hid (show wq.cell? ⟨w3.heap.size, 0, none⟩ = some (.slice D3_0 d0.points.length k3_0) ∧ wq.cell? ⟨w3.heap.size, 1, none⟩ = some (.slice D3_1 d0.segs.length k3_1) ∧ wq.cell? ⟨w.heap.size + 1, 0, none⟩ = some (.int .i64 d1.gap) ∧ wq.cell? ⟨w.heap.size + 1, 1, none⟩ = some (.bool d1.noMeet) ∧ wq.cell? ⟨w.heap.size + 2, 0, none⟩ = some (.int .i64 d2.ship) ∧ wq.cell? ⟨w.heap.size + 2, 1, none⟩ = some (.int .i64 d2.segment) ∧ wq.cell? ⟨w.heap.size + 2, 2, none⟩ = some (.bool d2.toward) ∧ wq.cell? ⟨w.heap.size + 2, 3, none⟩ = some (.int .i64 d2.start) ∧ wq.cell? ⟨w.heap.size + 2, 4, none⟩ = some (.int .i64 d2.stop) ∧ wq.cell? ⟨w.heap.size + 3, 0, none⟩ = some (.int .i64 d3.ship) ∧ wq.cell? ⟨w.heap.size + 3, 1, none⟩ = some (.int .i64 d3.segment) ∧ wq.cell? ⟨w.heap.size + 3, 2, none⟩ = some (.bool d3.toward) ∧ wq.cell? ⟨w.heap.size + 3, 3, none⟩ = some (.int .i64 d3.start) ∧ wq.cell? ⟨w.heap.size + 3, 4, none⟩ = some (.int .i64 d3.stop) ∧ Hid (Below ((w3.alloc (.cells #[.slice D3_0 d0.points.length k3_0, .slice D3_1 d0.segs.length k3_1] 26))).heap.size ((w3.alloc (.cells #[.slice D3_0 d0.points.length k3_0, .slice D3_1 d0.segs.length k3_1] 26))) wq) from ⟨(BX_x0.out.below HBK).1, (BX_x0.out.below HBK).2.1, cell_onV (cell_onV (ABX1.out.1) B3x.out) HBK, cell_onV (cell_onV (ABX1.out.2) B3x.out) HBK, cell_onV (cell_onV (ABX2.out.1) B3x.out) HBK, cell_onV (cell_onV (ABX2.out.2.1) B3x.out) HBK, cell_onV (cell_onV (ABX2.out.2.2.1) B3x.out) HBK, cell_onV (cell_onV (ABX2.out.2.2.2.1) B3x.out) HBK, cell_onV (cell_onV (ABX2.out.2.2.2.2) B3x.out) HBK, cell_onV (cell_onV (ABX3.out.1) B3x.out) HBK, cell_onV (cell_onV (ABX3.out.2.1) B3x.out) HBK, cell_onV (cell_onV (ABX3.out.2.2.1) B3x.out) HBK, cell_onV (cell_onV (ABX3.out.2.2.2.1) B3x.out) HBK, cell_onV (cell_onV (ABX3.out.2.2.2.2) B3x.out) HBK, Lib.hid HBK⟩)
      clear hbk kB hHeld HBK
      go_simp
      refine hK.out _ _ ?_ (fun hHeld => ?_)
      · (try dsimp only); exact QQ.out
      clear hK K
      try simp only [Act.put, List.setIfInBounds_toArray, List.set_cons_zero, List.set_cons_succ]
      refine wpAnyH_take (i := 8) (v := ?_) (by simp only [List.getElem?_toArray, List.getElem?_cons_succ, List.getElem?_cons_zero]; rfl) (by kernel_rfl) (by kernel_rfl) (by kernel_rfl) (by exact fun _ _ _ h => h) (Or.inl ⟨by rfl, ?_⟩) (by assumption) ?_; rotate_left; focus (intro w hSw; (try dsimp only at hSw); first | (go_simp; done) | (go_simp; with_reducible rfl))
      try simp only [Act.put, List.setIfInBounds_toArray, List.set_cons_zero, List.set_cons_succ]
      refine wpAnyH_done (by kernel_rfl) ?_ _
      go_wp2_with fail
      go_meet
      exact ⟨rfl, hHeld.2.2.2.2.2.2.2.2.2.2.2.2.2.2⟩
    case rest =>
      obtain ⟨rfl, hbH⟩ := hcut
      have hb4 := hbH.out
      obtain ⟨w4, rfl⟩ : ∃ W, W = wc := ⟨_, rfl⟩
      clear hbH DD y1_0 y1_1 y2_0 y2_1 y2_2 y2_3 y2_4 y3_0 y3_1 y3_2 y3_3 y3_4 z_x0_0 z_x0_1
      have B4 := Lib.hid (B3x.out.trans (hb4.mono B3x.out.size))
      have x0_4 := Lib.hid (BX_x0.out.below hb4)
      have x0F0_4 := Lib.hid (FX_x0_0.out.below hb4)
      have x0F1_4 := Lib.hid (FX_x0_1.out.below hb4)
      have hz4 : ((w3.alloc (.cells #[.slice D3_0 d0.points.length k3_0, .slice D3_1 d0.segs.length k3_1] 26))).heap.size ≤ w4.heap.size := hb4.size
      clear hb4
      -- if g0 != w0 {
      -- if !eqChart(x0, toChart(aC)) {
      have y0_0 : (w4).cell? ⟨w.heap.size, 0, none⟩ = some (.slice A0_0 d0.points.length c0_0) := cell_onV (ABX0.out.1) B4.out
      have y0_1 : (w4).cell? ⟨w.heap.size, 1, none⟩ = some (.slice A0_1 d0.segs.length c0_1) := cell_onV (ABX0.out.2) B4.out
      obtain ⟨z_x0_0, z_x0_1, _⟩ := x0_4.out
      have DD := Lib.hid ((Below.refl (w4).heap.size (w4)).drew)
      go_upto_region 10 with fail
      go_cut [44] (fun sL wx => sL = .bool false ∧ Hid (Below (w4).heap.size (w4) wx))
      case first =>
        refine wp_region_held_drew (S := (fun w' => w'.cell? ⟨w3.heap.size, 0, none⟩ = some (.slice D3_0 d0.points.length k3_0) ∧ w'.cell? ⟨w3.heap.size, 1, none⟩ = some (.slice D3_1 d0.segs.length k3_1) ∧ w'.cell? ⟨w.heap.size, 0, none⟩ = some (.slice A0_0 d0.points.length c0_0) ∧ w'.cell? ⟨w.heap.size, 1, none⟩ = some (.slice A0_1 d0.segs.length c0_1) ∧ Hid (Below (w4).heap.size (w4) w'))) (by kernel_rfl) ?_ (fun hHeld => ?_)
        · (try dsimp only); go_keep
        refine wpAnyH_take (i := 0) (v := ?_) (by simp only [List.getElem?_toArray, List.getElem?_cons_zero]; rfl) (by kernel_rfl) (by kernel_rfl) (by kernel_rfl) (by exact fun _ _ _ h => h) (Or.inl ⟨by rfl, ?_⟩) (by assumption) ?_; rotate_left; focus (intro w hSw; (try dsimp only at hSw); first | (go_simp; done) | (go_simp; with_reducible rfl))
        try simp only [Act.put, List.setIfInBounds_toArray, List.set_cons_zero, List.set_cons_succ]
        refine wpAnyH_take (i := 1) (v := ?_) (by simp only [List.getElem?_toArray, List.getElem?_cons_succ, List.getElem?_cons_zero]; rfl) (by kernel_rfl) (by kernel_rfl) (by kernel_rfl) (by exact fun _ _ _ h => h) (Or.inl ⟨by rfl, ?_⟩) (by assumption) ?_; rotate_left; focus (intro w hSw; (try dsimp only at hSw); first | (go_simp; done) | (go_simp; with_reducible rfl))
        try simp only [Act.put, List.setIfInBounds_toArray, List.set_cons_zero, List.set_cons_succ]
        refine wpAnyH_ready (rs := [2]) (by kernel_rfl) (by simp) ?_
        refine AllReadyH.cons rfl (fun K hK => ?_) AllReadyH.nil
        rw [if_pos (by rfl)]
        go_simp
        go_at_call 28
        have kB := hHeld.2.2.2.2
        refine (toChart_any _ _ d0 _ (R0.out.below (BW.out.trans ((B4.out.trans (kB.out.mono B4.out.size)).mono hs0)))).mono ?_
        intro e wt hN
        obtain ⟨Q0, q0, Q1, q1, rfl, hRD, hbk⟩ := hN.rd (by omega) (by omega)
        have HRD := Lib.hid hRD
        have HBK := kB.out.trans (hbk.mono kB.out.size)
        have QS := Lib.hid (show wt.cell? ⟨w3.heap.size, 0, none⟩ = some (.slice D3_0 d0.points.length k3_0) ∧ wt.cell? ⟨w3.heap.size, 1, none⟩ = some (.slice D3_1 d0.segs.length k3_1) ∧ wt.cell? ⟨w.heap.size, 0, none⟩ = some (.slice A0_0 d0.points.length c0_0) ∧ wt.cell? ⟨w.heap.size, 1, none⟩ = some (.slice A0_1 d0.segs.length c0_1) ∧ Hid (Below (w4).heap.size (w4) wt) from ⟨(x0_4.out.below HBK).1, (x0_4.out.below HBK).2.1, cell_onV (cell_onV (ABX0.out.1) B4.out) HBK, cell_onV (cell_onV (ABX0.out.2) B4.out) HBK, Lib.hid HBK⟩)
        clear hbk kB hHeld hN hRD HBK
        go_simp
        refine hK.out _ _ ?_ (fun hHeld => ?_)
        · (try dsimp only); exact QS.out
        clear hK K
        try simp only [Act.put, List.setIfInBounds_toArray, List.set_cons_zero, List.set_cons_succ]
        refine wpAnyH_ready (rs := [3]) (by kernel_rfl) (by simp) ?_
        refine AllReadyH.cons rfl (fun K hK => ?_) AllReadyH.nil
        rw [if_pos (by rfl)]
        go_simp
        go_at_call 29
        have kB := hHeld.2.2.2.2
        refine (eqChart_same _ _ _ _ d0 _ (x0_4.out.below kB.out).2.2 HRD.out).mono ?_
        rintro e wq ⟨rfl, hbk⟩
        have HBK := kB.out.trans (hbk.mono kB.out.size)
        have QQ := Lib.hid (show wq.cell? ⟨w3.heap.size, 0, none⟩ = some (.slice D3_0 d0.points.length k3_0) ∧ wq.cell? ⟨w3.heap.size, 1, none⟩ = some (.slice D3_1 d0.segs.length k3_1) ∧ wq.cell? ⟨w.heap.size, 0, none⟩ = some (.slice A0_0 d0.points.length c0_0) ∧ wq.cell? ⟨w.heap.size, 1, none⟩ = some (.slice A0_1 d0.segs.length c0_1) ∧ Hid (Below (w4).heap.size (w4) wq) from ⟨(x0_4.out.below HBK).1, (x0_4.out.below HBK).2.1, cell_onV (cell_onV (ABX0.out.1) B4.out) HBK, cell_onV (cell_onV (ABX0.out.2) B4.out) HBK, Lib.hid HBK⟩)
        clear hbk kB hHeld HBK
        go_simp
        refine hK.out _ _ ?_ (fun hHeld => ?_)
        · (try dsimp only); exact QQ.out
        clear hK K
        try simp only [Act.put, List.setIfInBounds_toArray, List.set_cons_zero, List.set_cons_succ]
        refine wpAnyH_take (i := 4) (v := ?_) (by simp only [List.getElem?_toArray, List.getElem?_cons_succ, List.getElem?_cons_zero]; rfl) (by kernel_rfl) (by kernel_rfl) (by kernel_rfl) (by exact fun _ _ _ h => h) (Or.inl ⟨by rfl, ?_⟩) (by assumption) ?_; rotate_left; focus (intro w hSw; (try dsimp only at hSw); first | (go_simp; done) | (go_simp; with_reducible rfl))
        try simp only [Act.put, List.setIfInBounds_toArray, List.set_cons_zero, List.set_cons_succ]
        refine wpAnyH_done (by kernel_rfl) ?_ _
        go_wp2_with fail
        go_meet
        exact ⟨rfl, hHeld.2.2.2.2⟩
      case rest =>
        obtain ⟨rfl, hbH⟩ := hcut
        have hb5 := hbH.out
        obtain ⟨w5, rfl⟩ : ∃ W, W = wc := ⟨_, rfl⟩
        clear hbH DD y0_0 y0_1 z_x0_0 z_x0_1
        have B5 := Lib.hid (B4.out.trans (hb5.mono B4.out.size))
        have x0_5 := Lib.hid (x0_4.out.below hb5)
        have x0F0_5 := Lib.hid (x0F0_4.out.below hb5)
        have x0F1_5 := Lib.hid (x0F1_4.out.below hb5)
        have hz5 : (w4).heap.size ≤ w5.heap.size := hb5.size
        clear hb5
        -- return true
        go_wp2
        go_ret
        exact ⟨rfl, BW.out.trans (B5.out.mono hs0)⟩

set_option maxRecDepth 100000 in
theorem lifted (os : Os) (started : os.Started) (H : Type) (enc : TypeId × Value → H) :
    ReturnsInHanded {} Try.checked os 6 .any (Rows.fnExactConflictOfSpec.pre6 enc Try.prog Try.f6 Rows.fnExactConflictOfRow.domain false) (Rows.fnExactConflictOfSpec.post enc Try.prog Try.f6 false true false false) := by
  refine returnsInHanded_of_change (C := Try.checked) own started (by kernel_rfl) Try.func6
    (ChangeSpec.witness6 (enc := enc) (C := Try.checked) false ⟨#[], #[.agg #[.slice none 0 0, .slice none 0 0], .agg #[.int .i64 0, .bool false], .agg #[.int .i64 0, .int .i64 0, .bool false, .int .i64 0, .int .i64 0], .agg #[.int .i64 0, .int .i64 0, .bool false, .int .i64 0, .int .i64 0]], []⟩ 8 (by kernel_rfl) (by kernel_rfl) (by kernel_rfl) (by kernel_rfl)) ?_
  intro W base args ds gs before hval0 hW _ _
  have hval : ∀ (j : Nat) t v, Try.f6.params[j]? = some t → args[j]? = some v → Value.okWide Try.prog W .any base t v := hval0
  have hW' := hW
  obtain ⟨p, q, hA0, hV, rfl, _, _⟩ := hW
  have hA : DataW.TrodAll enc Try.prog W 0 (fun _ => true) true Try.f6.params.toList args.toList ds p := hA0
  rw [Try.params6] at hA hval
  obtain ⟨v0, vs0, d0, ds0, p0, q0, hargs, rfl, rfl, h0, r0⟩ := trodAll_cons hA
  obtain ⟨v1, vs1, d1, ds1, p1, q1, rfl, rfl, rfl, h1, r1⟩ := trodAll_cons r0
  obtain ⟨v2, vs2, d2, ds2, p2, q2, rfl, rfl, rfl, h2, r2⟩ := trodAll_cons r1
  obtain ⟨v3, vs3, d3, ds3, p3, q3, rfl, rfl, rfl, h3, r3⟩ := trodAll_cons r2
  obtain ⟨rfl, rfl, rfl⟩ := trodAll_nil r3
  obtain rfl : args = #[v0, v1, v2, v3] := by cases args; simp_all
  obtain ⟨A0_0, c0_0, A0_1, c0_1, d0', rfl, g0⟩ := open_chart_arg (hval 0 54 v0 rfl rfl) h0
  obtain ⟨d1', rfl, g1⟩ := open_regime_arg (hval 1 45 v1 rfl rfl) h1
  obtain ⟨d2', rfl, g2⟩ := open_passage_arg (hval 2 48 v2 rfl rfl) h2
  obtain ⟨d3', rfl, g3⟩ := open_passage_arg (hval 3 48 v3 rfl rfl) h3
  refine (law A0_0 c0_0 A0_1 c0_1 d0' d1' d2' d3' W g0 g1 g2 g3).mono fun e W' ⟨he, hb⟩ => ⟨_, he, ?_⟩
  exact law_post laidOut (by kernel_rfl) rfl (by kernel_rfl) Try.underlying4 rfl rfl rfl hW' hb

theorem holds : Rows.FnExactConflictOfSaid :=
  OpenClaim.holds_of_wide 6 Try.f6 rfl rfl rfl rfl rfl rfl rfl ⟨rfl, rfl, rfl, rfl, rfl⟩ rfl rfl rfl rfl rfl (by kernel_rfl) Try.func6 (by kernel_rfl)
    (of_decide_eq_true (by kernel_rfl)) (by unfold Func.isWrapper; first | (rw [if_pos (by decide +kernel)]; kernel_rfl) | (rw [if_neg (by decide +kernel)]; exact ⟨rfl, rfl⟩))
    (fun os started H enc _ => lifted os started H enc)

end Go.Proofs.Ytpglaffmmddcdaa.exactConflictOf
