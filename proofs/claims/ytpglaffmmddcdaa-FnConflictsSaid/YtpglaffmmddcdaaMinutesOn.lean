
/- MinutesOn: what it tells: contracts of both sides. -/
import Derived.Test.YtpglaffmmddcdaaShipOk
import Derived.Test.YtpglaffmmddcdaaChartFns
import Derived.Test.YtpglaffmmddcdaaChartOkImpl
import Derived.StillTailTactics
namespace Go.Proofs.Ytpglaffmmddcdaa
open Go.RowKit
set_option maxRecDepth 100000

/-- The minutes of a valid ship on a segment. -/
def onMin (g : SegmentD) (s : ShipD) : Int := if s.slow = true then 2 * g.minutes else g.minutes
def minOn (d : ChartD) (i : Int) (s : ShipD) : Int := if chartB d = true ∧ shipB s = true then (match segAt d i with | some g => onMin g s | none => 0) else 0
theorem minOn_bad {d : ChartD} {i : Int} {s : ShipD} (h : chartB d = false ∨ shipB s = false) : minOn d i s = 0 := if_neg (by rintro ⟨h1, h2⟩; rcases h with h | h <;> simp_all)
theorem minOn_off {d : ChartD} {i : Int} {s : ShipD} (h : segAt d i = none) : minOn d i s = 0 := by unfold minOn; split <;> simp [h]
theorem minOn_ok {d : ChartD} {i : Int} {s : ShipD} {g : SegmentD} (h1 : chartB d = true) (h2 : shipB s = true) (h : segAt d i = some g) : minOn d i s = onMin g s := by unfold minOn; rw [if_pos ⟨h1, h2⟩, h]

set_option maxHeartbeats 2000000 in
theorem l06Minutes_any (g : SegmentD) (s : ShipD) (w : World) (h0 : 0 ≤ g.minutes) (h1 : g.minutes ≤ 240) :
    Calls Try.prog 64 #[g.val, s.val] w fun e w' => e = .returned (.int .i64 (onMin g s)) ∧ Below w.heap.size w w' := by
  obtain ⟨sa, sb, sd, sm, se⟩ := g
  obtain ⟨na, le, dr, li, tu, sl⟩ := s
  dsimp only at h0 h1
  have B := Lib.hid (Joins.below_alloc2 w (.cells #[.int .i64 sa, .int .i64 sb, .int .i64 sd, .int .i64 sm, .bool se] 90) (.cells #[.string na, .int .i64 le, .int .i64 dr, .int .i64 li, .int .i64 tu, .bool sl] 101))
  have hwr : IntKind.i64.wrap (2 * sm) = 2 * sm := by rw [IntKind.wrap_i64]; omega
  cases sl
  all_goals
    go_enter Try.func64, Try.ntmps64
    go_wp2
    go_ret
    exact ⟨ret_int rfl, B.out⟩

/-- The chart, the segment and the ship are valid. -/
def sailB (d : ChartD) (i : Int) (s : ShipD) : Bool := chartB d && shipB s && inB i 0 ((d.segs.length : Int) - 1)
theorem sailB_true {d : ChartD} {i : Int} {s : ShipD} (h : sailB d i s = true) : chartB d = true ∧ shipB s = true ∧ ∃ g, segAt d i = some g ∧ d.segs[i.toNat]? = some g ∧ 0 ≤ i ∧ i.toNat < d.segs.length ∧ segB d.points.length g = true := by
  unfold sailB at h
  simp only [Bool.and_eq_true] at h
  obtain ⟨⟨h1, h2⟩, h3⟩ := h
  obtain ⟨g, hg, hx, i0, il⟩ := segAt_in h3
  exact ⟨h1, h2, g, hg, hx, i0, il, chartB_seg h1 hx⟩
theorem minOn_no {d : ChartD} {i : Int} {s : ShipD} (h : sailB d i s = false) : minOn d i s = 0 := by
  cases h1 : chartB d with
  | false => exact minOn_bad (.inl h1)
  | true =>
    cases h2 : shipB s with
    | false => exact minOn_bad (.inr h2)
    | true =>
      refine minOn_off (segAt_out ?_)
      unfold sailB at h
      rw [h1, h2] at h
      simpa using h

end Go.Proofs.Ytpglaffmmddcdaa
