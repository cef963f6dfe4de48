
/- Chart by value: laws.toChart and its like: contracts; a variable that holds one; how an argument is opened. -/
import Derived.Test.YtpglaffmmddcdaaTouch
import Derived.Test.YtpglaffmmddcdaaBox
import Derived.Test.YtpglaffmmddcdaaBlk0
import Derived.Test.YtpglaffmmddcdaaKit
import Derived.Test.YtpglaffmmddcdaaPoints
import Derived.Test.YtpglaffmmddcdaaSegments
import Derived.Deep.RegionHeld3
namespace Go.Proofs.Ytpglaffmmddcdaa
open Go.ChangeShapes Go.WideShapes Go.ChangeAt Go.Deep Go.RowKit
set_option maxRecDepth 100000

structure ChartD where
  points : List PointD
  segs : List SegmentD
/-- The slices read as the lists of d. -/
def RdChart (w : World) (v0 v1 : Value) (d : ChartD) : Prop := SlPoint w v0 d.points ∧ SlSegment w v1 d.segs
theorem RdChart.below {w w' : World} {v0 v1 : Value} {d : ChartD} (h : RdChart w v0 v1 d) (hb : Below w.heap.size w w') : RdChart w' v0 v1 d := ⟨h.1.below hb, h.2.below hb⟩
/-- A new value: over new lists, each in memory of its own. -/
def NewChart (d : ChartD) (w : World) (e : Ending) (w' : World) : Prop :=
  ∃ v0 v1, e = .returned (.agg #[v0, v1]) ∧ OwnPoint w' w.heap.size v0 d.points ∧ OwnSegment w' w.heap.size v1 d.segs ∧ ApartV v0 v1 ∧ Below w.heap.size w w'

set_option maxHeartbeats 4000000 in
theorem toChart_any (v0 v1 : Value) (d : ChartD) (w : World) (h : RdChart w v0 v1 d) :
    Calls Try.prog 28 #[.agg #[v0, v1]] w (NewChart d w) := by
  obtain ⟨h0, h1⟩ := h
  have H0 := Lib.hid h0
  have H1 := Lib.hid h1
  obtain ⟨A0, c0, rfl⟩ := h0.at
  obtain ⟨A1, c1, rfl⟩ := h1.at
  clear h0 h1
  go_enter Try.func28, Try.ntmps28
  go_wp2_with fail
  refine (toPointS_any _ d.points _ (H0.out.below ?_)).mono ?_
  · repeat (first | exact Below.refl _ _ | refine Below.setCell ?_ (by simp <;> omega) _ | refine Below.alloc ?_ (by simp <;> omega) _)
  rintro e w0 ⟨v0, rfl, ho0, hb0⟩
  obtain ⟨D0, k0, rfl⟩ := own_form ho0
  have S0 := Lib.hid (own_lo ho0 (base' := w.heap.size + 3) (by simp))
  have L0 := Lib.hid (World.ownsRow.lt ho0)
  obtain ⟨hc0, hf0⟩ := bcellV hb0
  have hz0 : w.heap.size + 2 < w0.heap.size := by have := hb0.size; simp at this; omega
  have hx0 : w.heap.size + 1 < w0.heap.size := by omega
  have hxx0 : w.heap.size < w0.heap.size := by omega
  have B0 : Hid (Below w.heap.size w w0) := by
    refine Lib.hid ?_
    repeat (first | exact Below.refl _ _ | refine Below.setCell ?_ (by simp <;> omega) _ | refine Below.alloc ?_ (by simp <;> omega) _ | refine Below.trans ?_ (hb0.mono (by simp <;> omega)))
  clear ho0
  go_wp2_with fail
  refine (toSegmentS_any _ d.segs _ (H1.out.below ?_)).mono ?_
  · repeat (first | exact B0.out | exact Below.refl _ _ | refine Below.setCell ?_ (by simp <;> omega) _ | refine Below.alloc ?_ (by simp <;> omega) _)
  rintro e w1 ⟨v1, rfl, ho1, hb1⟩
  obtain ⟨D1, k1, rfl⟩ := own_form ho1
  have S1 := Lib.hid (own_lo ho1 (base' := w.heap.size + 3) (by simp; omega))
  have L1 := Lib.hid (World.ownsRow.lt ho1)
  obtain ⟨hc1, hf1⟩ := bcellV hb1
  have hy1 : w0.heap.size ≤ w1.heap.size := by have := hb1.size; simp at this; omega
  have hz1 : w.heap.size + 2 < w1.heap.size := by omega
  have hx1 : w.heap.size + 1 < w1.heap.size := by omega
  have hxx1 : w.heap.size < w1.heap.size := by omega
  have B1 : Hid (Below w.heap.size w w1) := by
    refine Lib.hid ?_
    repeat (first | exact B0.out | exact Below.refl _ _ | refine Below.setCell ?_ (by simp <;> omega) _ | refine Below.alloc ?_ (by simp <;> omega) _ | refine Below.trans ?_ (hb1.mono (by simp <;> omega)))
  clear ho1
  go_wp2
  refine bodyPost_ret (v := .agg #[.slice D0 d.points.length k0, .slice D1 d.segs.length k1]) (by simp [results, Try.results28, go_sem, *]) rfl ⟨_, _, rfl, ?_, ?_, ?_, ?_⟩
  · refine own_lo (base := w.heap.size + 3) ?_ (by omega)
    repeat (first | exact S0.out | refine own_set_under ?_ (by simp <;> omega) _ | refine own_below ?_ hb1)
  · refine own_lo (base := w.heap.size + 3) ?_ (by omega)
    repeat (first | exact S1.out | refine own_set_under ?_ (by simp <;> omega) _)
  · intro g hg hg'
    have h1 := (L0.out g hg).2
    have h2 := (L1.out g hg').1
    simp at h2
    omega
  · repeat (first | exact B1.out | exact Below.refl _ _ | refine Below.setCell ?_ (by simp <;> omega) _ | refine Below.alloc ?_ (by simp <;> omega) _)

/-- What the law measures: elements and bytes. -/
def bulkChart (d : ChartD) : Int := ((d.points.length : Int) + bulkPoint d.points) + ((d.segs.length : Int) + bulkSegment d.segs)
theorem bulkChart_pos (d : ChartD) : 0 ≤ bulkChart d := by
  have p0 := bulkPoint_pos d.points
  have p1 := bulkSegment_pos d.segs
  unfold bulkChart
  omega
def SizChart (w : World) (A0 A1 : Option Addr) (c0 c1 : Nat) (d : ChartD) : Prop := d.points.length ≤ 9223372036854775807 ∧ (d.points.length ≤ 1000000000 → SlPoint w (.slice A0 d.points.length c0) d.points) ∧ (∀ x ∈ d.points, PointD.wf x) ∧ d.segs.length ≤ 9223372036854775807 ∧ (d.segs.length ≤ 1000000000 → SlSegment w (.slice A1 d.segs.length c1) d.segs) ∧ (∀ x ∈ d.segs, SegmentD.wf x)
theorem bulkChart_le (d : ChartD) : (d.points.length : Int) ≤ bulkChart d ∧ (d.segs.length : Int) ≤ bulkChart d := by
  have p0 := bulkPoint_pos d.points
  have p1 := bulkSegment_pos d.segs
  unfold bulkChart
  omega
theorem SizChart.below {w w' : World} {A0 A1 : Option Addr} {c0 c1 : Nat} {d : ChartD} (h : SizChart w A0 A1 c0 c1 d) (hb : Below w.heap.size w w') : SizChart w' A0 A1 c0 c1 d := by
  obtain ⟨l0, s0, f0, l1, s1, f1⟩ := h
  exact ⟨l0, fun h => (s0 h).below hb, f0, l1, fun h => (s1 h).below hb, f1⟩

set_option maxHeartbeats 4000000 in
theorem szChart_any (A0 A1 : Option Addr) (c0 c1 : Nat) (d : ChartD) (w : World) (h : SizChart w A0 A1 c0 c1 d) (lim : Int) (h0 : 0 ≤ lim) (h1 : lim ≤ 1048576) :
    Calls Try.prog 26 #[.agg #[.slice A0 d.points.length c0, .slice A1 d.segs.length c1], .int .i64 lim] w fun e w' => e = .returned (.int .i64 (leftOf lim (bulkChart d))) ∧ Below w.heap.size w w' := by
  obtain ⟨l0, s0, f0, l1, s1, f1⟩ := h
  have hal := Joins.below_alloc1 w (.cells #[.slice A0 d.points.length c0, .slice A1 d.segs.length c1] 54)
  have HAL := Lib.hid hal
  have p0 := bulkPoint_pos d.points
  have p1 := bulkSegment_pos d.segs
  have z0 : 0 ≤ (d.points.length : Int) + bulkPoint d.points := by omega
  have z1 : 0 ≤ (d.segs.length : Int) + bulkSegment d.segs := by omega
  obtain ⟨r, hr⟩ : ∃ r, leftOf lim (bulkChart d) = r := ⟨_, rfl⟩
  rw [hr]
  unfold bulkChart at hr
  have C0 : ∀ W, Below w.heap.size w W → Calls Try.prog 54 #[.slice A0 d.points.length c0, .int .i64 (lim)] W fun e w' => e = .returned (.int .i64 (leftOf (lim) ((d.points.length : Int) + bulkPoint d.points))) ∧ Below W.heap.size W w' := fun W hW => szPointS_any A0 d.points c0 W l0 (fun hle => (s0 hle).below hW) (fun x hx => wfszPoint (f0 x hx)) (lim) (by omega) (by omega)
  by_cases t0 : lim < ((d.points.length : Int) + bulkPoint d.points)
  · rw [leftOf_no t0] at C0
    have C0' := Lib.hid C0
    rw [leftOf_no (by omega)] at hr
    subst hr
    clear C0 s0 s1
    go_enter Try.func26, Try.ntmps26
    go_wp2_with fail
    refine (C0'.out _ HAL.out).mono ?_
    rintro e w0 ⟨rfl, hb0⟩
    have B0 := Lib.hid (HAL.out.trans (hb0.mono (by first | exact HAL.out.size | simp)))
    obtain ⟨hc0, hf0⟩ := bcellV hb0
    clear hb0
    go_wp2
    go_ret
    exact ⟨rfl, B0.out⟩
  rw [leftOf_yes t0] at C0
  have C0' := Lib.hid C0
  clear C0
  have y0 : ¬ lim - ((d.points.length : Int) + bulkPoint d.points) < 0 := by omega
  have C1 : ∀ W, Below w.heap.size w W → Calls Try.prog 55 #[.slice A1 d.segs.length c1, .int .i64 (lim - ((d.points.length : Int) + bulkPoint d.points))] W fun e w' => e = .returned (.int .i64 (leftOf (lim - ((d.points.length : Int) + bulkPoint d.points)) ((d.segs.length : Int) + bulkSegment d.segs))) ∧ Below W.heap.size W w' := fun W hW => szSegmentS_any A1 d.segs c1 W l1 (fun hle => (s1 hle).below hW) (lim - ((d.points.length : Int) + bulkPoint d.points)) (by omega) (by omega)
  by_cases t1 : lim - ((d.points.length : Int) + bulkPoint d.points) < ((d.segs.length : Int) + bulkSegment d.segs)
  · rw [leftOf_no t1] at C1
    have C1' := Lib.hid C1
    rw [leftOf_no (by omega)] at hr
    subst hr
    clear C1 s0 s1
    go_enter Try.func26, Try.ntmps26
    go_wp2_with fail
    refine (C0'.out _ HAL.out).mono ?_
    rintro e w0 ⟨rfl, hb0⟩
    have B0 := Lib.hid (HAL.out.trans (hb0.mono (by first | exact HAL.out.size | simp)))
    obtain ⟨hc0, hf0⟩ := bcellV hb0
    clear hb0
    go_wp2_with fail
    refine (C1'.out _ B0.out).mono ?_
    rintro e w1 ⟨rfl, hb1⟩
    have B1 := Lib.hid (B0.out.trans (hb1.mono (by first | exact B0.out.size | simp)))
    obtain ⟨hc1, hf1⟩ := bcellV hb1
    clear hb1
    go_wp2
    go_ret
    exact ⟨rfl, B1.out⟩
  rw [leftOf_yes t1] at C1
  have C1' := Lib.hid C1
  clear C1
  have y1 : ¬ lim - ((d.points.length : Int) + bulkPoint d.points) - ((d.segs.length : Int) + bulkSegment d.segs) < 0 := by omega
  rw [leftOf_yes (by omega)] at hr
  have hr' : r = lim - ((d.points.length : Int) + bulkPoint d.points) - ((d.segs.length : Int) + bulkSegment d.segs) := by omega
  clear hr s0 s1
  subst hr'
  go_enter Try.func26, Try.ntmps26
  go_wp2_with fail
  refine (C0'.out _ HAL.out).mono ?_
  rintro e w0 ⟨rfl, hb0⟩
  have B0 := Lib.hid (HAL.out.trans (hb0.mono (by first | exact HAL.out.size | simp)))
  obtain ⟨hc0, hf0⟩ := bcellV hb0
  clear hb0
  go_wp2_with fail
  refine (C1'.out _ B0.out).mono ?_
  rintro e w1 ⟨rfl, hb1⟩
  have B1 := Lib.hid (B0.out.trans (hb1.mono (by first | exact B0.out.size | simp)))
  obtain ⟨hc1, hf1⟩ := bcellV hb1
  clear hb1
  go_wp2
  go_ret
  exact ⟨rfl, B1.out⟩

set_option maxHeartbeats 4000000 in
theorem eqChart_same (va0 va1 vb0 vb1 : Value) (d : ChartD) (w : World) (ha : RdChart w va0 va1 d) (hb : RdChart w vb0 vb1 d) :
    Calls Try.prog 29 #[.agg #[va0, va1], .agg #[vb0, vb1]] w fun e w' => e = .returned (.bool true) ∧ Below w.heap.size w w' := by
  obtain ⟨ha0, ha1⟩ := ha
  obtain ⟨hb0, hb1⟩ := hb
  have HA0 := Lib.hid ha0
  have HB0 := Lib.hid hb0
  have HA1 := Lib.hid ha1
  have HB1 := Lib.hid hb1
  obtain ⟨A0, c0, rfl⟩ := ha0.at
  obtain ⟨D0, k0, rfl⟩ := hb0.at
  obtain ⟨A1, c1, rfl⟩ := ha1.at
  obtain ⟨D1, k1, rfl⟩ := hb1.at
  clear ha0 hb0 ha1 hb1
  have B := Lib.hid (Joins.below_alloc2 w (.cells #[.slice A0 d.points.length c0, .slice A1 d.segs.length c1] 26) (.cells #[.slice D0 d.points.length k0, .slice D1 d.segs.length k1] 26))
  go_enter Try.func29, Try.ntmps29
  go_wp2_with fail
  refine (eqPointS_same _ _ d.points _ (HA0.out.below B.out) (HB0.out.below B.out)).mono ?_
  rintro e w0 ⟨rfl, hb0⟩
  have B0 := Lib.hid (B.out.trans (hb0.mono B.out.size))
  obtain ⟨hc0, hf0⟩ := bcellV hb0
  clear hb0
  go_wp2_with fail
  refine (eqSegmentS_same _ _ d.segs _ (HA1.out.below B0.out) (HB1.out.below B0.out)).mono ?_
  rintro e w1 ⟨rfl, hb1⟩
  have B1 := Lib.hid (B0.out.trans (hb1.mono B0.out.size))
  obtain ⟨hc1, hf1⟩ := bcellV hb1
  clear hb1
  go_wp2
  go_ret
  exact ⟨rfl, B1.out⟩

/-- The block b holds d over the slices v0 v1. -/
def ChartBox (w : World) (b : Nat) (v0 v1 : Value) (d : ChartD) : Prop := w.cell? ⟨b, 0, none⟩ = some (v0) ∧ w.cell? ⟨b, 1, none⟩ = some (v1) ∧ RdChart w v0 v1 d
theorem ChartBox.below {w w' : World} {b : Nat} {v0 v1 : Value} {d : ChartD} (h : ChartBox w b v0 v1 d) (hb : Below w.heap.size w w') : ChartBox w' b v0 v1 d := by
  obtain ⟨h0, h1, hr⟩ := h
  exact ⟨cell_onV h0 hb, cell_onV h1 hb, hr.below hb⟩
theorem ChartBox.new {w : World} {v0 v1 : Value} {d : ChartD} (t : TypeId) (h : RdChart w v0 v1 d) : ChartBox (w.alloc (.cells #[v0, v1] t)) w.heap.size v0 v1 d := by
  refine ⟨?_, ?_, h.below (Joins.below_alloc1 _ _)⟩
  all_goals (rw [World.cell?_alloc_at _ _ _ _ rfl]; rfl)
theorem NewChart.rd {d : ChartD} {w w' : World} {e : Ending} (h : NewChart d w e w') (hl0 : d.points.length ≤ 1000000000) (hl1 : d.segs.length ≤ 1000000000) :
    ∃ A0 c0 A1 c1, e = .returned (.agg #[.slice A0 d.points.length c0, .slice A1 d.segs.length c1]) ∧ RdChart w' (.slice A0 d.points.length c0) (.slice A1 d.segs.length c1) d ∧ Below w.heap.size w w' := by
  obtain ⟨v0, v1, rfl, o0, o1, _, hb⟩ := h
  have s0 := OwnPoint.sl o0 hl0
  obtain ⟨A0, c0, rfl⟩ := own_form o0
  have s1 := OwnSegment.sl o1 hl1
  obtain ⟨A1, c1, rfl⟩ := own_form o1
  exact ⟨A0, c0, A1, c1, rfl, ⟨s0, s1⟩, hb⟩

section
variable {H : Type} {enc : TypeId × Value → H} {w : World} {base : Nat} {spare : Nat → Bool} {held : Bool}
/-- A value that came in. -/
def ChartIn (w : World) (A0 A1 : Option Addr) (c0 c1 : Nat) (d : ChartD) : Prop := SizChart w A0 A1 c0 c1 d
theorem dec_chart (m : Nat) (cs : List Value) (y : DataW H × List MemPlace) (h : DataW.trod enc Try.prog w base (fun _ => true) held m 54 cs = some y) :
    ∃ A0 c0 A1 c1 d, cs = [.slice A0 d.points.length c0, .slice A1 d.segs.length c1] ∧ ChartIn w A0 A1 c0 c1 d := by
  obtain ⟨hl, hf⟩ := struct_cells Try.underlying54 (by kernel_rfl) (by kernel_rfl) h
  obtain ⟨v0, n0, y0, e0, h0⟩ := hf 0 _ rfl
  obtain ⟨v1, n1, y1, e1, h1⟩ := hf 1 _ rfl
  obtain ⟨A0, c0, a0, rfl, m0, s0, f0⟩ := open_points h0
  obtain ⟨A1, c1, a1, rfl, m1, s1, f1⟩ := open_segments h1
  unfold maxLen at m0
  unfold maxLen at m1
  refine ⟨A0, c0, A1, c1, ⟨a0, a1⟩, ?_, by simp only; omega, s0, f0, by simp only; omega, s1, f1⟩
  match cs, hl with
  | [b0, b1], _ =>
    simp at e0 e1
    subst e0 e1
    rfl
theorem open_chart_arg {r : Reach} {b0 : Nat} {v : Value} {y : DataW H} {ps : List MemPlace} (hval : Value.okWide Try.prog w r b0 54 v) (hd : DataW.Trod enc Try.prog w 0 (fun _ => true) true 54 v y ps) :
    ∃ A0 c0 A1 c1 d, v = .agg #[.slice A0 d.points.length c0, .slice A1 d.segs.length c1] ∧ ChartIn w A0 A1 c0 c1 d := by
  obtain ⟨cs, rfl, hsz⟩ := okWide_struct Try.underlying54 hval
  obtain ⟨fuel, hf⟩ := hd
  obtain ⟨A0, c0, A1, c1, d, hp, g⟩ := dec_chart _ _ _ hf
  refine ⟨A0, c0, A1, c1, d, ?_, g⟩
  obtain ⟨ls⟩ := cs
  simp [Value.cells] at hp
  rw [hp]
end
end Go.Proofs.Ytpglaffmmddcdaa
