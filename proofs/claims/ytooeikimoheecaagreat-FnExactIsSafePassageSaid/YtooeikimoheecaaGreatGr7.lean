
/- What ExactIsSafePassage and ExactSailRoute and ExactFirstSail rests on, part 7: contracts and mathematics. -/
import Derived.Test.YtooeikimoheecaaGreatGr6
import Derived.Test.YtooeikimoheecaaGreatGr3
import Derived.Test.YtooeikimoheecaaGreatGr1
import Derived.Test.YtooeikimoheecaaGreatGr0
import Derived.Test.YtooeikimoheecaaGreatGr4
import Derived.Test.YtooeikimoheecaaGreatGr5
import Derived.Deep.RegionHeld3
import Derived.OwnWalkIn
import Derived.Laws.AppendOwn
import Derived.RangeFuncNested
import Derived.Deep.AppendLies
import Derived.Deep.Upon
import Derived.Test.YtooeikimoheecaaGreatGr2
namespace Go.Proofs.YtooeikimoheecaaGreat
open Go.ChangeShapes Go.WideShapes Go.ChangeAt Go.Deep Go.RowKit
set_option maxRecDepth 100000
structure ChartD where
  points : List PointD
  segs : List SegmentD
/-- The slices read as the lists of d. -/
def RdChart (w : World) (v0 v1 : Value) (d : ChartD) : Prop := SlPoint w v0 d.points ∧ SlSegment w v1 d.segs
theorem RdChart.below {w w' : World} {v0 v1 : Value} {d : ChartD} (h : RdChart w v0 v1 d) (hb : Below w.heap.size w w') : RdChart w' v0 v1 d := ⟨h.1.below hb, h.2.below hb⟩
/-- A new value: over new lists, each in memory of its own. -/
def NewChart (d : ChartD) (w : World) (e : Ending) (w' : World) : Prop :=
  ∃ v0 v1, e = .returned (.agg #[v0, v1]) ∧ OwnPoint w' w.heap.size v0 d.points ∧ OwnSegment w' w.heap.size v1 d.segs ∧ ApartV v0 v1 ∧ Below w.heap.size w w'
set_option maxHeartbeats 4000000 in
theorem toChart_any (v0 v1 : Value) (d : ChartD) (w : World) (h : RdChart w v0 v1 d) :
    Calls Tryz.prog 11 #[.agg #[v0, v1]] w (NewChart d w) := by
  obtain ⟨h0, h1⟩ := h
  have H0 := Lib.hid h0
  have H1 := Lib.hid h1
  obtain ⟨A0, c0, rfl⟩ := h0.at
  obtain ⟨A1, c1, rfl⟩ := h1.at
  clear h0 h1
  go_enter Tryz.func11, Tryz.ntmps11
  go_wp2_with fail
  refine (toPointS_any _ d.points _ (H0.out.below ?_)).mono ?_
  · repeat (first | exact Below.refl _ _ | refine Below.setCell ?_ (by simp <;> omega) _ | refine Below.alloc ?_ (by simp <;> omega) _)
  rintro e w0 ⟨v0, rfl, ho0, hb0⟩
  obtain ⟨D0, k0, rfl⟩ := own_form ho0
  have S0 := Lib.hid (own_lo ho0 (base' := w.heap.size + 3) (by simp))
  have L0 := Lib.hid (World.ownsRow.lt ho0)
  obtain ⟨hc0, hf0⟩ := bcellV hb0
  have hz0 : w.heap.size + 2 < w0.heap.size := by have := hb0.size; simp at this; omega
  have hx0 : w.heap.size + 1 < w0.heap.size := by omega
  have hxx0 : w.heap.size < w0.heap.size := by omega
  have B0 : Hid (Below w.heap.size w w0) := by
    refine Lib.hid ?_
    repeat (first | exact Below.refl _ _ | refine Below.setCell ?_ (by simp <;> omega) _ | refine Below.alloc ?_ (by simp <;> omega) _ | refine Below.trans ?_ (hb0.mono (by simp <;> omega)))
  clear ho0
  go_wp2_with fail
  refine (toSegmentS_any _ d.segs _ (H1.out.below ?_)).mono ?_
  · repeat (first | exact B0.out | exact Below.refl _ _ | refine Below.setCell ?_ (by simp <;> omega) _ | refine Below.alloc ?_ (by simp <;> omega) _)
  rintro e w1 ⟨v1, rfl, ho1, hb1⟩
  obtain ⟨D1, k1, rfl⟩ := own_form ho1
  have S1 := Lib.hid (own_lo ho1 (base' := w.heap.size + 3) (by simp; omega))
  have L1 := Lib.hid (World.ownsRow.lt ho1)
  obtain ⟨hc1, hf1⟩ := bcellV hb1
  have hy1 : w0.heap.size ≤ w1.heap.size := by have := hb1.size; simp at this; omega
  have hz1 : w.heap.size + 2 < w1.heap.size := by omega
  have hx1 : w.heap.size + 1 < w1.heap.size := by omega
  have hxx1 : w.heap.size < w1.heap.size := by omega
  have B1 : Hid (Below w.heap.size w w1) := by
    refine Lib.hid ?_
    repeat (first | exact B0.out | exact Below.refl _ _ | refine Below.setCell ?_ (by simp <;> omega) _ | refine Below.alloc ?_ (by simp <;> omega) _ | refine Below.trans ?_ (hb1.mono (by simp <;> omega)))
  clear ho1
  go_wp2
  refine bodyPost_ret (v := .agg #[.slice D0 d.points.length k0, .slice D1 d.segs.length k1]) (by simp [results, Tryz.results11, go_sem, *]) rfl ⟨_, _, rfl, ?_, ?_, ?_, ?_⟩
  · refine own_lo (base := w.heap.size + 3) ?_ (by omega)
    repeat (first | exact S0.out | refine own_set_under ?_ (by simp <;> omega) _ | refine own_below ?_ hb1)
  · refine own_lo (base := w.heap.size + 3) ?_ (by omega)
    repeat (first | exact S1.out | refine own_set_under ?_ (by simp <;> omega) _)
  · intro g hg hg'
    have h1 := (L0.out g hg).2
    have h2 := (L1.out g hg').1
    simp at h2
    omega
  · repeat (first | exact B1.out | exact Below.refl _ _ | refine Below.setCell ?_ (by simp <;> omega) _ | refine Below.alloc ?_ (by simp <;> omega) _)
/-- What the law measures: elements and bytes. -/
def bulkChart (d : ChartD) : Int := ((d.points.length : Int) + bulkPoint d.points) + ((d.segs.length : Int) + bulkSegment d.segs)
theorem bulkChart_pos (d : ChartD) : 0 ≤ bulkChart d := by
  have p0 := bulkPoint_pos d.points
  have p1 := bulkSegment_pos d.segs
  unfold bulkChart
  omega
def SizChart (w : World) (A0 A1 : Option Addr) (c0 c1 : Nat) (d : ChartD) : Prop := d.points.length ≤ 9223372036854775807 ∧ (d.points.length ≤ 1000000000 → SlPoint w (.slice A0 d.points.length c0) d.points) ∧ (∀ x ∈ d.points, PointD.wf x) ∧ d.segs.length ≤ 9223372036854775807 ∧ (d.segs.length ≤ 1000000000 → SlSegment w (.slice A1 d.segs.length c1) d.segs) ∧ (∀ x ∈ d.segs, SegmentD.wf x)
theorem bulkChart_le (d : ChartD) : (d.points.length : Int) ≤ bulkChart d ∧ (d.segs.length : Int) ≤ bulkChart d := by
  have p0 := bulkPoint_pos d.points
  have p1 := bulkSegment_pos d.segs
  unfold bulkChart
  omega
theorem SizChart.below {w w' : World} {A0 A1 : Option Addr} {c0 c1 : Nat} {d : ChartD} (h : SizChart w A0 A1 c0 c1 d) (hb : Below w.heap.size w w') : SizChart w' A0 A1 c0 c1 d := by
  obtain ⟨l0, s0, f0, l1, s1, f1⟩ := h
  exact ⟨l0, fun h => (s0 h).below hb, f0, l1, fun h => (s1 h).below hb, f1⟩
set_option maxHeartbeats 4000000 in
theorem szChart_any (A0 A1 : Option Addr) (c0 c1 : Nat) (d : ChartD) (w : World) (h : SizChart w A0 A1 c0 c1 d) (lim : Int) (h0 : 0 ≤ lim) (h1 : lim ≤ 1048576) :
    Calls Tryz.prog 7 #[.agg #[.slice A0 d.points.length c0, .slice A1 d.segs.length c1], .int .i64 lim] w fun e w' => e = .returned (.int .i64 (leftOf lim (bulkChart d))) ∧ Below w.heap.size w w' := by
  obtain ⟨l0, s0, f0, l1, s1, f1⟩ := h
  have hal := Joins.below_alloc1 w (.cells #[.slice A0 d.points.length c0, .slice A1 d.segs.length c1] 31)
  have HAL := Lib.hid hal
  have p0 := bulkPoint_pos d.points
  have p1 := bulkSegment_pos d.segs
  have z0 : 0 ≤ (d.points.length : Int) + bulkPoint d.points := by omega
  have z1 : 0 ≤ (d.segs.length : Int) + bulkSegment d.segs := by omega
  obtain ⟨r, hr⟩ : ∃ r, leftOf lim (bulkChart d) = r := ⟨_, rfl⟩
  rw [hr]
  unfold bulkChart at hr
  have C0 : ∀ W, Below w.heap.size w W → Calls Tryz.prog 32 #[.slice A0 d.points.length c0, .int .i64 (lim)] W fun e w' => e = .returned (.int .i64 (leftOf (lim) ((d.points.length : Int) + bulkPoint d.points))) ∧ Below W.heap.size W w' := fun W hW => szPointS_any A0 d.points c0 W l0 (fun hle => (s0 hle).below hW) (fun x hx => wfszPoint (f0 x hx)) (lim) (by omega) (by omega)
  by_cases t0 : lim < ((d.points.length : Int) + bulkPoint d.points)
  · rw [leftOf_no t0] at C0
    have C0' := Lib.hid C0
    rw [leftOf_no (by omega)] at hr
    subst hr
    clear C0 s0 s1
    go_enter Tryz.func7, Tryz.ntmps7
    go_wp2_with fail
    refine (C0'.out _ HAL.out).mono ?_
    rintro e w0 ⟨rfl, hb0⟩
    have B0 := Lib.hid (HAL.out.trans (hb0.mono (by first | exact HAL.out.size | simp)))
    obtain ⟨hc0, hf0⟩ := bcellV hb0
    clear hb0
    go_wp2
    go_ret
    exact ⟨rfl, B0.out⟩
  rw [leftOf_yes t0] at C0
  have C0' := Lib.hid C0
  clear C0
  have y0 : ¬ lim - ((d.points.length : Int) + bulkPoint d.points) < 0 := by omega
  have C1 : ∀ W, Below w.heap.size w W → Calls Tryz.prog 33 #[.slice A1 d.segs.length c1, .int .i64 (lim - ((d.points.length : Int) + bulkPoint d.points))] W fun e w' => e = .returned (.int .i64 (leftOf (lim - ((d.points.length : Int) + bulkPoint d.points)) ((d.segs.length : Int) + bulkSegment d.segs))) ∧ Below W.heap.size W w' := fun W hW => szSegmentS_any A1 d.segs c1 W l1 (fun hle => (s1 hle).below hW) (lim - ((d.points.length : Int) + bulkPoint d.points)) (by omega) (by omega)
  by_cases t1 : lim - ((d.points.length : Int) + bulkPoint d.points) < ((d.segs.length : Int) + bulkSegment d.segs)
  · rw [leftOf_no t1] at C1
    have C1' := Lib.hid C1
    rw [leftOf_no (by omega)] at hr
    subst hr
    clear C1 s0 s1
    go_enter Tryz.func7, Tryz.ntmps7
    go_wp2_with fail
    refine (C0'.out _ HAL.out).mono ?_
    rintro e w0 ⟨rfl, hb0⟩
    have B0 := Lib.hid (HAL.out.trans (hb0.mono (by first | exact HAL.out.size | simp)))
    obtain ⟨hc0, hf0⟩ := bcellV hb0
    clear hb0
    go_wp2_with fail
    refine (C1'.out _ B0.out).mono ?_
    rintro e w1 ⟨rfl, hb1⟩
    have B1 := Lib.hid (B0.out.trans (hb1.mono (by first | exact B0.out.size | simp)))
    obtain ⟨hc1, hf1⟩ := bcellV hb1
    clear hb1
    go_wp2
    go_ret
    exact ⟨rfl, B1.out⟩
  rw [leftOf_yes t1] at C1
  have C1' := Lib.hid C1
  clear C1
  have y1 : ¬ lim - ((d.points.length : Int) + bulkPoint d.points) - ((d.segs.length : Int) + bulkSegment d.segs) < 0 := by omega
  rw [leftOf_yes (by omega)] at hr
  have hr' : r = lim - ((d.points.length : Int) + bulkPoint d.points) - ((d.segs.length : Int) + bulkSegment d.segs) := by omega
  clear hr s0 s1
  subst hr'
  go_enter Tryz.func7, Tryz.ntmps7
  go_wp2_with fail
  refine (C0'.out _ HAL.out).mono ?_
  rintro e w0 ⟨rfl, hb0⟩
  have B0 := Lib.hid (HAL.out.trans (hb0.mono (by first | exact HAL.out.size | simp)))
  obtain ⟨hc0, hf0⟩ := bcellV hb0
  clear hb0
  go_wp2_with fail
  refine (C1'.out _ B0.out).mono ?_
  rintro e w1 ⟨rfl, hb1⟩
  have B1 := Lib.hid (B0.out.trans (hb1.mono (by first | exact B0.out.size | simp)))
  obtain ⟨hc1, hf1⟩ := bcellV hb1
  clear hb1
  go_wp2
  go_ret
  exact ⟨rfl, B1.out⟩
set_option maxHeartbeats 4000000 in
theorem eqChart_same (va0 va1 vb0 vb1 : Value) (d : ChartD) (w : World) (ha : RdChart w va0 va1 d) (hb : RdChart w vb0 vb1 d) :
    Calls Tryz.prog 16 #[.agg #[va0, va1], .agg #[vb0, vb1]] w fun e w' => e = .returned (.bool true) ∧ Below w.heap.size w w' := by
  obtain ⟨ha0, ha1⟩ := ha
  obtain ⟨hb0, hb1⟩ := hb
  have HA0 := Lib.hid ha0
  have HB0 := Lib.hid hb0
  have HA1 := Lib.hid ha1
  have HB1 := Lib.hid hb1
  obtain ⟨A0, c0, rfl⟩ := ha0.at
  obtain ⟨D0, k0, rfl⟩ := hb0.at
  obtain ⟨A1, c1, rfl⟩ := ha1.at
  obtain ⟨D1, k1, rfl⟩ := hb1.at
  clear ha0 hb0 ha1 hb1
  have B := Lib.hid (Joins.below_alloc2 w (.cells #[.slice A0 d.points.length c0, .slice A1 d.segs.length c1] 49) (.cells #[.slice D0 d.points.length k0, .slice D1 d.segs.length k1] 49))
  go_enter Tryz.func16, Tryz.ntmps16
  go_wp2_with fail
  refine (eqPointS_same _ _ d.points _ (HA0.out.below B.out) (HB0.out.below B.out)).mono ?_
  rintro e w0 ⟨rfl, hb0⟩
  have B0 := Lib.hid (B.out.trans (hb0.mono B.out.size))
  obtain ⟨hc0, hf0⟩ := bcellV hb0
  clear hb0
  go_wp2_with fail
  refine (eqSegmentS_same _ _ d.segs _ (HA1.out.below B0.out) (HB1.out.below B0.out)).mono ?_
  rintro e w1 ⟨rfl, hb1⟩
  have B1 := Lib.hid (B0.out.trans (hb1.mono B0.out.size))
  obtain ⟨hc1, hf1⟩ := bcellV hb1
  clear hb1
  go_wp2
  go_ret
  exact ⟨rfl, B1.out⟩
set_option maxHeartbeats 4000000 in
theorem markChart_any (v0 v1 : Value) (d : ChartD) (k : Int) (a b : Nat) (w : World) (h : RdChart w v0 v1 d) (f0 : FreeV w v0) (f1 : FreeV w v1) (r0 : RangeV v0 a b) (r1 : RangeV v1 a b) (p0_1 : ApartV v0 v1) (h0 : 0 ≤ k) (h1 : k ≤ 10000000) (l0 : d.points.length ≤ 1100000) (l1 : d.segs.length ≤ 1100000) :
    Calls Tryz.prog 25 #[.agg #[v0, v1], .int .i64 k] w fun e w' => e = .returned (.int .i64 (k + (d.points.length : Int) * 2 + (d.segs.length : Int) * 5)) ∧ MarkedV w' v0 (d.points.length * 2) (mvPoint (k)) ∧ MarkedV w' v1 (d.segs.length * 5) (mvSegment (k + (d.points.length : Int) * 2)) ∧ TouchR w w' a b := by
  obtain ⟨h0, h1⟩ := h
  have hal := Joins.below_alloc1 w (.cells #[v0, v1] 49)
  have K := Lib.hid (Blk.new w #[v0, v1] 49)
  have T0 := Lib.hid (touch_below hal a b)
  have H0 := Lib.hid (h0.below hal)
  have G0 := Lib.hid (f0.below hal)
  have ge0 : ∀ g, v0.ownBlock = some g → g < w.heap.size := fun g hg => (f0 g hg).2
  have H1 := Lib.hid (h1.below hal)
  have G1 := Lib.hid (f1.below hal)
  have ge1 : ∀ g, v1.ownBlock = some g → g < w.heap.size := fun g hg => (f1 g hg).2
  have R0 := Lib.hid r0
  have GE0 := Lib.hid ge0
  have R1 := Lib.hid r1
  have GE1 := Lib.hid ge1
  have AP0_1 := Lib.hid p0_1
  have ms : (w.alloc (.cells #[v0, v1] 49)).heap.size = w.heap.size + 1 := by simp
  obtain ⟨A0, c0, rfl⟩ := h0.at
  obtain ⟨A1, c1, rfl⟩ := h1.at
  clear hal h0 f0 r0 ge0 h1 f1 r1 ge1 p0_1
  go_enter Tryz.func25, Tryz.ntmps25
  go_wp2_with fail
  refine (markPointS_any _ d.points (k) _ H0.out (fun g hg => (G0.out g hg).1) (by omega) (by omega) (by omega)).mono ?_
  rintro e w0 ⟨rfl, m0, g0⟩
  have U0 := touch_grown g0 R0.out
  have T1 := Lib.hid (T0.out.trans U0)
  have M0_1 := Lib.hid m0
  have H1_1 := Lib.hid (SlOf.grown H1.out g0 AP0_1.out.ne.1)
  have G1_1 := Lib.hid (FreeV.grown G1.out g0 AP0_1.out.ne.1)
  have K1 := Lib.hid (K.out.grown g0 (fun e => Nat.lt_irrefl _ (GE0.out _ e.symm)))
  clear m0 g0 U0
  have x1_0 := K1.out.cell 0
  have x1_1 := K1.out.cell 1
  simp at x1_0 x1_1
  go_wp2_with fail
  refine (markSegmentS_any _ d.segs (k + (d.points.length : Int) * 2) _ H1_1.out (fun g hg => (G1_1.out g hg).1) (by omega) (by omega) (by omega)).mono ?_
  rintro e w1 ⟨rfl, m1, g1⟩
  have U1 := touch_grown g1 R1.out
  have T2 := Lib.hid (T1.out.trans U1)
  have M1_2 := Lib.hid m1
  have M0_2 := Lib.hid (M0_1.out.grown g1 (AP0_1.out.ne.2))
  have K2 := Lib.hid (K1.out.grown g1 (fun e => Nat.lt_irrefl _ (GE1.out _ e.symm)))
  clear m1 g1 U1 x1_0 x1_1
  go_wp2
  go_ret
  exact ⟨rfl, M0_2.out, M1_2.out, T2.out⟩
/-- The block b holds d over the slices v0 v1. -/
def ChartBox (w : World) (b : Nat) (v0 v1 : Value) (d : ChartD) : Prop := w.cell? ⟨b, 0, none⟩ = some (v0) ∧ w.cell? ⟨b, 1, none⟩ = some (v1) ∧ RdChart w v0 v1 d
theorem ChartBox.below {w w' : World} {b : Nat} {v0 v1 : Value} {d : ChartD} (h : ChartBox w b v0 v1 d) (hb : Below w.heap.size w w') : ChartBox w' b v0 v1 d := by
  obtain ⟨h0, h1, hr⟩ := h
  exact ⟨cell_onV h0 hb, cell_onV h1 hb, hr.below hb⟩
theorem ChartBox.new {w : World} {v0 v1 : Value} {d : ChartD} (t : TypeId) (h : RdChart w v0 v1 d) : ChartBox (w.alloc (.cells #[v0, v1] t)) w.heap.size v0 v1 d := by
  refine ⟨?_, ?_, h.below (Joins.below_alloc1 _ _)⟩
  all_goals (rw [World.cell?_alloc_at _ _ _ _ rfl]; rfl)
theorem NewChart.rd {d : ChartD} {w w' : World} {e : Ending} (h : NewChart d w e w') (hl0 : d.points.length ≤ 1000000000) (hl1 : d.segs.length ≤ 1000000000) :
    ∃ A0 c0 A1 c1, e = .returned (.agg #[.slice A0 d.points.length c0, .slice A1 d.segs.length c1]) ∧ RdChart w' (.slice A0 d.points.length c0) (.slice A1 d.segs.length c1) d ∧ Below w.heap.size w w' := by
  obtain ⟨v0, v1, rfl, o0, o1, _, hb⟩ := h
  have s0 := OwnPoint.sl o0 hl0
  obtain ⟨A0, c0, rfl⟩ := own_form o0
  have s1 := OwnSegment.sl o1 hl1
  obtain ⟨A1, c1, rfl⟩ := own_form o1
  exact ⟨A0, c0, A1, c1, rfl, ⟨s0, s1⟩, hb⟩
section
variable {H : Type} {enc : TypeId × Value → H} {w : World} {base : Nat} {spare : Nat → Bool} {held : Bool}
/-- A value that came in. -/
def ChartIn (w : World) (A0 A1 : Option Addr) (c0 c1 : Nat) (d : ChartD) : Prop := SizChart w A0 A1 c0 c1 d
theorem dec_chart (m : Nat) (cs : List Value) (y : DataW H × List MemPlace) (h : DataW.trod enc Tryz.prog w base (fun _ => true) held m 31 cs = some y) :
    ∃ A0 c0 A1 c1 d, cs = [.slice A0 d.points.length c0, .slice A1 d.segs.length c1] ∧ ChartIn w A0 A1 c0 c1 d := by
  obtain ⟨hl, hf⟩ := struct_cells Tryz.underlying31 (by kernel_rfl) (by kernel_rfl) h
  obtain ⟨v0, n0, y0, e0, h0⟩ := hf 0 _ rfl
  obtain ⟨v1, n1, y1, e1, h1⟩ := hf 1 _ rfl
  obtain ⟨A0, c0, a0, rfl, m0, s0, f0⟩ := open_points h0
  obtain ⟨A1, c1, a1, rfl, m1, s1, f1⟩ := open_segments h1
  unfold maxLen at m0
  unfold maxLen at m1
  refine ⟨A0, c0, A1, c1, ⟨a0, a1⟩, ?_, by simp only; omega, s0, f0, by simp only; omega, s1, f1⟩
  match cs, hl with
  | [b0, b1], _ =>
    simp at e0 e1
    subst e0 e1
    rfl
theorem open_chart_arg {r : Reach} {b0 : Nat} {v : Value} {y : DataW H} {ps : List MemPlace} (hval : Value.okWide Tryz.prog w r b0 31 v) (hd : DataW.Trod enc Tryz.prog w 0 (fun _ => true) true 31 v y ps) :
    ∃ A0 c0 A1 c1 d, v = .agg #[.slice A0 d.points.length c0, .slice A1 d.segs.length c1] ∧ ChartIn w A0 A1 c0 c1 d := by
  obtain ⟨cs, rfl, hsz⟩ := okWide_struct Tryz.underlying31 hval
  obtain ⟨fuel, hf⟩ := hd
  obtain ⟨A0, c0, A1, c1, d, hp, g⟩ := dec_chart _ _ _ hf
  refine ⟨A0, c0, A1, c1, d, ?_, g⟩
  obtain ⟨ls⟩ := cs
  simp [Value.cells] at hp
  rw [hp]
end
end Go.Proofs.YtooeikimoheecaaGreat
namespace Go.Proofs.YtooeikimoheecaaGreat
open Go.RowKit
set_option maxRecDepth 100000
theorem take_all_parts {l : List PartD} {k : Nat} (h : ∀ j x, j < k → l[j]? = some x → partB x = true) (hk : l.length ≤ k) : ∀ x ∈ l, partB x = true := by
  intro x hx
  obtain ⟨j, hj⟩ := List.getElem?_of_mem hx
  exact h j x (Nat.lt_of_lt_of_le (List.getElem?_eq_some_iff.1 hj).1 hk) hj
/-- The first k parts are valid. -/
def FirstOk (l : List PartD) (k : Nat) : Prop := ∀ j x, j < k → l[j]? = some x → partB x = true
theorem FirstOk.next {l : List PartD} {k : Nat} {x : PartD} (h : FirstOk l k) (hx : l[k]? = some x) (hp : partB x = true) : FirstOk l (k + 1) := by
  intro j y hj hy
  by_cases e : j = k
  · subst e; rw [hx] at hy; rw [← Option.some.inj hy]; exact hp
  · exact h j y (by omega) hy
set_option maxHeartbeats 1000000 in
theorem implTideOk (m : Int) (v : Value) (l : List PartD) (w : World) (h : SlP w v l) :
    Calls Tryz.prog 148 #[.agg #[.int .i64 m, v]] w fun e w' => e = .returned (.bool (tideB m l)) ∧ Below w.heap.size w w' := by
  have H := Lib.hid h
  have hl := h.1
  by_cases h1 : m < -1000
  · obtain ⟨A, c, rfl⟩ := h.at
    have E := Lib.hid (tideB_no (m := m) (l := l) (by omega))
    clear h
    go_enter Tryz.func148, Tryz.ntmps148
    go_wp2
    go_ret
    exact ⟨ret_bool E.out.symm, Joins.below_alloc1 _ _⟩
  · by_cases h2 : 1000 < m
    · obtain ⟨A, c, rfl⟩ := h.at
      have E := Lib.hid (tideB_no (m := m) (l := l) (by omega))
      clear h
      go_enter Tryz.func148, Tryz.ntmps148
      go_wp2
      go_ret
      exact ⟨ret_bool E.out.symm, Joins.below_alloc1 _ _⟩
    · by_cases h3 : 4 < l.length
      · obtain ⟨A, c, rfl⟩ := h.at
        have E := Lib.hid (tideB_no (m := m) (l := l) (by omega))
        clear h
        go_enter Tryz.func148, Tryz.ntmps148
        go_wp2
        go_ret
        exact ⟨ret_bool E.out.symm, Joins.below_alloc1 _ _⟩
      · obtain ⟨_, h⟩ := h
        rcases h with ⟨rfl, A, c, rfl⟩ | ⟨g, o, c, rfl, hp, hcap, hc⟩
        · have E := Lib.hid (tideB_mk (m := m) (l := []) ⟨by omega, by omega, by simp, by simp⟩)
          go_enter Tryz.func148, Tryz.ntmps148
          go_wp2
          refine wp_loop_rounds 1 ?_
          rw [rounds_succ]
          go_wp2
          go_ret
          exact ⟨ret_bool E.out.symm, Joins.below_alloc1 _ _⟩
        · have HC := Lib.hid hc
          clear hc
          go_enter Tryz.func148, Tryz.ntmps148
          go_wp2
          go_loopw [22] (fun i wr => ∃ k : Nat, k ≤ l.length ∧ i = .int .i64 k ∧ Hid (FirstOk l k) ∧ Below w.heap.size w wr) (fun i _ => l.length - (intOf i).toNat)
          case atStart => exact ⟨0, Nat.zero_le _, rfl, Lib.hid (fun j x hj => absurd hj (by omega)), Joins.below_alloc1 _ _⟩
          case round =>
            obtain ⟨k, hk, rfl, hF, hb⟩ := hrel
            by_cases hlt : k < l.length
            · obtain ⟨x, hx⟩ : ∃ x, l[k]? = some x := ⟨_, List.getElem?_eq_getElem hlt⟩
              obtain ⟨p0, p1, p2⟩ := SlP.cells HC.out k x hx
              have hg : g < w.heap.size := World.block_lt_of_cell? w ⟨g, o + k * 3, none⟩ p0
              have a0 := (hb.cell (p := ⟨g, o + k * 3, none⟩) hg).trans p0
              have a1 := (hb.cell (p := ⟨g, o + k * 3 + 1, none⟩) hg).trans p1
              have a2 := (hb.cell (p := ⟨g, o + k * 3 + 2, none⟩) hg).trans p2
              have hbs := hb.size
              have HX := Lib.hid hx
              have hb' := Lib.hid hb
              clear p0 p1 p2 hx hb
              cases hpx : partB x with
              | false =>
                have E := Lib.hid (tideB_bad (m := m) x k HX.out hpx)
                have HPX := Lib.hid hpx
                clear hpx
                go_wp2_with fail
                refine (implPartOk x _).mono ?_
                rw [HPX.out]
                rintro e w1 ⟨rfl, hb1⟩
                have HB1 := Lib.hid hb1
                clear hb1
                go_wp2
                go_ret
                refine ⟨ret_bool E.out.symm, ?_⟩
                repeat (first | exact hb'.out | refine Below.setCell ?_ (by first | omega | (simp <;> omega)) _ | refine Below.alloc ?_ (by first | omega | (simp <;> omega)) _ | refine Below.trans ?_ (HB1.out.mono (by first | omega | (simp <;> omega))))
              | true =>
                have F := Lib.hid (hF.out.next HX.out hpx)
                have HPX := Lib.hid hpx
                clear hpx
                go_wp2_with fail
                refine (implPartOk x _).mono ?_
                rw [HPX.out]
                rintro e w1 ⟨rfl, hb1⟩
                have HB1 := Lib.hid hb1
                clear hb1
                go_wp2
                go_roundw
                case rel =>
                  refine ⟨k + 1, by omega, by go_num, F, ?_⟩
                  repeat (first | exact hb'.out | refine Below.setCell ?_ (by first | omega | (simp <;> omega)) _ | refine Below.alloc ?_ (by first | omega | (simp <;> omega)) _ | refine Below.trans ?_ (HB1.out.mono (by first | omega | (simp <;> omega))))
                case measure => simp [intOf]; omega
            · have E := Lib.hid (tideB_mk (m := m) (l := l) ⟨by omega, by omega, by omega, take_all_parts hF.out (by omega)⟩)
              go_wp2
              go_ret
              exact ⟨ret_bool E.out.symm, hb⟩
set_option maxHeartbeats 1000000 in
theorem specTideOk (m : Int) (v : Value) (l : List PartD) (w : World) (h : SlP w v l) :
    Calls Tryz.prog 82 #[.agg #[.int .i64 m, v]] w fun e w' => e = .returned (.bool (tideB m l)) ∧ Below w.heap.size w w' := by
  have H := Lib.hid h
  have hl := h.1
  by_cases h1 : m < -1000 ∨ 1000 < m
  · obtain ⟨A, c, rfl⟩ := h.at
    have E := Lib.hid (tideB_no (m := m) (l := l) (by omega))
    have E1 := Lib.hid (inB_no (x := m) (lo := -1000) (hi := 1000) h1)
    clear h h1
    go_enter Tryz.func82, Tryz.ntmps82
    go_wp2_with fail
    refine (l01In_any _ _ _ _).mono ?_
    rintro e w1 ⟨rfl, rfl⟩
    rw [E1.out]
    go_wp2
    go_ret
    exact ⟨ret_bool E.out.symm, Joins.below_alloc1 _ _⟩
  · have E1 := Lib.hid (inB_mk (x := m) (lo := -1000) (hi := 1000) (by omega) (by omega))
    have m0 : -1000 ≤ m := by omega
    have m1 : m ≤ 1000 := by omega
    clear h1
    by_cases h3 : 4 < l.length
    · obtain ⟨A, c, rfl⟩ := h.at
      have E := Lib.hid (tideB_no (m := m) (l := l) (by omega))
      clear h
      go_enter Tryz.func82, Tryz.ntmps82
      go_wp2_with fail
      refine (l01In_any _ _ _ _).mono ?_
      rintro e w1 ⟨rfl, rfl⟩
      rw [E1.out]
      go_wp2
      go_ret
      exact ⟨ret_bool E.out.symm, Joins.below_alloc1 _ _⟩
    · obtain ⟨_, h⟩ := h
      rcases h with ⟨rfl, A, c, rfl⟩ | ⟨g, o, c, rfl, hp, hcap, hc⟩
      · have E := Lib.hid (tideB_mk (m := m) (l := []) ⟨by omega, by omega, by simp, by simp⟩)
        go_enter Tryz.func82, Tryz.ntmps82
        go_wp2_with fail
        refine (l01In_any _ _ _ _).mono ?_
        rintro e w1 ⟨rfl, rfl⟩
        rw [E1.out]
        go_wp2
        refine wp_loop_rounds 1 ?_
        rw [rounds_succ]
        go_wp2
        go_ret
        exact ⟨ret_bool E.out.symm, Joins.below_alloc1 _ _⟩
      · have HC := Lib.hid hc
        clear hc
        go_enter Tryz.func82, Tryz.ntmps82
        go_wp2_with fail
        refine (l01In_any _ _ _ _).mono ?_
        rintro e w1 ⟨rfl, rfl⟩
        rw [E1.out]
        go_wp2
        go_loopw [18] (fun i wr => ∃ k : Nat, k ≤ l.length ∧ i = .int .i64 k ∧ Hid (FirstOk l k) ∧ Below w.heap.size w wr) (fun i _ => l.length - (intOf i).toNat)
        case atStart => exact ⟨0, Nat.zero_le _, rfl, Lib.hid (fun j x hj => absurd hj (by omega)), Joins.below_alloc1 _ _⟩
        case round =>
          obtain ⟨k, hk, rfl, hF, hb⟩ := hrel
          by_cases hlt : k < l.length
          · obtain ⟨x, hx⟩ : ∃ x, l[k]? = some x := ⟨_, List.getElem?_eq_getElem hlt⟩
            obtain ⟨p0, p1, p2⟩ := SlP.cells HC.out k x hx
            have hg : g < w.heap.size := World.block_lt_of_cell? w ⟨g, o + k * 3, none⟩ p0
            have a0 := (hb.cell (p := ⟨g, o + k * 3, none⟩) hg).trans p0
            have a1 := (hb.cell (p := ⟨g, o + k * 3 + 1, none⟩) hg).trans p1
            have a2 := (hb.cell (p := ⟨g, o + k * 3 + 2, none⟩) hg).trans p2
            have hbs := hb.size
            have HX := Lib.hid hx
            have hb' := Lib.hid hb
            clear p0 p1 p2 hx hb
            cases hpx : partB x with
            | false =>
              have E := Lib.hid (tideB_bad (m := m) x k HX.out hpx)
              have HPX := Lib.hid hpx
              clear hpx
              go_wp2_with fail
              refine (specPartOk x _).mono ?_
              rw [HPX.out]
              rintro e w1 ⟨rfl, hb1⟩
              have HB1 := Lib.hid hb1
              clear hb1
              go_wp2
              go_ret
              refine ⟨ret_bool E.out.symm, ?_⟩
              repeat (first | exact hb'.out | refine Below.setCell ?_ (by first | omega | (simp <;> omega)) _ | refine Below.alloc ?_ (by first | omega | (simp <;> omega)) _ | refine Below.trans ?_ (HB1.out.mono (by first | omega | (simp <;> omega))))
            | true =>
              have F := Lib.hid (hF.out.next HX.out hpx)
              have HPX := Lib.hid hpx
              clear hpx
              go_wp2_with fail
              refine (specPartOk x _).mono ?_
              rw [HPX.out]
              rintro e w1 ⟨rfl, hb1⟩
              have HB1 := Lib.hid hb1
              clear hb1
              go_wp2
              go_roundw
              case rel =>
                refine ⟨k + 1, by omega, by go_num, F, ?_⟩
                repeat (first | exact hb'.out | refine Below.setCell ?_ (by first | omega | (simp <;> omega)) _ | refine Below.alloc ?_ (by first | omega | (simp <;> omega)) _ | refine Below.trans ?_ (HB1.out.mono (by first | omega | (simp <;> omega))))
              case measure => simp [intOf]; omega
          · have E := Lib.hid (tideB_mk (m := m) (l := l) ⟨by omega, by omega, by omega, take_all_parts hF.out (by omega)⟩)
            go_wp2
            go_ret
            exact ⟨ret_bool E.out.symm, hb⟩
end Go.Proofs.YtooeikimoheecaaGreat
namespace Go.Proofs.YtooeikimoheecaaGreat
open Go.ChangeShapes Go.WideShapes Go.ChangeAt Go.Deep Go.RowKit
set_option maxRecDepth 100000
section
variable {H : Type} {enc : TypeId × Value → H} {w : World} {base : Nat} {spare : Nat → Bool} {held : Bool}
def PartD.wf (d : PartD) : Prop := (Lit.int .i64 d.amp).wf = true ∧ (Lit.int .i64 d.per).wf = true ∧ (Lit.int .i64 d.pha).wf = true
theorem dec_part (n : Nat) (cs : List Value) (y : DataW H × List MemPlace) (h : DataW.trod enc Tryz.prog w base spare held n 150 cs = some y) : ∃ d : PartD, cs = d.cells ∧ d.wf := by
  obtain ⟨hl, hf⟩ := struct_cells Tryz.underlying150 (by kernel_rfl) (by kernel_rfl) h
  obtain ⟨v0, n0, y0, e0, h0⟩ := hf 0 _ rfl
  obtain ⟨v1, n1, y1, e1, h1⟩ := hf 1 _ rfl
  obtain ⟨v2, n2, y2, e2, h2⟩ := hf 2 _ rfl
  obtain ⟨a, ha, _, wa⟩ := DataW.trod_int Tryz.underlying3 h0
  obtain ⟨p, hp, _, wp⟩ := DataW.trod_int Tryz.underlying3 h1
  obtain ⟨q, hq, _, wq⟩ := DataW.trod_int Tryz.underlying3 h2
  simp only [List.cons.injEq, and_true] at ha hp hq
  subst ha hp hq
  refine ⟨⟨a, p, q⟩, ?_, wa, wp, wq⟩
  match cs, hl with
  | [c0, c1, c2], _ =>
    simp at e0 e1 e2
    subst e0 e1 e2
    rfl
theorem open_parts {fuel : Nat} {v : Value} {x : DataW H × List MemPlace} (h : DataW.trod enc Tryz.prog w base (fun _ => true) held fuel 22 [v] = some x) :
    ∃ A c l, v = .slice A l.length c ∧ l.length ≤ maxLen ∧ (l.length ≤ 1000000000 → SlP w (.slice A l.length c) l) ∧ ∀ d ∈ l, PartD.wf d :=
  open_elems PartD.cells 3 PartD.wf Tryz.underlying22 (by kernel_rfl) partLen (by omega) dec_part h
end
end Go.Proofs.YtooeikimoheecaaGreat
namespace Go.Proofs.YtooeikimoheecaaGreat
open Go.RowKit
set_option maxRecDepth 100000
theorem info_windowS : ∃ i0, Tryz.prog.info? 111 = some i0 ∧ i0.zero = some (.slice none 0 0) ∧ i0.size = 1 ∧ i0.bytes = 24 := by
  have h : (Tryz.prog.info? 111).map (fun i => (i.zero, i.size, i.bytes)) = some (some (.slice none 0 0), 1, 24) := by kernel_rfl
  exact info_parts h
section
variable (w : World)
end
end Go.Proofs.YtooeikimoheecaaGreat
namespace Go.Proofs.YtooeikimoheecaaGreat
open Go.RowKit
set_option maxRecDepth 100000
/-- The index of the first point of a name, or -1. -/
def namedI (l : List PointD) (s : ByteArray) : Int := match l.findIdx? (fun p => p.name.toList == s.toList) with | some i => (i : Int) | none => -1
def NoName (l : List PointD) (s : ByteArray) (k : Nat) : Prop := ∀ j, j < k → ∀ y, l[j]? = some y → (y.name.toList == s.toList) = false
theorem NoName.zero (l : List PointD) (s : ByteArray) : NoName l s 0 := fun j hj => absurd hj (by omega)
theorem NoName.next {l : List PointD} {s : ByteArray} {k : Nat} {x : PointD} (h : NoName l s k) (hx : l[k]? = some x) (hn : (x.name.toList == s.toList) = false) : NoName l s (k + 1) := fun j hj y hy => by
  by_cases e : j = k
  · subst e; rw [hx] at hy; cases hy; exact hn
  · exact h j (by omega) y hy
theorem namedI_at {l : List PointD} {s : ByteArray} {k : Nat} {x : PointD} (h : NoName l s k) (hx : l[k]? = some x) (hn : (x.name.toList == s.toList) = true) : namedI l s = k := by
  have : l.findIdx? (fun p => p.name.toList == s.toList) = some k := by
    rw [List.findIdx?_eq_some_iff_getElem]
    obtain ⟨hk, rfl⟩ := List.getElem?_eq_some_iff.1 hx
    exact ⟨hk, hn, fun j hj => by rw [h j hj _ (List.getElem?_eq_getElem (by omega))]; simp⟩
  unfold namedI; rw [this]
theorem namedI_none {l : List PointD} {s : ByteArray} (h : NoName l s l.length) : namedI l s = -1 := by
  have : l.findIdx? (fun p => p.name.toList == s.toList) = none := by
    rw [List.findIdx?_eq_none_iff]
    intro x hx
    obtain ⟨j, hj⟩ := List.getElem?_of_mem hx
    exact h j (List.getElem?_eq_some_iff.1 hj).1 x hj
  unfold namedI; rw [this]
/-- The segment joins the two points. -/
def joinsB (s : SegmentD) (a b : Int) : Bool := (s.a == a && s.b == b) || (s.a == b && s.b == a)
/-- The other end of a segment, or -1. -/
def otherI (s : SegmentD) (p : Int) : Int := if p = s.a then s.b else if p = s.b then s.a else -1
set_option maxHeartbeats 1000000 in
theorem specPointNamed (v0 v1 : Value) (d : ChartD) (s : ByteArray) (w : World) (h : RdChart w v0 v1 d) (_ : ∀ x ∈ d.points, PointD.wf x) :
    Calls Tryz.prog 92 #[.agg #[v0, v1], .string s] w fun e w' => e = .returned (.int .i64 (namedI d.points s)) ∧ Below w.heap.size w w' := by
  obtain ⟨h0, h1⟩ := h
  obtain ⟨A1, c1, rfl⟩ := h1.at
  obtain ⟨hl, h0⟩ := h0
  rcases h0 with ⟨he, A, c, rfl⟩ | ⟨g, o, c, rfl, hp, hcap, hc⟩
  · have E := Lib.hid (namedI_none (l := d.points) (s := s) (by rw [he]; exact NoName.zero _ _))
    have B := Lib.hid (Joins.below_alloc1 w (.cells #[.slice A 0 c, .slice A1 d.segs.length c1] 49))
    clear he hl h1
    go_enter Tryz.func92, Tryz.ntmps92
    go_wp2
    refine wp_loop_rounds 1 ?_
    rw [rounds_succ]
    go_wp2
    go_ret
    exact ⟨ret_int E.out.symm, B.out⟩
  · have HC := Lib.hid hc
    have B := Lib.hid (Joins.below_alloc1 w (.cells #[.slice (some ⟨g, o, none⟩) d.points.length c, .slice A1 d.segs.length c1] 49))
    clear hc h1
    go_enter Tryz.func92, Tryz.ntmps92
    go_wp2
    go_loopw [10] (fun i wr => ∃ k : Nat, k ≤ d.points.length ∧ i = .int .i64 k ∧ Hid (NoName d.points s k) ∧ Below w.heap.size w wr) (fun i _ => d.points.length - (intOf i).toNat)
    case atStart => exact ⟨0, Nat.zero_le _, rfl, Lib.hid (NoName.zero _ _), B.out⟩
    case round =>
      obtain ⟨k, hk, rfl, hN, hb⟩ := hrel
      by_cases hlt : k < d.points.length
      · obtain ⟨x, hx⟩ : ∃ x, d.points[k]? = some x := ⟨_, List.getElem?_eq_getElem hlt⟩
        obtain ⟨q0, q1⟩ := SlPoint.cells HC.out k x hx
        have hg : g < w.heap.size := World.block_lt_of_cell? w ⟨g, o + k * 2, none⟩ q0
        have c0 := (hb.cell (p := ⟨g, o + k * 2, none⟩) hg).trans q0
        have c1 := (hb.cell (p := ⟨g, o + k * 2 + 1, none⟩) hg).trans q1
        have HX := Lib.hid hx
        have hzs := hb.size
        clear q0 q1 hx
        cases hn : (x.name.toList == s.toList) with
        | true =>
          have E := Lib.hid (namedI_at hN.out HX.out hn)
          go_wp2
          go_ret
          exact ⟨ret_int E.out.symm, hb.alloc hzs _⟩
        | false =>
          have N2 := Lib.hid (hN.out.next HX.out hn)
          go_wp2
          go_roundw
          case rel => exact ⟨k + 1, by omega, by go_num, N2, hb.alloc hzs _⟩
          case measure => simp [intOf]; omega
      · obtain rfl : k = d.points.length := by omega
        have E := Lib.hid (namedI_none hN.out)
        go_wp2
        go_ret
        exact ⟨ret_int E.out.symm, hb⟩
theorem specJoins (s : SegmentD) (a b : Int) (w : World) :
    Calls Tryz.prog 93 #[s.val, .int .i64 a, .int .i64 b] w fun e w' => e = .returned (.bool (joinsB s a b)) ∧ Below w.heap.size w w' := by
  obtain ⟨sa, sb, sd, sm, se⟩ := s
  have B := Lib.hid (Joins.below_alloc1 w (.cells #[.int .i64 sa, .int .i64 sb, .int .i64 sd, .int .i64 sm, .bool se] 121))
  have E := Lib.hid (show joinsB ⟨sa, sb, sd, sm, se⟩ a b = ((sa == a && sb == b) || (sa == b && sb == a)) from rfl)
  rw [E.out]
  clear E
  cases h1 : (sa == a) <;> cases h2 : (sb == b) <;> cases h3 : (sa == b) <;> cases h4 : (sb == a)
  all_goals
    go_enter Tryz.func93, Tryz.ntmps93
    go_wp2
    go_ret
    exact ⟨rfl, B.out⟩
theorem specOther (s : SegmentD) (p : Int) (w : World) :
    Calls Tryz.prog 106 #[s.val, .int .i64 p] w fun e w' => e = .returned (.int .i64 (otherI s p)) ∧ Below w.heap.size w w' := by
  obtain ⟨sa, sb, sd, sm, se⟩ := s
  have B := Lib.hid (Joins.below_alloc1 w (.cells #[.int .i64 sa, .int .i64 sb, .int .i64 sd, .int .i64 sm, .bool se] 121))
  by_cases h1 : p = sa
  · have E := Lib.hid (show otherI ⟨sa, sb, sd, sm, se⟩ p = sb from if_pos h1)
    subst h1
    go_enter Tryz.func106, Tryz.ntmps106
    go_wp2
    go_ret
    exact ⟨ret_int E.out.symm, B.out⟩
  · have e1 : (p == sa) = false := by simpa using h1
    by_cases h2 : p = sb
    · have E := Lib.hid (show otherI ⟨sa, sb, sd, sm, se⟩ p = sa from by unfold otherI; rw [if_neg h1, if_pos h2])
      subst h2
      go_enter Tryz.func106, Tryz.ntmps106
      go_wp2
      go_ret
      exact ⟨ret_int E.out.symm, B.out⟩
    · have e2 : (p == sb) = false := by simpa using h2
      have E := Lib.hid (show otherI ⟨sa, sb, sd, sm, se⟩ p = -1 from by unfold otherI; rw [if_neg h1, if_neg h2])
      clear h1 h2
      go_enter Tryz.func106, Tryz.ntmps106
      go_wp2
      go_ret
      exact ⟨ret_int E.out.symm, B.out⟩
end Go.Proofs.YtooeikimoheecaaGreat
