
/- What InOrderLaw rests on, part 42: contracts and mathematics. -/
import Derived.Test.YtooeikimoheecaaIo39
import Derived.Test.YtooeikimoheecaaIo14
namespace Go.Proofs.Ytooeikimoheecaa
open Go
set_option maxRecDepth 100000
theorem ends_drawn (r : ChartRnd) : r.chart.segs.map endsS = topo r.e3 r.e4 := by
  obtain ⟨b, m, e3, e4, x0, y0, x1, y1, x2, y2, x3, y3, x4⟩ := r
  cases e3 <;> cases e4 <;> rfl
theorem good_pair (r : ChartRnd) {a b : Nat} (ha : a < r.chart.points.length) (hb : b < r.chart.points.length) : goodPair (topo r.e3 r.e4) (a : Int) (b : Int) = true := by
  rw [npts_drawn] at ha hb
  have h := topo_good r.e3 r.e4
  have h1 := List.all_eq_true.1 h a (List.mem_range.2 ha)
  exact List.all_eq_true.1 h1 b (List.mem_range.2 hb)
theorem rts_drawn (r : ChartRnd) (hr : r.ok) {a b : Nat} (ha : a < r.chart.points.length) (hb : b < r.chart.points.length) : rtsL r.chart (a : Int) (b : Int) = walkE (topo r.e3 r.e4) (b : Int) 7 [(a : Int)] [] := by
  rw [rtsL_ok (chart_drawn r hr) (inB_mk (by omega) (by omega)) (inB_mk (by omega) (by omega)), walkF_E, ends_drawn]
theorem pair_parts {E : List (Int × Int)} {a b : Int} (h : goodPair E a b = true) :
    walkE E b 7 [a] [] ≠ [] ∧ (walkE E b 7 [a] []).length = (walkE E a 7 [b] []).length ∧ ∀ rt ∈ walkE E b 7 [a] [], rt.reverse ∈ walkE E a 7 [b] [] ∧ goodRoute E a b rt = true := by
  unfold goodPair at h
  simp only [Bool.and_eq_true] at h
  obtain ⟨⟨h1, h2⟩, h3⟩ := h
  refine ⟨fun e => by rw [e] at h1; simp at h1, by simpa using h2, fun rt hrt => ?_⟩
  have h4 := List.all_eq_true.1 h3 rt hrt
  simp only [Bool.and_eq_true] at h4
  exact ⟨by simpa using h4.1.1, h4.1.2⟩
theorem best_some (r : ChartRnd) (hr : r.ok) {a b : Nat} (ha : a < r.chart.points.length) (hb : b < r.chart.points.length) : (bestO r.chart (a : Int) (b : Int)).isSome = true ∧ 0 < (rtsL r.chart (a : Int) (b : Int)).length ∧ (bestO r.chart (a : Int) (b : Int)).getD [] ∈ rtsL r.chart (a : Int) (b : Int) := by
  have hp := (pair_parts (good_pair r ha hb)).1
  rw [← rts_drawn r hr ha hb] at hp
  cases hbo : bestO r.chart (a : Int) (b : Int) with
  | none => unfold bestO at hbo; rw [bestF_none] at hbo; exact absurd hbo hp
  | some t => exact ⟨rfl, List.length_pos_iff.2 hp, bestF_mem _ _ t hbo⟩
end Go.Proofs.Ytooeikimoheecaa
