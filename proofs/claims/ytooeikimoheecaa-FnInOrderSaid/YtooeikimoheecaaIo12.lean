
/- What InOrderLaw rests on, part 12: contracts and mathematics. -/
import Derived.Test.YtooeikimoheecaaIo8
import Derived.Test.YtooeikimoheecaaIo3
namespace Go.Proofs.Ytooeikimoheecaa
open Go.RowKit
set_option maxRecDepth 100000
def segB (n : Nat) (s : SegmentD) : Bool := inB s.a 0 ((n : Int) - 1) && inB s.b 0 ((n : Int) - 1) && !(s.a == s.b) && inB s.depth 0 3000 && inB s.minutes 1 240
def ptOk (l : List PointD) (k : Nat) : Bool := match l[k]? with | some x => nameB x.name && (namedI l x.name == (k : Int)) | none => true
/-- No segment ahead of k joins the ends of s. -/
def aloneB (l : List SegmentD) (s : SegmentD) (k : Nat) : Bool := (l.take k).all fun o => !joinsB o s.a s.b
def sgOk (n : Nat) (l : List SegmentD) (k : Nat) : Bool := match l[k]? with | some s => segB n s && aloneB l s k | none => true
def chartB (d : ChartD) : Bool := decide (d.points.length ≤ 8 ∧ d.segs.length ≤ 10) && (List.range d.points.length).all (ptOk d.points) && (List.range d.segs.length).all (sgOk d.points.length d.segs)
def FirstPt (d : ChartD) (k : Nat) : Prop := ∀ j, j < k → ptOk d.points j = true
def FirstSg (d : ChartD) (k : Nat) : Prop := ∀ j, j < k → sgOk d.points.length d.segs j = true
theorem FirstPt.next {d : ChartD} {k : Nat} (h : FirstPt d k) (hk : ptOk d.points k = true) : FirstPt d (k + 1) := fun j hj => by
  by_cases e : j = k
  · subst e; exact hk
  · exact h j (by omega)
theorem FirstSg.next {d : ChartD} {k : Nat} (h : FirstSg d k) (hk : sgOk d.points.length d.segs k = true) : FirstSg d (k + 1) := fun j hj => by
  by_cases e : j = k
  · subst e; exact hk
  · exact h j (by omega)
theorem chartB_mk {d : ChartD} (h1 : d.points.length ≤ 8) (h2 : d.segs.length ≤ 10) (h3 : FirstPt d d.points.length) (h4 : FirstSg d d.segs.length) : chartB d = true := by
  unfold chartB
  rw [decide_eq_true ⟨h1, h2⟩, List.all_eq_true.2 (fun j hj => h3 j (List.mem_range.1 hj)), List.all_eq_true.2 (fun j hj => h4 j (List.mem_range.1 hj))]
  rfl
theorem chartB_true {d : ChartD} (h : chartB d = true) : d.points.length ≤ 8 ∧ d.segs.length ≤ 10 ∧ FirstPt d d.points.length ∧ FirstSg d d.segs.length := by
  unfold chartB at h
  rw [Bool.and_eq_true, Bool.and_eq_true, decide_eq_true_iff] at h
  obtain ⟨⟨⟨h1, h2⟩, h3⟩, h4⟩ := h
  exact ⟨h1, h2, fun j hj => List.all_eq_true.1 h3 j (List.mem_range.2 hj), fun j hj => List.all_eq_true.1 h4 j (List.mem_range.2 hj)⟩
theorem ptOk_at {l : List PointD} {k : Nat} {x : PointD} (hx : l[k]? = some x) : ptOk l k = (nameB x.name && (namedI l x.name == (k : Int))) := by unfold ptOk; rw [hx]
theorem sgOk_at {n : Nat} {l : List SegmentD} {k : Nat} {s : SegmentD} (hx : l[k]? = some s) : sgOk n l k = (segB n s && aloneB l s k) := by unfold sgOk; rw [hx]
/-- What is known of a segment of a valid chart. -/
theorem segB_true {n : Nat} {s : SegmentD} (h : segB n s = true) : 0 ≤ s.a ∧ s.a < n ∧ 0 ≤ s.b ∧ s.b < n ∧ s.a ≠ s.b ∧ 0 ≤ s.depth ∧ s.depth ≤ 3000 ∧ 1 ≤ s.minutes ∧ s.minutes ≤ 240 := by
  unfold segB inB at h
  simp at h
  omega
theorem chartB_seg {d : ChartD} (h : chartB d = true) {k : Nat} {s : SegmentD} (hx : d.segs[k]? = some s) : segB d.points.length s = true := by
  have hk := (chartB_true h).2.2.2 k (List.getElem?_eq_some_iff.1 hx).1
  rw [sgOk_at hx, Bool.and_eq_true] at hk
  exact hk.1
end Go.Proofs.Ytooeikimoheecaa
