
/- Routes in the model: l05Points, RouteOk, RoutePoints: what they tell: contracts. -/
import Derived.Test.YtgjappjlnkdpnaaChartFns
import Derived.Test.YtgjappjlnkdpnaaGath
import Derived.StillTailTactics
namespace Go.Proofs.Ytgjappjlnkdpnaa
open Go.RowKit
set_option maxRecDepth 100000

/-- One segment more: the points so far, or none where the route breaks. -/
def stepP (d : ChartD) (acc : Option (List Int)) (i : Int) : Option (List Int) :=
  match acc, segAt d i with
  | some out, some s => if otherI s (out.getLast?.getD 0) < 0 ∨ out.any (· == otherI s (out.getLast?.getD 0)) = true then none else some (out ++ [otherI s (out.getLast?.getD 0)])
  | _, _ => none
def ptsO (d : ChartD) (fr : Int) (l : List Int) : Option (List Int) := l.foldl (stepP d) (some [fr])
theorem stepP_none (d : ChartD) (i : Int) : stepP d none i = none := rfl
theorem ptsO_snoc (d : ChartD) (fr : Int) (l : List Int) (i : Int) : ptsO d fr (l ++ [i]) = stepP d (ptsO d fr l) i := by unfold ptsO; rw [List.foldl_append]; rfl
theorem fold_none (d : ChartD) : ∀ l : List Int, l.foldl (stepP d) none = none := by
  intro l; induction l with
  | nil => rfl
  | cons i l ih => exact ih
theorem ptsO_cut {d : ChartD} {fr : Int} {l : List Int} (k : Nat) (h : ptsO d fr (l.take k) = none) : ptsO d fr l = none := by
  have e : l = l.take k ++ l.drop k := (List.take_append_drop k l).symm
  rw [e]
  unfold ptsO at h ⊢
  rw [List.foldl_append, h, fold_none]
theorem ptsO_next {d : ChartD} {fr : Int} {l : List Int} {k : Nat} {i : Int} (hx : l[k]? = some i) : ptsO d fr (l.take (k + 1)) = stepP d (ptsO d fr (l.take k)) i := by
  rw [take_snoc' l k i hx, ptsO_snoc]
theorem ptsO_len {d : ChartD} {fr : Int} (l : List Int) : ∀ {out : List Int}, ptsO d fr l = some out → out.length = l.length + 1 := by
  refine snocInd (P := fun l => ∀ {out : List Int}, ptsO d fr l = some out → out.length = l.length + 1) ?_ ?_ l
  · intro out h; simp [ptsO] at h; subst h; rfl
  · intro l i ih out h
    rw [ptsO_snoc] at h
    cases hp : ptsO d fr l with
    | none => rw [hp] at h; cases h
    | some o =>
      rw [hp] at h
      unfold stepP at h
      cases hs : segAt d i with
      | none => rw [hs] at h; cases h
      | some s =>
        rw [hs] at h
        simp only at h
        split at h
        · cases h
        · simp at h; subst h; have := ih hp; simp; omega
theorem stepP_out {d : ChartD} {out : List Int} {i : Int} (h : segAt d i = none) : stepP d (some out) i = none := by unfold stepP; rw [h]
theorem stepP_bad {d : ChartD} {out : List Int} {i n z : Int} {s : SegmentD} (h : segAt d i = some s) (hz : out.getLast? = some z) (hn : otherI s z = n) (hb : n < 0 ∨ out.any (· == n) = true) : stepP d (some out) i = none := by
  unfold stepP; rw [h]; simp only [hz, Option.getD_some, hn]; rw [if_pos hb]
theorem stepP_good {d : ChartD} {out : List Int} {i n z : Int} {s : SegmentD} (h : segAt d i = some s) (hz : out.getLast? = some z) (hn : otherI s z = n) (hb : ¬ n < 0) (ha : out.any (· == n) = false) : stepP d (some out) i = some (out ++ [n]) := by
  unfold stepP; rw [h]; simp only [hz, Option.getD_some, hn]; rw [if_neg (by rw [ha]; simp; omega)]

/-- What l05Points leaves. -/
def PtsPost (d : ChartD) (fr : Int) (l : List Int) (w : World) (e : Ending) (w' : World) : Prop :=
  ∃ v, e = .returned (.tuple #[v, .bool (ptsO d fr l).isSome]) ∧ OwnInt w' w.heap.size v ((ptsO d fr l).getD []) ∧ Below w.heap.size w w'
theorem PtsPost.no {d : ChartD} {fr : Int} {l : List Int} {w w' : World} (h : ptsO d fr l = none) (hb : Below w.heap.size w w') : PtsPost d fr l w (.returned (.tuple #[.slice none 0 0, .bool false])) w' := by
  refine ⟨_, by rw [h]; rfl, ?_, hb⟩
  rw [h]
  exact (GathO.empty (cs := intCells) (t := 3) (k := 1) hb).1

def routeB (d : ChartD) (fr : Int) (l : List Int) : Bool := chartB d && inB fr 0 ((d.points.length : Int) - 1) && (ptsO d fr l).isSome
def rteL (d : ChartD) (fr : Int) (l : List Int) : List Int := if routeB d fr l = true then (ptsO d fr l).getD [] else []
theorem routeB_bad {d : ChartD} {fr : Int} {l : List Int} (h : chartB d = false) : routeB d fr l = false := by unfold routeB; rw [h]; rfl
theorem routeB_off {d : ChartD} {fr : Int} {l : List Int} (h : inB fr 0 ((d.points.length : Int) - 1) = false) : routeB d fr l = false := by unfold routeB; rw [h]; simp
theorem routeB_ok {d : ChartD} {fr : Int} {l : List Int} (h : chartB d = true) (h' : inB fr 0 ((d.points.length : Int) - 1) = true) : routeB d fr l = (ptsO d fr l).isSome := by unfold routeB; rw [h, h']; rfl
theorem rteL_len (d : ChartD) (fr : Int) (l : List Int) : (rteL d fr l).length ≤ l.length + 1 := by
  unfold rteL
  split
  · cases h : ptsO d fr l with
    | none => simp
    | some out => have := ptsO_len l h; simp; omega
  · simp

end Go.Proofs.Ytgjappjlnkdpnaa
