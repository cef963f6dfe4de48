
/- What ExactPassageOk and ExactArrivalOf and ExactPassagesOf and ExactIsChain rests on, part 18: contracts and mathematics. -/
import Derived.Test.YtooeikimoheecaaPa17
import Derived.Test.YtooeikimoheecaaPa12
import Derived.Test.YtooeikimoheecaaPa6
namespace Go.Proofs.Ytooeikimoheecaa
set_option maxRecDepth 100000
/-- The ship of a fleet at a place. -/
def shipAt (l : List ShipD) (i : Int) : Option ShipD := if 0 ≤ i then l[i.toNat]? else none
theorem shipAt_in {l : List ShipD} {i : Int} (h : inB i 0 ((l.length : Int) - 1) = true) : ∃ s, shipAt l i = some s ∧ l[i.toNat]? = some s ∧ 0 ≤ i ∧ i.toNat < l.length := by
  unfold inB at h
  have h' := of_decide_eq_true h
  refine ⟨l[i.toNat]'(by omega), ?_, List.getElem?_eq_getElem (by omega), h'.1, by omega⟩
  unfold shipAt
  rw [if_pos h'.1, List.getElem?_eq_getElem (by omega)]
/-- What PassageOk asks before it reads the ship. -/
def passPre (d : ChartD) (l : List ShipD) (p : PassageD) : Bool := chartB d && fleetB l && inB p.ship 0 ((l.length : Int) - 1) && inB p.segment 0 ((d.segs.length : Int) - 1) && inB p.start 0 2880
def passB (d : ChartD) (l : List ShipD) (p : PassageD) : Bool := passPre d l p && (match shipAt l p.ship with | some s => (p.stop == p.start + minOn d p.segment s) && decide (p.stop ≤ 2880) | none => false)
theorem passB_bad {d : ChartD} {l : List ShipD} {p : PassageD} (h : passPre d l p = false) : passB d l p = false := by unfold passB; rw [h]; rfl
theorem passB_ok {d : ChartD} {l : List ShipD} {p : PassageD} {s : ShipD} (h : passPre d l p = true) (hs : shipAt l p.ship = some s) : passB d l p = ((p.stop == p.start + minOn d p.segment s) && decide (p.stop ≤ 2880)) := by unfold passB; rw [h, hs]; rfl
/-- The minutes of a ship on the segment that is named, whatever its chart. -/
def onSeg (d : ChartD) (s : ShipD) (i : Int) : Int := match segAt d i with | some g => onMin g s | none => 0
/-- The arrival of a ship that begins the segments of a route at these minutes. -/
def arrI (d : ChartD) (s : ShipD) (route starts : List Int) : Int :=
  if chartB d = true ∧ shipB s = true ∧ (minSum d route).isSome = true ∧ route.length = starts.length ∧ route ≠ [] ∧ inB (starts.getLast?.getD 0) 0 2880 = true then starts.getLast?.getD 0 + onSeg d s (route.getLast?.getD 0) else -1
theorem arrI_no {d : ChartD} {s : ShipD} {route starts : List Int} (h : ¬ (chartB d = true ∧ shipB s = true ∧ (minSum d route).isSome = true ∧ route.length = starts.length ∧ route ≠ [] ∧ inB (starts.getLast?.getD 0) 0 2880 = true)) : arrI d s route starts = -1 := if_neg h
theorem arrI_yes {d : ChartD} {s : ShipD} {route starts : List Int} {t i : Int} {g : SegmentD} (h1 : chartB d = true) (h2 : shipB s = true) (h3 : (minSum d route).isSome = true) (h4 : route.length = starts.length) (h5 : route ≠ []) (ht : starts.getLast? = some t) (h6 : inB t 0 2880 = true) (hi : route.getLast? = some i) (hg : segAt d i = some g) :
    arrI d s route starts = t + onMin g s := by
  unfold arrI
  rw [if_pos ⟨h1, h2, h3, h4, h5, by rw [ht]; exact h6⟩, ht, hi]
  simp only [Option.getD_some, onSeg, hg]
/-- The passage on segment i of a route, from the point p. -/
def passOf (d : ChartD) (ship : Int) (s : ShipD) (i p t : Int) : PassageD := ⟨ship, i, (match segAt d i with | some g => g.a == p | none => false), t, t + onSeg d s i⟩
/-- The passages of the first k segments, while the starts are minutes. -/
def passTo (d : ChartD) (ship : Int) (s : ShipD) (pts route starts : List Int) : Nat → Option (List PassageD)
  | 0 => some []
  | k + 1 => match passTo d ship s pts route starts k with
    | none => none
    | some out => if inB (starts.getD k 0) 0 2880 = true then some (out ++ [passOf d ship s (route.getD k 0) (pts.getD k 0) (starts.getD k 0)]) else none
theorem passTo_len {d : ChartD} {ship : Int} {s : ShipD} {pts route starts : List Int} : ∀ k {out : List PassageD}, passTo d ship s pts route starts k = some out → out.length = k
  | 0, out, h => by cases h; rfl
  | k + 1, out, h => by
    unfold passTo at h
    cases h1 : passTo d ship s pts route starts k with
    | none => rw [h1] at h; cases h
    | some o =>
      rw [h1] at h
      simp only at h
      have := passTo_len k h1
      split at h
      · cases h; simp [this]
      · cases h
theorem passTo_stop {d : ChartD} {ship : Int} {s : ShipD} {pts route starts : List Int} {k : Nat} (h : passTo d ship s pts route starts k = none) : ∀ n, passTo d ship s pts route starts (k + n) = none
  | 0 => h
  | n + 1 => by
    have ih := passTo_stop h n
    show passTo d ship s pts route starts ((k + n) + 1) = none
    unfold passTo
    rw [ih]
theorem passTo_none {d : ChartD} {ship : Int} {s : ShipD} {pts route starts : List Int} {k : Nat} (h : passTo d ship s pts route starts k = none) (n : Nat) (hn : k ≤ n) : passTo d ship s pts route starts n = none := by
  obtain ⟨j, rfl⟩ : ∃ j, n = k + j := ⟨n - k, by omega⟩
  exact passTo_stop h j
theorem passTo_next {d : ChartD} {ship : Int} {s : ShipD} {pts route starts : List Int} {k : Nat} {out : List PassageD} {t p i : Int} (h : passTo d ship s pts route starts k = some out) (ht : starts[k]? = some t) (hp : pts[k]? = some p) (hi : route[k]? = some i) :
    passTo d ship s pts route starts (k + 1) = if inB t 0 2880 = true then some (out ++ [passOf d ship s i p t]) else none := by
  show (match passTo d ship s pts route starts k with
    | none => none
    | some out => if inB (starts.getD k 0) 0 2880 = true then some (out ++ [passOf d ship s (route.getD k 0) (pts.getD k 0) (starts.getD k 0)]) else none) = _
  rw [h]
  simp only [List.getD_eq_getElem?_getD, ht, hp, hi, Option.getD_some]
def passPre' (d : ChartD) (s : ShipD) (fr : Int) (route starts : List Int) : Bool := routeB d fr route && shipB s && decide (route.length = starts.length)
def passL (d : ChartD) (ship : Int) (s : ShipD) (fr : Int) (route starts : List Int) : List PassageD := if passPre' d s fr route starts = true then (passTo d ship s (rteL d fr route) route starts route.length).getD [] else []
theorem passL_bad {d : ChartD} {ship : Int} {s : ShipD} {fr : Int} {route starts : List Int} (h : passPre' d s fr route starts = false) : passL d ship s fr route starts = [] := if_neg (by rw [h]; simp)
theorem passL_ok {d : ChartD} {ship : Int} {s : ShipD} {fr : Int} {route starts : List Int} (h : passPre' d s fr route starts = true) : passL d ship s fr route starts = (passTo d ship s (rteL d fr route) route starts route.length).getD [] := if_pos h
theorem passL_len (d : ChartD) (ship : Int) (s : ShipD) (fr : Int) (route starts : List Int) : (passL d ship s fr route starts).length ≤ route.length := by
  unfold passL
  split
  · cases h : passTo d ship s (rteL d fr route) route starts route.length with
    | none => simp
    | some out => have := passTo_len _ h; simp [this]
  · simp
/-- The points at which a passage on the segment g begins and ends. -/
def headOf (g : SegmentD) (t : Bool) : Int := if t = true then g.a else g.b
def tailOf (g : SegmentD) (t : Bool) : Int := if t = true then g.b else g.a
/-- Whether the passage at place k goes on where the one before it ends. -/
def linkB (d : ChartD) (l : List PassageD) (k : Nat) : Bool := match l[k]?, l[k - 1]?, l[0]? with
  | some p, some q, some z => (p.ship == z.ship) && inB p.segment 0 ((d.segs.length : Int) - 1) && (decide (k = 0) || (match segAt d p.segment, segAt d q.segment with | some g, some h => (headOf g p.toward == tailOf h q.toward) && decide (q.stop ≤ p.start) | _, _ => false))
  | _, _, _ => true
def chainB (d : ChartD) (l : List PassageD) : Bool := chartB d && (List.range l.length).all (linkB d l)
theorem chainB_bad {d : ChartD} {l : List PassageD} (h : chartB d = false) : chainB d l = false := by unfold chainB; rw [h]; rfl
def LinkTo (d : ChartD) (l : List PassageD) (k : Nat) : Prop := ∀ j, j < k → linkB d l j = true
theorem LinkTo.zero (d : ChartD) (l : List PassageD) : LinkTo d l 0 := fun j hj => absurd hj (by omega)
theorem LinkTo.next {d : ChartD} {l : List PassageD} {k : Nat} (h : LinkTo d l k) (hk : linkB d l k = true) : LinkTo d l (k + 1) := fun j hj => by
  by_cases e : j = k
  · subst e; exact hk
  · exact h j (by omega)
theorem chainB_yes {d : ChartD} {l : List PassageD} (h : chartB d = true) (hl : LinkTo d l l.length) : chainB d l = true := by
  unfold chainB
  rw [h]
  simp only [Bool.true_and, List.all_eq_true, List.mem_range]
  exact fun j hj => hl j hj
theorem chainB_no {d : ChartD} {l : List PassageD} {k : Nat} (hk : k < l.length) (hb : linkB d l k = false) : chainB d l = false := by
  unfold chainB
  cases h : (List.range l.length).all (linkB d l) with
  | false => simp
  | true =>
    rw [List.all_eq_true] at h
    rw [h k (List.mem_range.2 hk)] at hb
    cases hb
end Go.Proofs.Ytooeikimoheecaa
