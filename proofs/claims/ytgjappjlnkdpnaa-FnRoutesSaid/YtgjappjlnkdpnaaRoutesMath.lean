
/- Routes over the ends of segments alone; the four charts that are drawn: plain mathematics. -/
import Derived.Test.YtgjappjlnkdpnaaBestImpl
import Derived.Test.YtgjappjlnkdpnaaRoutePtsImpl
namespace Go.Proofs.Ytgjappjlnkdpnaa
open Go
set_option maxRecDepth 100000

def endsS (s : SegmentD) : Int × Int := (s.a, s.b)
def otherE (e : Int × Int) (p : Int) : Int := if p = e.1 then e.2 else if p = e.2 then e.1 else -1
def atE (E : List (Int × Int)) (i : Int) : Option (Int × Int) := if 0 ≤ i then E[i.toNat]? else none
def endE (E : List (Int × Int)) (i p : Int) : Int := match atE E i with | some e => otherE e p | none => -1
def nextE (E : List (Int × Int)) (out : List Int) (i : Int) : Int := if out.any (· == endE E i (out.getLast?.getD 0)) = true then -1 else endE E i (out.getLast?.getD 0)
def walkE (E : List (Int × Int)) (to : Int) : Nat → List Int → List Int → List (List Int)
  | 0, pts, rt => if pts.getLast?.getD 0 = to then [rt] else []
  | f + 1, pts, rt => if pts.getLast?.getD 0 = to then [rt] else (List.range E.length).flatMap fun i : Nat => if nextE E pts (i : Int) < 0 then [] else walkE E to f (pts ++ [nextE E pts (i : Int)]) (rt ++ [(i : Int)])
def joinE (e : Int × Int) (a b : Int) : Bool := (e.1 == a && e.2 == b) || (e.1 == b && e.2 == a)
theorem segAt_E (d : ChartD) (i : Int) : atE (d.segs.map endsS) i = (segAt d i).map endsS := by
  unfold atE segAt
  split
  · rw [List.getElem?_map]
  · rfl
theorem endP_E (d : ChartD) (i p : Int) : endP d i p = endE (d.segs.map endsS) i p := by
  unfold endP endE
  rw [segAt_E]
  cases segAt d i <;> rfl
theorem nextI_E (d : ChartD) (out : List Int) (i : Int) : nextI d out i = nextE (d.segs.map endsS) out i := by
  unfold nextI nextE
  rw [endP_E]
theorem walkF_E (d : ChartD) (to : Int) : ∀ (f : Nat) (pts rt : List Int), walkF d to f pts rt = walkE (d.segs.map endsS) to f pts rt := by
  intro f
  induction f with
  | zero => intro pts rt; rfl
  | succ f ih =>
    intro pts rt
    unfold walkF walkE
    rw [List.length_map]
    simp only [nextI_E, ih]
def stepE (E : List (Int × Int)) (acc : Option (List Int)) (i : Int) : Option (List Int) := match acc with | none => none | some out => if nextE E out i < 0 then none else some (out ++ [nextE E out i])
def ptsE (E : List (Int × Int)) (fr : Int) (l : List Int) : Option (List Int) := l.foldl (stepE E) (some [fr])
theorem stepP_E (d : ChartD) (acc : Option (List Int)) (i : Int) : stepP d acc i = stepE (d.segs.map endsS) acc i := by
  cases acc with
  | none => rfl
  | some out => rw [stepP_nextI]; unfold stepE; simp only [nextI_E]
theorem ptsO_E (d : ChartD) (fr : Int) (l : List Int) : ptsO d fr l = ptsE (d.segs.map endsS) fr l := by
  unfold ptsO ptsE
  rw [show stepP d = stepE (d.segs.map endsS) from funext fun acc => funext fun i => stepP_E d acc i]
def firstE (E : List (Int × Int)) (a b : Int) : Int := firstI (fun e => joinE e a b) E
theorem firstI_E (d : ChartD) (a b : Int) : firstI (fun s => joinsB s a b) d.segs = firstE (d.segs.map endsS) a b := by
  unfold firstE firstI
  rw [List.findIdx?_map]
  rfl

/-- The arrangements that are drawn. -/
def topo (e3 e4 : Bool) : List (Int × Int) := [(0, 1), (1, 2), (2, 3)] ++ (if e3 then [(3, 1)] else []) ++ (if e4 then [(2, 4)] else [])
def nPts (e4 : Bool) : Nat := if e4 then 5 else 4
def goodStep (E : List (Int × Int)) (r p : List Int) (i : Nat) : Bool := endE E (r.getD i 0) (p.getD i 0) == p.getD (i + 1) 0 && firstE E (p.getD (i + 1) 0) (p.getD i 0) == r.getD i 0
def goodRoute (E : List (Int × Int)) (a b : Int) (r : List Int) : Bool := match ptsE E a r with | some p => p.length == r.length + 1 && p.getD (p.length - 1) 0 == b && (List.range r.length).all (goodStep E r p) | none => false
def goodPair (E : List (Int × Int)) (a b : Int) : Bool :=
  !(walkE E b 7 [a] []).isEmpty && (walkE E b 7 [a] []).length == (walkE E a 7 [b] []).length && (walkE E b 7 [a] []).all (fun r => (walkE E a 7 [b] []).contains r.reverse && goodRoute E a b r && r.all (fun i => decide (0 ≤ i ∧ i < (E.length : Int))))
theorem topo_good (e3 e4 : Bool) : ((List.range (nPts e4)).all fun a : Nat => (List.range (nPts e4)).all fun b : Nat => goodPair (topo e3 e4) (a : Int) (b : Int)) = true := by
  cases e3 <;> cases e4 <;> kernel_rfl

/-- No route takes less time than the best one. -/
theorem bestF_le (g : List Int → Int) (ll : List (List Int)) : ∀ b, bestF g ll = some b → ∀ r ∈ ll, g b ≤ g r := by
  refine snocInd (P := fun ll => ∀ b, bestF g ll = some b → ∀ r ∈ ll, g b ≤ g r) (fun b h => by cases h) (fun xs x ih b h r hr => ?_) ll
  rw [bestF_snoc] at h
  cases hb : bestF g xs with
  | none =>
    rw [hb] at h
    injection h with h
    subst h
    rw [bestF_none.1 hb] at hr
    simp at hr
    subst hr
    exact Int.le_refl _
  | some c =>
    rw [hb] at h
    simp only at h
    rcases List.mem_append.1 hr with hr | hr
    · have h1 := ih c hb r hr
      split at h
      · injection h with h; subst h; omega
      · injection h with h; subst h; exact h1
    · simp at hr
      subst hr
      split at h
      · injection h with h; subst h; exact Int.le_refl _
      · injection h with h; subst h; omega
theorem minSum_rev (d : ChartD) (l : List Int) : minSum d l.reverse = minSum d l := by
  induction l with
  | nil => rfl
  | cons i l ih =>
    rw [List.reverse_cons, minSum_append, ih]
    simp only [minSum]
    cases segAt d i <;> cases minSum d l <;> simp [Int.add_comm]
theorem minutesI_rev (d : ChartD) (l : List Int) : minutesI d l.reverse = minutesI d l := by unfold minutesI; rw [minSum_rev]
end Go.Proofs.Ytgjappjlnkdpnaa
