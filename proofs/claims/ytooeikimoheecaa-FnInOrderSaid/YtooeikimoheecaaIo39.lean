
/- What InOrderLaw rests on, part 39: contracts and mathematics. -/
import Derived.Test.YtooeikimoheecaaIo14
import Derived.Test.YtooeikimoheecaaIo36
import Derived.Test.YtooeikimoheecaaIo27
namespace Go.Proofs.Ytooeikimoheecaa
open Go
set_option maxRecDepth 100000
def endsS (s : SegmentD) : Int × Int := (s.a, s.b)
def otherE (e : Int × Int) (p : Int) : Int := if p = e.1 then e.2 else if p = e.2 then e.1 else -1
def atE (E : List (Int × Int)) (i : Int) : Option (Int × Int) := if 0 ≤ i then E[i.toNat]? else none
def endE (E : List (Int × Int)) (i p : Int) : Int := match atE E i with | some e => otherE e p | none => -1
def nextE (E : List (Int × Int)) (out : List Int) (i : Int) : Int := if out.any (· == endE E i (out.getLast?.getD 0)) = true then -1 else endE E i (out.getLast?.getD 0)
def walkE (E : List (Int × Int)) (tgt : Int) : Nat → List Int → List Int → List (List Int)
  | 0, pts, rt => if pts.getLast?.getD 0 = tgt then [rt] else []
  | f + 1, pts, rt => if pts.getLast?.getD 0 = tgt then [rt] else (List.range E.length).flatMap fun i : Nat => if nextE E pts (i : Int) < 0 then [] else walkE E tgt f (pts ++ [nextE E pts (i : Int)]) (rt ++ [(i : Int)])
def joinE (e : Int × Int) (a b : Int) : Bool := (e.1 == a && e.2 == b) || (e.1 == b && e.2 == a)
theorem segAt_E (d : ChartD) (i : Int) : atE (d.segs.map endsS) i = (segAt d i).map endsS := by
  unfold atE segAt
  split
  · rw [List.getElem?_map]
  · rfl
theorem endP_E (d : ChartD) (i p : Int) : endP d i p = endE (d.segs.map endsS) i p := by
  unfold endP endE
  rw [segAt_E]
  cases segAt d i <;> rfl
theorem nextI_E (d : ChartD) (out : List Int) (i : Int) : nextPt d out i = nextE (d.segs.map endsS) out i := by
  unfold nextPt nextE
  rw [endP_E]
theorem walkF_E (d : ChartD) (tgt : Int) : ∀ (f : Nat) (pts rt : List Int), walkF d tgt f pts rt = walkE (d.segs.map endsS) tgt f pts rt := by
  intro f
  induction f with
  | zero => intro pts rt; rfl
  | succ f ih =>
    intro pts rt
    unfold walkF walkE
    rw [List.length_map]
    simp only [nextI_E, ih]
def stepE (E : List (Int × Int)) (acc : Option (List Int)) (i : Int) : Option (List Int) := match acc with | none => none | some out => if nextE E out i < 0 then none else some (out ++ [nextE E out i])
def ptsE (E : List (Int × Int)) (fr : Int) (l : List Int) : Option (List Int) := l.foldl (stepE E) (some [fr])
def firstE (E : List (Int × Int)) (a b : Int) : Int := firstI (fun e => joinE e a b) E
/-- The arrangements that are drawn. -/
def topo (e3 e4 : Bool) : List (Int × Int) := [(0, 1), (1, 2), (2, 3)] ++ (if e3 then [(3, 1)] else []) ++ (if e4 then [(2, 4)] else [])
def goodStep (E : List (Int × Int)) (r p : List Int) (i : Nat) : Bool := endE E (r.getD i 0) (p.getD i 0) == p.getD (i + 1) 0 && firstE E (p.getD (i + 1) 0) (p.getD i 0) == r.getD i 0
def goodRoute (E : List (Int × Int)) (a b : Int) (r : List Int) : Bool := match ptsE E a r with | some p => p.length == r.length + 1 && p.getD (p.length - 1) 0 == b && (List.range r.length).all (goodStep E r p) | none => false
def goodPair (E : List (Int × Int)) (a b : Int) : Bool :=
  !(walkE E b 7 [a] []).isEmpty && (walkE E b 7 [a] []).length == (walkE E a 7 [b] []).length && (walkE E b 7 [a] []).all (fun r => (walkE E a 7 [b] []).contains r.reverse && goodRoute E a b r && r.all (fun i => decide (0 ≤ i ∧ i < (E.length : Int))))
theorem topo_good (e3 e4 : Bool) : ((List.range (nPts e4)).all fun a : Nat => (List.range (nPts e4)).all fun b : Nat => goodPair (topo e3 e4) (a : Int) (b : Int)) = true := by
  cases e3 <;> cases e4 <;> kernel_rfl
end Go.Proofs.Ytooeikimoheecaa
