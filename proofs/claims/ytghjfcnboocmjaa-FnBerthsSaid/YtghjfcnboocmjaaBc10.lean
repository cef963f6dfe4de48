
/- What ExactFreeTimes and BerthsLaw rests on, part 10: contracts and mathematics. -/
import Derived.Test.YtghjfcnboocmjaaBc5
import Derived.Test.YtghjfcnboocmjaaBc6
import Derived.Test.YtghjfcnboocmjaaBc1
import Derived.Test.YtghjfcnboocmjaaBc9
import Derived.Test.YtghjfcnboocmjaaBc3
import Derived.Test.YtghjfcnboocmjaaBc8
import Derived.Test.YtghjfcnboocmjaaBc0
import Derived.RangeFuncNested
import Derived.RangeFuncBound
import Derived.RangeFuncCalls
import Derived.RangeFuncLeaves
import Derived.Shelf.Abstract
import Derived.Shelf.RegionOpen
import Derived.WalkKit
import Derived.OwnWalkIn
import Derived.TacticsInMore
import Derived.LoopNIn
import Derived.LoopIn
import Derived.Maps.AppendAt
import Derived.Test.YtghjfcnboocmjaaBc4
namespace Go.Proofs.Ytghjfcnboocmjaa
open Go.RowKit
set_option maxRecDepth 100000
def berthB (b : BerthD) : Bool := nameB b.name && inB b.length 10 400 && inB b.depth 0 3000
def sameName (b o : BerthD) : Bool := o.name.toList == b.name.toList
def pBerth (done : List BerthD) (b : BerthD) : Bool := berthB b && !done.any (sameName b)
def berthsB (l : List BerthD) : Bool := decide (l.length ≤ 4) && runB pBerth [] l
theorem berthsB_len {l : List BerthD} (h : berthsB l = true) : l.length ≤ 4 := by
  unfold berthsB at h
  rw [Bool.and_eq_true] at h
  exact of_decide_eq_true h.1
theorem berthsB_long {l : List BerthD} (h : ¬ l.length ≤ 4) : berthsB l = false := by unfold berthsB; rw [decide_eq_false h]; rfl
theorem berthsB_no {l : List BerthD} {i : Nat} {b : BerthD} (hx : l[i]? = some b) (hp : pBerth (l.take i) b = false) : berthsB l = false := by unfold berthsB; rw [run_no hx hp, Bool.and_false]
theorem berthsB_yes {l : List BerthD} (h : l.length ≤ 4) (hr : RunTo pBerth l l.length) : berthsB l = true := by unfold berthsB; rw [decide_eq_true h, hr.all]; rfl
theorem berthsB_at {l : List BerthD} (h : berthsB l = true) {i : Nat} {b : BerthD} (hx : l[i]? = some b) : berthB b = true := by
  unfold berthsB at h
  rw [Bool.and_eq_true] at h
  have := run_at h.2 hx
  unfold pBerth at this
  rw [Bool.and_eq_true] at this
  exact this.1
def fitB (b : BerthD) (s : ShipD) : Bool := shipB s && decide (s.length ≤ b.length) && decide (s.draught ≤ b.depth)
def timeB (s : StayD) : Bool := inB s.fr 0 2880 && decide (s.fr < s.tt) && decide (s.tt ≤ 2880)
def meetB (s o : StayD) : Bool := (o.ship == s.ship || o.berth == s.berth) && decide (max o.fr s.fr < min o.tt s.tt)
def fitAt (bs : List BerthD) (fl : List ShipD) (s : StayD) : Bool := match bs[s.berth.toNat]?, fl[s.ship.toNat]? with
  | some b, some x => fitB b x
  | _, _ => false
def stayB (bs : List BerthD) (fl : List ShipD) (s : StayD) : Bool := inB s.ship 0 ((fl.length : Int) - 1) && inB s.berth 0 ((bs.length : Int) - 1) && timeB s && fitAt bs fl s
def pStay (bs : List BerthD) (fl : List ShipD) (done : List StayD) (s : StayD) : Bool := stayB bs fl s && !done.any (meetB s)
def staysB (bs : List BerthD) (fl : List ShipD) (l : List StayD) : Bool := berthsB bs && fleetB fl && decide (l.length ≤ 12) && runB (pStay bs fl) [] l
theorem staysB_all {bs : List BerthD} {fl : List ShipD} {l : List StayD} (h : staysB bs fl l = true) : berthsB bs = true ∧ fleetB fl = true ∧ l.length ≤ 12 ∧ runB (pStay bs fl) [] l = true := by
  unfold staysB at h
  simp only [Bool.and_eq_true] at h
  exact ⟨h.1.1.1, h.1.1.2, of_decide_eq_true h.1.2, h.2⟩
theorem staysB_mk {bs : List BerthD} {fl : List ShipD} {l : List StayD} (h1 : berthsB bs = true) (h2 : fleetB fl = true) (h3 : l.length ≤ 12) (h4 : runB (pStay bs fl) [] l = true) : staysB bs fl l = true := by
  unfold staysB
  rw [h1, h2, decide_eq_true h3, h4]
  rfl
theorem staysB_part {bs : List BerthD} {fl : List ShipD} {l m : List StayD} (h : staysB bs fl (l ++ m) = true) : staysB bs fl l = true := by
  obtain ⟨h1, h2, h3, h4⟩ := staysB_all h
  rw [List.length_append] at h3
  exact staysB_mk h1 h2 (by omega) (runB_part _ _ h4)
theorem staysB_at {bs : List BerthD} {fl : List ShipD} {l : List StayD} (h : staysB bs fl l = true) {i : Nat} {s : StayD} (hx : l[i]? = some s) : stayB bs fl s = true ∧ (l.take i).any (meetB s) = false := by
  have := run_at (staysB_all h).2.2.2 hx
  unfold pStay at this
  rw [Bool.and_eq_true, Bool.not_eq_true'] at this
  exact this
theorem stayB_true {bs : List BerthD} {fl : List ShipD} {s : StayD} (h : stayB bs fl s = true) : (0 ≤ s.ship ∧ s.ship < fl.length) ∧ (0 ≤ s.berth ∧ s.berth < bs.length) ∧ (0 ≤ s.fr ∧ s.fr < s.tt ∧ s.tt ≤ 2880) ∧ fitAt bs fl s = true := by
  unfold stayB timeB at h
  simp only [Bool.and_eq_true] at h
  obtain ⟨⟨⟨h1, h2⟩, ⟨h3, h4⟩, h5⟩, h6⟩ := h
  have h1 := of_decide_eq_true h1
  have h2 := of_decide_eq_true h2
  have h3 := of_decide_eq_true h3
  have h4 := of_decide_eq_true h4
  have h5 := of_decide_eq_true h5
  exact ⟨⟨h1.1, by omega⟩, ⟨h2.1, by omega⟩, ⟨h3.1, h4, h5⟩, h6⟩
def atBerth (b : Int) (s : StayD) : Bool := (s.berth == b) && decide (s.fr < s.tt)
def winOf (s : StayD) : WindowD := ⟨s.fr, s.tt - 1⟩
def usedL (l : List StayD) (b : Int) : List WindowD := (l.filter (atBerth b)).map winOf
theorem usedL_next {l : List StayD} {b : Int} {k : Nat} {s : StayD} (h : l[k]? = some s) : usedL (l.take (k + 1)) b = usedL (l.take k) b ++ if atBerth b s = true then [winOf s] else [] := by
  unfold usedL
  rw [take_snoc' l k s h, List.filter_append, List.map_append]
  by_cases e : atBerth b s = true
  · rw [if_pos e]; simp [e]
  · rw [if_neg e]; simp [e]
theorem usedL_len (l : List StayD) (b : Int) : (usedL l b).length ≤ l.length := by
  unfold usedL
  rw [List.length_map]
  exact List.length_filter_le _ _
def findI (bs : List BerthD) (fl : List ShipD) (l : List StayD) (ship fr tt : Int) : Int := if staysB bs fl l = true then firstI (fun b => staysB bs fl (l ++ [⟨ship, b, fr, tt⟩])) ((List.range bs.length).map (fun b : Nat => (b : Int))) else -1
def allotR (bs : List BerthD) (fl : List ShipD) (asks : List StayD) : Nat → List StayD → Option (List StayD)
  | 0, done => if staysB bs fl done = true then some done else none
  | k + 1, done => match asks[done.length]? with
    | none => none
    | some a => (List.range bs.length).findSome? (fun b => if staysB bs fl (done ++ [⟨a.ship, (b : Int), a.fr, a.tt⟩]) = true then allotR bs fl asks k (done ++ [⟨a.ship, (b : Int), a.fr, a.tt⟩]) else none)
def allotO (bs : List BerthD) (fl : List ShipD) (asks : List StayD) : Option (List StayD) := if asks.length ≤ 6 then allotR bs fl asks asks.length [] else none
def loadI (l : List StayD) (b : Int) : Int := l.foldl (fun s x => if (x.berth == b && timeB x) = true then s + x.tt - x.fr else s) 0
theorem loadI_next {l : List StayD} {b : Int} {k : Nat} {s : StayD} (h : l[k]? = some s) : loadI (l.take (k + 1)) b = if (s.berth == b && timeB s) = true then loadI (l.take k) b + s.tt - s.fr else loadI (l.take k) b := by
  unfold loadI
  rw [take_snoc' l k s h, List.foldl_append]
  rfl
theorem loadI_le (l : List StayD) (b : Int) (k : Nat) : 0 ≤ loadI (l.take k) b ∧ loadI (l.take k) b ≤ 2880 * (k : Int) := by
  induction k with
  | zero => simp [loadI]
  | succ k ih =>
    cases hx : l[k]? with
    | none =>
      have : l.take (k + 1) = l.take k := by
        rw [List.getElem?_eq_none_iff] at hx
        rw [List.take_of_length_le hx, List.take_of_length_le (by omega)]
      rw [this]
      push_cast
      omega
    | some s =>
      rw [loadI_next hx]
      split
      · rename_i h
        rw [Bool.and_eq_true] at h
        have h2 := h.2
        unfold timeB at h2
        simp only [Bool.and_eq_true] at h2
        have h3 := of_decide_eq_true h2.1.1
        have h4 := of_decide_eq_true h2.1.2
        have h5 := of_decide_eq_true h2.2
        push_cast
        omega
      · push_cast
        omega
end Go.Proofs.Ytghjfcnboocmjaa
namespace Go.Proofs.Ytghjfcnboocmjaa
/-- Windows in time, one behind the other, at least a minute between two. -/
def WOk (l : List WindowD) : Prop := (∀ x ∈ l, 0 ≤ x.fr ∧ x.fr ≤ x.tt ∧ x.tt ≤ 2880) ∧ l.Pairwise (fun x y => x.tt + 1 < y.fr)
theorem WOk.nil : WOk [] := ⟨fun x hx => by simp at hx, List.Pairwise.nil⟩
theorem WOk.of {l : List WindowD} (h : winB l = true) : WOk l := by
  have F := winB_true h
  refine ⟨fun x hx => ?_, ?_⟩
  · obtain ⟨i, hi, e⟩ := List.getElem_of_mem hx
    exact F.time hi (by rw [List.getElem?_eq_getElem hi, e])
  · rw [List.pairwise_iff_getElem]
    intro i j hi hj hij
    induction j with
    | zero => omega
    | succ j ih =>
      have g := F.gap hj (List.getElem?_eq_getElem hj) (List.getElem?_eq_getElem (by omega : j < l.length))
      by_cases e : i = j
      · subst e; exact g
      · have := ih (by omega) (by omega)
        obtain ⟨_, t1, _⟩ := F.time (by omega : j < l.length) (List.getElem?_eq_getElem (by omega : j < l.length))
        omega
theorem WOk.to {l : List WindowD} (h : WOk l) : winB l = true := by
  apply winB_mk
  intro j hj
  have hm := h.1 l[j] (List.getElem_mem hj)
  cases j with
  | zero => exact wokB_zero rfl (List.getElem?_eq_getElem hj) hm
  | succ j =>
    rw [wokB_succ rfl (List.getElem?_eq_getElem hj) (List.getElem?_eq_getElem (by omega : j < l.length)) hm]
    exact decide_eq_true ((List.pairwise_iff_getElem.1 h.2) j (j + 1) (by omega) hj (by omega))
theorem WOk.tail {x : WindowD} {l : List WindowD} (h : WOk (x :: l)) : WOk l := ⟨fun y hy => h.1 y (List.mem_cons_of_mem _ hy), (List.pairwise_cons.1 h.2).2⟩
theorem WOk.head {x : WindowD} {l : List WindowD} (h : WOk (x :: l)) : 0 ≤ x.fr ∧ x.fr ≤ x.tt ∧ x.tt ≤ 2880 := h.1 x List.mem_cons_self
theorem WOk.behind {x y : WindowD} {l : List WindowD} (h : WOk (x :: l)) (hy : y ∈ l) : x.tt + 1 < y.fr := (List.pairwise_cons.1 h.2).1 y hy
/-- The minute lies in one of the windows. -/
def Has (l : List WindowD) (m : Int) : Prop := ∃ x ∈ l, x.fr ≤ m ∧ m ≤ x.tt
theorem has_iff (l : List WindowD) (m : Int) : hasB l m = true ↔ Has l m := by
  unfold hasB Has atB inB
  simp [List.any_eq_true]
theorem Has.nil (m : Int) : ¬ Has [] m := fun ⟨x, hx, _⟩ => by simp at hx
theorem has_cons (x : WindowD) (l : List WindowD) (m : Int) : Has (x :: l) m ↔ (x.fr ≤ m ∧ m ≤ x.tt) ∨ Has l m := by
  unfold Has; simp
theorem has_append (a b : List WindowD) (m : Int) : Has (a ++ b) m ↔ Has a m ∨ Has b m := by
  unfold Has; simp [or_and_right, exists_or]
theorem has_one (x : WindowD) (m : Int) : Has [x] m ↔ x.fr ≤ m ∧ m ≤ x.tt := by unfold Has; simp
theorem Has.time {l : List WindowD} {m : Int} (hl : WOk l) (h : Has l m) : 0 ≤ m ∧ m ≤ 2880 := by
  obtain ⟨x, hx, h1, h2⟩ := h
  obtain ⟨t0, t1, t2⟩ := hl.1 x hx
  omega
theorem Has.late {x : WindowD} {l : List WindowD} (h : WOk (x :: l)) {m : Int} (hm : Has l m) : x.tt + 1 < m := by
  obtain ⟨y, hy, h1, _⟩ := hm
  have := h.behind hy
  omega
/-- Valid lists with the same minutes are the same. -/
theorem WOk.ext {a b : List WindowD} (ha : WOk a) (hb : WOk b) (h : ∀ m, Has a m ↔ Has b m) : a = b := by
  induction a generalizing b with
  | nil =>
    cases b with
    | nil => rfl
    | cons y b =>
      have := hb.head
      exact absurd ((h y.fr).2 ((has_cons _ _ _).2 (.inl ⟨by omega, by omega⟩))) (Has.nil _)
  | cons x a ih =>
    have hx := ha.head
    cases b with
    | nil => exact absurd ((h x.fr).1 ((has_cons _ _ _).2 (.inl ⟨by omega, by omega⟩))) (Has.nil _)
    | cons y b =>
      have hy := hb.head
      have e1 : x.fr = y.fr := by
        have p := (has_cons _ _ _).1 ((h x.fr).1 ((has_cons _ _ _).2 (.inl ⟨by omega, by omega⟩)))
        have q := (has_cons _ _ _).1 ((h y.fr).2 ((has_cons _ _ _).2 (.inl ⟨by omega, by omega⟩)))
        have p' : y.fr ≤ x.fr := by
          rcases p with p | p
          · exact p.1
          · have := Has.late hb p; omega
        have q' : x.fr ≤ y.fr := by
          rcases q with q | q
          · exact q.1
          · have := Has.late ha q; omega
        omega
      have e2 : x.tt = y.tt := by
        rcases Int.lt_trichotomy x.tt y.tt with hlt | he | hlt
        · have q := (has_cons _ _ _).1 ((h (x.tt + 1)).2 ((has_cons _ _ _).2 (.inl ⟨by omega, by omega⟩)))
          rcases q with q | q
          · omega
          · have := Has.late ha q; omega
        · exact he
        · have q := (has_cons _ _ _).1 ((h (y.tt + 1)).1 ((has_cons _ _ _).2 (.inl ⟨by omega, by omega⟩)))
          rcases q with q | q
          · omega
          · have := Has.late hb q; omega
      have e : x = y := by cases x; cases y; simp_all
      subst e
      rw [ih ha.tail hb.tail fun m => ⟨fun hm => ?_, fun hm => ?_⟩]
      · have hl := Has.late ha hm
        rcases (has_cons _ _ _).1 ((h m).1 ((has_cons _ _ _).2 (.inr hm))) with p | p
        · omega
        · exact p
      · have hl := Has.late hb hm
        rcases (has_cons _ _ _).1 ((h m).2 ((has_cons _ _ _).2 (.inr hm))) with p | p
        · omega
        · exact p
/-- A window behind all others. -/
theorem WOk.snoc {l : List WindowD} {x : WindowD} (h : WOk l) (hx : 0 ≤ x.fr ∧ x.fr ≤ x.tt ∧ x.tt ≤ 2880) (hl : ∀ y ∈ l, y.tt + 1 < x.fr) : WOk (l ++ [x]) := by
  refine ⟨fun y hy => ?_, ?_⟩
  · rcases List.mem_append.1 hy with hy | hy
    · exact h.1 y hy
    · rw [List.mem_singleton.1 hy]; exact hx
  · rw [List.pairwise_append]
    refine ⟨h.2, List.pairwise_singleton _ _, fun a ha b hb => ?_⟩
    rw [List.mem_singleton.1 hb]; exact hl a ha
theorem WOk.init {l : List WindowD} {x : WindowD} (h : WOk (l ++ [x])) : WOk l := ⟨fun y hy => h.1 y (List.mem_append_left _ hy), (List.pairwise_append.1 h.2).1⟩
theorem WOk.last {l : List WindowD} {x : WindowD} (h : WOk (l ++ [x])) : 0 ≤ x.fr ∧ x.fr ≤ x.tt ∧ x.tt ≤ 2880 := h.1 x (by simp)
theorem WOk.ahead {l : List WindowD} {x y : WindowD} (h : WOk (l ++ [x])) (hy : y ∈ l) : y.tt + 1 < x.fr := (List.pairwise_append.1 h.2).2.2 y hy x (by simp)
theorem WOk.ends {l : List WindowD} {x y : WindowD} (h : WOk (l ++ [x])) (hy : y ∈ l ++ [x]) : y.tt ≤ x.tt := by
  rcases List.mem_append.1 hy with hy | hy
  · have := h.ahead hy; have := h.last; omega
  · rw [List.mem_singleton.1 hy]; omega
/-- The windows of marked minutes, as the model builds them: minute k comes to a list. -/
def markStep (acc : List WindowD) (k : Int) : List WindowD :=
  match acc.getLast? with
  | some y => if y.tt = k - 1 then acc.dropLast ++ [⟨y.fr, k⟩] else acc ++ [⟨k, k⟩]
  | none => [⟨k, k⟩]
def ofMarks (f : Nat → Bool) : Nat → List WindowD
  | 0 => []
  | k + 1 => if f k = true then markStep (ofMarks f k) k else ofMarks f k
theorem ofMarks_no {f : Nat → Bool} {k : Nat} (h : f k = false) : ofMarks f (k + 1) = ofMarks f k := by simp [ofMarks, h]
theorem ofMarks_yes {f : Nat → Bool} {k : Nat} (h : f k = true) : ofMarks f (k + 1) = markStep (ofMarks f k) k := by simp [ofMarks, h]
theorem markStep_nil (k : Int) : markStep [] k = [⟨k, k⟩] := rfl
theorem markStep_join {acc : List WindowD} {y : WindowD} {k : Int} (h : y.tt = k - 1) : markStep (acc ++ [y]) k = acc ++ [⟨y.fr, k⟩] := by simp [markStep, h]
theorem markStep_apart {acc : List WindowD} {y : WindowD} {k : Int} (h : y.tt ≠ k - 1) : markStep (acc ++ [y]) k = acc ++ [y] ++ [⟨k, k⟩] := by simp [markStep, h]
theorem snoc_or (l : List WindowD) : l = [] ∨ ∃ a x, l = a ++ [x] := by
  rcases List.eq_nil_or_concat l with h | ⟨a, x, h⟩
  · exact .inl h
  · exact .inr ⟨a, x, by simpa using h⟩
theorem ofMarks_len (f : Nat → Bool) : ∀ k, (ofMarks f k).length ≤ k := by
  intro k
  induction k with
  | zero => simp [ofMarks]
  | succ k ih =>
    cases hf : f k with
    | false => rw [ofMarks_no hf]; omega
    | true =>
      rw [ofMarks_yes hf]
      rcases snoc_or (ofMarks f k) with e | ⟨a, y, e⟩
      · rw [e, markStep_nil]; simp
      · rw [e] at ih ⊢
        by_cases hy : y.tt = k - 1
        · rw [markStep_join hy]; simp at ih ⊢; omega
        · rw [markStep_apart hy]; simp at ih ⊢; omega
theorem ofMarks_spec (f : Nat → Bool) : ∀ k, k ≤ 2881 → WOk (ofMarks f k) ∧ ∀ m : Int, Has (ofMarks f k) m ↔ ∃ j : Nat, m = j ∧ j < k ∧ f j = true := by
  intro k
  induction k with
  | zero => exact fun _ => ⟨WOk.nil, fun m => ⟨fun h => absurd h (Has.nil _), fun ⟨j, _, hj, _⟩ => by omega⟩⟩
  | succ k ih =>
    intro hk
    obtain ⟨hw, hm⟩ := ih (by omega)
    cases hf : f k with
    | false =>
      rw [ofMarks_no hf]
      refine ⟨hw, fun m => ⟨fun h => ?_, fun ⟨j, e, hj, hj2⟩ => ?_⟩⟩
      · obtain ⟨j, e, hj, hj2⟩ := (hm m).1 h
        exact ⟨j, e, by omega, hj2⟩
      · by_cases e2 : j = k
        · subst e2; rw [hf] at hj2; cases hj2
        · exact (hm m).2 ⟨j, e, by omega, hj2⟩
    | true =>
      rw [ofMarks_yes hf]
      have split : ∀ m : Int, (∃ j : Nat, m = j ∧ j < k + 1 ∧ f j = true) ↔ m = k ∨ Has (ofMarks f k) m := by
        intro m
        rw [hm m]
        constructor
        · rintro ⟨j, e, hj, hj2⟩
          by_cases e2 : j = k
          · left; omega
          · exact .inr ⟨j, e, by omega, hj2⟩
        · rintro (e | ⟨j, e, hj, hj2⟩)
          · exact ⟨k, e, by omega, hf⟩
          · exact ⟨j, e, by omega, hj2⟩
      rcases snoc_or (ofMarks f k) with e | ⟨a, y, e⟩
      · rw [e] at split hw ⊢
        rw [markStep_nil]
        refine ⟨WOk.snoc WOk.nil ⟨by simp, by simp, by simp; omega⟩ (by simp), fun m => ?_⟩
        rw [split m, has_one]
        constructor
        · rintro ⟨h1, h2⟩; simp at h1 h2; left; omega
        · rintro (h | h)
          · simp; omega
          · exact absurd h (Has.nil _)
      · have hyk : y.tt < k := by
          have hy : Has (ofMarks f k) y.tt := by rw [e, has_append, has_one]; rw [e] at hw; have := hw.last; exact .inr ⟨by omega, by omega⟩
          obtain ⟨j, e3, hj, _⟩ := (hm _).1 hy
          omega
        rw [e] at split hw ⊢
        have hl := hw.last
        by_cases hy : y.tt = k - 1
        · rw [markStep_join hy]
          refine ⟨hw.init.snoc ⟨hl.1, by simp; omega, by simp; omega⟩ (fun z hz => hw.ahead hz), fun m => ?_⟩
          rw [split m, has_append, has_append, has_one, has_one]
          simp only
          constructor
          · rintro (h | h)
            · exact .inr (.inl h)
            · by_cases e4 : m = k
              · exact .inl e4
              · exact .inr (.inr ⟨h.1, by omega⟩)
          · rintro (h | h | h)
            · exact .inr ⟨by omega, by omega⟩
            · exact .inl h
            · exact .inr ⟨h.1, by omega⟩
        · rw [markStep_apart hy]
          refine ⟨hw.snoc ⟨by simp, by simp, by simp; omega⟩ (fun z hz => by have := hw.ends hz; simp; omega), fun m => ?_⟩
          rw [split m, has_append (a ++ [y]), has_one]
          simp only
          constructor
          · rintro (h | h)
            · exact .inr h
            · left; omega
          · rintro (h | h)
            · right; omega
            · exact .inl h
/-- Parts in the order of their first minutes, merged one by one, as the program does. -/
def mergeStep (acc : List WindowD) (x : WindowD) : List WindowD :=
  match acc.getLast? with
  | some y => if x.fr ≤ IntKind.i64.wrap (y.tt + 1) then acc.dropLast ++ [⟨y.fr, max y.tt x.tt⟩] else acc ++ [x]
  | none => [x]
def mergeF (xs : List WindowD) : List WindowD := xs.foldl mergeStep []
theorem mergeF_snoc (pre : List WindowD) (x : WindowD) : mergeF (pre ++ [x]) = mergeStep (mergeF pre) x := by simp [mergeF]
theorem mergeStep_nil (x : WindowD) : mergeStep [] x = [x] := rfl
theorem mergeStep_join {acc : List WindowD} {x y : WindowD} (h : x.fr ≤ IntKind.i64.wrap (y.tt + 1)) : mergeStep (acc ++ [y]) x = acc ++ [⟨y.fr, max y.tt x.tt⟩] := by simp [mergeStep, h]
theorem mergeStep_apart {acc : List WindowD} {x y : WindowD} (h : ¬ x.fr ≤ IntKind.i64.wrap (y.tt + 1)) : mergeStep (acc ++ [y]) x = acc ++ [y] ++ [x] := by simp [mergeStep, h]
theorem mergeStep_len (acc : List WindowD) (x : WindowD) : (mergeStep acc x).length ≤ acc.length + 1 := by
  rcases snoc_or acc with e | ⟨a, y, e⟩
  · rw [e, mergeStep_nil]; simp
  · subst e
    by_cases h : x.fr ≤ IntKind.i64.wrap (y.tt + 1)
    · rw [mergeStep_join h]; simp
    · rw [mergeStep_apart h]; simp
theorem snoc_ind {P : List WindowD → Prop} (h0 : P []) (h1 : ∀ xs x, P xs → P (xs ++ [x])) (l : List WindowD) : P l := by
  generalize hn : l.length = n
  induction n generalizing l with
  | zero => rw [List.eq_nil_of_length_eq_zero hn]; exact h0
  | succ n ih =>
    rcases snoc_or l with e | ⟨a, x, e⟩
    · rw [e] at hn; simp at hn
    · subst e
      exact h1 a x (ih a (by simp at hn; omega))
theorem mergeF_len (xs : List WindowD) : (mergeF xs).length ≤ xs.length := by
  refine snoc_ind (P := fun xs => (mergeF xs).length ≤ xs.length) (by simp [mergeF]) (fun xs x ih => ?_) xs
  rw [mergeF_snoc]
  have := mergeStep_len (mergeF xs) x
  simp; omega
theorem wrap_small {n : Int} (h0 : 0 ≤ n) (h1 : n ≤ 100000) : IntKind.i64.wrap n = n := by
  simp [IntKind.wrap, IntKind.bits, IntKind.signed]; omega
theorem mergeF_spec (xs : List WindowD) : xs.Pairwise (fun x y => x.fr ≤ y.fr) → (∀ x ∈ xs, 0 ≤ x.fr ∧ x.fr ≤ x.tt ∧ x.tt ≤ 2880) →
    WOk (mergeF xs) ∧ (∀ m, Has (mergeF xs) m ↔ Has xs m) ∧ ∀ z ∈ mergeF xs, ∃ y ∈ xs, z.fr = y.fr := by
  refine snoc_ind (P := fun xs => xs.Pairwise (fun x y => x.fr ≤ y.fr) → (∀ x ∈ xs, 0 ≤ x.fr ∧ x.fr ≤ x.tt ∧ x.tt ≤ 2880) → WOk (mergeF xs) ∧ (∀ m, Has (mergeF xs) m ↔ Has xs m) ∧ ∀ z ∈ mergeF xs, ∃ y ∈ xs, z.fr = y.fr) ?_ ?_ xs
  · intro _ _
    exact ⟨WOk.nil, fun m => Iff.rfl, fun z hz => by simp [mergeF] at hz⟩
  · intro xs x ih hs ht
    obtain ⟨hw, hm, hf⟩ := ih (List.pairwise_append.1 hs).1 (fun z hz => ht z (List.mem_append_left _ hz))
    have hx := ht x (by simp)
    have hlow : ∀ z ∈ xs, z.fr ≤ x.fr := fun z hz => (List.pairwise_append.1 hs).2.2 z hz x (by simp)
    rw [mergeF_snoc]
    rcases snoc_or (mergeF xs) with e | ⟨a, y, e⟩
    · rw [e, mergeStep_nil]
      rw [e] at hm
      refine ⟨WOk.snoc WOk.nil hx (by simp), fun m => ?_, fun z hz => ⟨x, by simp, by rw [List.mem_singleton.1 hz]⟩⟩
      rw [has_append, ← hm m]
      constructor
      · exact fun h => .inr h
      · rintro (h | h)
        · exact absurd h (Has.nil _)
        · exact h
    · rw [e] at hw hm hf ⊢
      have hl := hw.last
      obtain ⟨y', hy', ey⟩ := hf y (by simp)
      have hyx : y.fr ≤ x.fr := by rw [ey]; exact hlow y' hy'
      have ew := wrap_small (n := y.tt + 1) (by omega) (by omega)
      by_cases h : x.fr ≤ IntKind.i64.wrap (y.tt + 1)
      · rw [mergeStep_join h]
        rw [ew] at h
        refine ⟨hw.init.snoc ⟨hl.1, by simp only; omega, by simp only; omega⟩ (fun z hz => hw.ahead hz), fun m => ?_, fun z hz => ?_⟩
        · rw [has_append, has_append xs, ← hm m, has_append, has_one, has_one, has_one]
          simp only
          constructor
          · rintro (h1 | ⟨h1, h2⟩)
            · exact .inl (.inl h1)
            · by_cases h3 : m ≤ y.tt
              · exact .inl (.inr ⟨h1, h3⟩)
              · exact .inr ⟨by omega, by omega⟩
          · rintro ((h1 | ⟨h1, h2⟩) | ⟨h1, h2⟩)
            · exact .inl h1
            · exact .inr ⟨h1, by omega⟩
            · exact .inr ⟨by omega, by omega⟩
        · rcases List.mem_append.1 hz with hz | hz
          · obtain ⟨q, hq, eq⟩ := hf z (List.mem_append_left _ hz)
            exact ⟨q, List.mem_append_left _ hq, eq⟩
          · rw [List.mem_singleton.1 hz]
            exact ⟨y', List.mem_append_left _ hy', ey⟩
      · rw [mergeStep_apart h]
        rw [ew] at h
        refine ⟨hw.snoc hx (fun z hz => by have := hw.ends hz; omega), fun m => ?_, fun z hz => ?_⟩
        · rw [has_append (a ++ [y]), has_append xs, hm m]
        · rcases List.mem_append.1 hz with hz | hz
          · obtain ⟨q, hq, eq⟩ := hf z hz
            exact ⟨q, List.mem_append_left _ hq, eq⟩
          · rw [List.mem_singleton.1 hz]
            exact ⟨x, by simp, rfl⟩
/-- What the program merges is what the model marks. -/
theorem merge_eq_marks {xs : List WindowD} {f : Nat → Bool} (hs : xs.Pairwise (fun x y => x.fr ≤ y.fr)) (ht : ∀ x ∈ xs, 0 ≤ x.fr ∧ x.fr ≤ x.tt ∧ x.tt ≤ 2880)
    (hf : ∀ j : Nat, j < 2881 → (f j = true ↔ Has xs j)) : mergeF xs = ofMarks f 2881 := by
  obtain ⟨h1, h2, _⟩ := mergeF_spec xs hs ht
  obtain ⟨h3, h4⟩ := ofMarks_spec f 2881 (by omega)
  refine WOk.ext h1 h3 fun m => ?_
  rw [h2, h4]
  constructor
  · intro h
    obtain ⟨x, hx, hx1, hx2⟩ := h
    have := ht x hx
    refine ⟨m.toNat, by omega, by omega, (hf _ (by omega)).2 ⟨x, hx, by omega, by omega⟩⟩
  · rintro ⟨j, e, hj, hj2⟩
    rw [e]
    exact (hf j hj).1 hj2
end Go.Proofs.Ytghjfcnboocmjaa
namespace Go.Proofs.Ytghjfcnboocmjaa
open Go.RowKit Go.Shelf
set_option maxRecDepth 100000
attribute [local go_sem] Oper.semAt_some
/-- The iterator value 'func g over lb' hands xs over, one by one, to every loop whose rounds keep Kp. -/
def SeqW (g : Nat) (lb : Array Value) (Kp : World → World → Prop) (N : Nat) (xs : List WindowD) (w : World) : Prop :=
  ∀ n, 1 ≤ n → SeqStopsK Fence.wide n Try.prog g lb (fun x : WindowD => #[.agg #[.int .i64 x.fr, .int .i64 x.tt]]) Kp (fun ys => ys = xs) (fun _ => True) N w
theorem SeqW.later {g : Nat} {lb : Array Value} {Kp : World → World → Prop} {N : Nat} {xs : List WindowD} {w w' : World} (h : SeqW g lb Kp N xs w) (hb : Below w.heap.size w w') : SeqW g lb Kp N xs w' :=
  fun n hn l J Jx W hW hJ hJx hY h0 => h n hn l J Jx W (hb.trans (hW.mono hb.size)) hJ hJx hY h0
theorem blk_own {β : Type} (B : Nat) (t : TypeId) (cs : β → Array Value) : Own (fun s W => Blk W B (cs s) t) := fun s X Y row hs hg hrow =>
  Blk.grown hs hg (fun e' => by obtain ⟨o, ho, hc⟩ := hrow B e'.symm; rw [show X.heap[B]? = _ from hs] at ho; cases ho; cases hc)
set_option maxHeartbeats 4000000 in
theorem appendSeq_any (g : Nat) (lb : Array Value) (n₀ N : Nat) (xs : List WindowD) (w : World) (hseq : SeqW g lb (Kp2 86 n₀) N xs w) (hn₀ : n₀ ≤ w.heap.size) (eg : ∀ args w, (callFunc g args).run Try.prog w = .ok (.enter g args) w) (hlen : N ≤ 4000000000) :
    Calls Try.prog 105 #[.slice none 0 0, .func (.func g) #[] lb] w (NewWindow xs w) := by
  refine (callsIn_wide (n := 9)).1 ?_
  obtain ⟨i0, hi, hz0, hz1, hz2⟩ := info_parts info_window
  refine callsIn_of_wp_marks Try.func105 rfl trivial ?_ rfl
  simp only [Try.ntmps105, List.size_toArray, List.length_cons, List.length_nil, Nat.reduceAdd, Nat.reduceSub, Array.replicate_succ, Array.replicate_zero, List.push_toArray, List.append_toArray, List.nil_append, List.cons_append]
  gi_wp2
  have bO := Boxed.new w 35 (.slice none 0 0)
  have hB0 : Below w.heap.size w (w.alloc (.cells #[.slice none 0 0] 35)) := (Below.refl _ w).alloc (Nat.le_refl _) _
  refine wpIn_rangeFunc_ownH rfl (by omega) (gf := g) (lb := lb) rfl trivial eg
    (hseq.later hB0 8 (by omega)) Kp2.t (Kp2.b (by simp; omega)) (Below.refl _ _) (fun _ => rfl)
    (fun (pre : List WindowD) W => (∃ v, Boxed W w.heap.size 35 v ∧ W.ownsRow w.heap.size 86 2 v pre.length (pre.flatMap WindowD.cells) ∧ (pre.length = 0 → v = .slice none 0 0)) ∧ Below w.heap.size w W)
    (fun _ _ _ => False)
    (OwnFrom.and (Own.from (holdsRow_own w.heap.size w.heap.size 35 86 2 (fun pre : List WindowD => pre.length) (fun pre : List WindowD => pre.flatMap WindowD.cells) (fun pre v => pre.length = 0 → v = .slice none 0 0)) _) (ownFrom_below (Nat.le_refl _) (by simp)))
    (fun _ _ _ _ _ hs _ _ => hs)
    ⟨⟨_, bO, World.ownsRow_nil _ _ _ _, fun _ => rfl⟩, hB0⟩
    (fun x a' W => ∃ Bx, Blk W Bx #[.int .i64 x.fr, .int .i64 x.tt] 86 ∧ a' = { tmps := #[.slice none 0 0, .func (.func g) #[] lb, .pointer (some ⟨w.heap.size, 0, none⟩), undef, .slice none 0 0, .pointer (some ⟨Bx, 0, none⟩), .func (.func g) #[] lb, .agg #[.int .i64 x.fr, .int .i64 x.tt], undef, undef, undef, undef, undef], defers := [] })
    (fun x a' _ X Y row hs hg hr => by obtain ⟨Bx, h2, h3⟩ := hs; exact ⟨Bx, blk_own Bx 86 (fun (_ : Unit) => #[Value.int .i64 x.fr, .int .i64 x.tt]) () X Y row h2 hg (fun r e => (hr r e).2), h3⟩)
    ?assign ?body ?done ?stop
  case assign =>
    rintro l pre x W K ⟨⟨v, bv, hrow, hnil⟩, hB1⟩ hK
    gi_wp2
    exact hK _ _ ((KeepsOthers.alloc _ _).from _) (Kp2.alloc (Nat.le_trans hn₀ hB1.size) _) ⟨⟨v, bv.alloc _, hrow.alloc _, hnil⟩, hB1.alloc hB1.size _⟩ ⟨W.heap.size, Blk.new W _ _, rfl⟩
  case body =>
    rintro l pre x a' W hl ⟨r, hr⟩ ⟨⟨v, hv, hrow, hnil⟩, hB⟩ ⟨Bx, bX, rfl⟩ hlt
    have HNL := Lib.hid hnil
    clear hnil
    have hc := hv.cell
    have c0 : W.cell? ⟨Bx, 0, none⟩ = some (.int .i64 x.fr) := bX.cell 0
    have c1 : W.cell? ⟨Bx, 1, none⟩ = some (.int .i64 x.tt) := bX.cell 1
    gi_wp2_with (gi_at_builtin; refine wpListIn_append_full _ rfl _ _ 35 rfl w.heap.size 86 i0 _ 2 16 Try.underlying35 hi hz0 hz1 hz2 rfl (by decide) _ _ _ rfl (hrow.alloc _) ⟨W.heap.size, 0, none⟩ 1 1 (WindowD.cells x) rfl rfl (World.news_of_block (heap_alloc_new _ _)) (window_one _) (by unfold maxLen; omega) (by omega) (by have := hB.size; simp; omega) ?_; intro v' w1 hown' hgrow hfull; obtain ⟨g', cap', rfl⟩ := ownsRow_succ hown'; obtain ⟨hv1, hv2, hr2, hk2, hb2⟩ := hv.appended (by decide) hrow hB.size (Nat.le_refl _) hown' hgrow; have hc1 := hv1.cell; have hf1 := hv1.frozen; have HKP := Lib.hid (Kp2.appended (hb2.mono hn₀) hv (by decide) hrow HNL.out hgrow hfull); clear hfull)
    exact ⟨hk2.from _, HKP.out, ⟨_, hv2, by simpa using hr2, by simp⟩, hB.trans hb2⟩
  case done =>
    rintro D ys W hD rfl ⟨⟨v, hv, hrow, _⟩, hB⟩ hK
    have hc := hv.cell
    gi_wp2
    refine ⟨by simp, .inl ⟨_, _, rfl, run_takeDeferred hK, ?_⟩⟩
    exact ⟨_, results_tmp rfl _ _ _, v, rfl, ownsRow_putObj hrow _ hK rfl, hB.trans (belowK_b (w := w) (Nat.le_refl _) W D _ _ (by simp at hD; omega) hK rfl rfl)⟩
  case stop =>
    rintro D c pre W _ _ h _
    exact h.elim
set_option maxHeartbeats 2000000 in
theorem collect_any (g : Nat) (lb : Array Value) (n₀ N : Nat) (xs : List WindowD) (w : World) (hseq : SeqW g lb (Kp2 86 n₀) N xs w) (hn₀ : n₀ ≤ w.heap.size) (eg : ∀ args w, (callFunc g args).run Try.prog w = .ok (.enter g args) w) (hlen : N ≤ 4000000000) :
    Calls Try.prog 88 #[.func (.func g) #[] lb] w (NewWindow xs w) := by
  have HA := Lib.hid (appendSeq_any g lb n₀ N xs w hseq hn₀ eg hlen)
  clear hseq eg
  go_enter Try.func88, Try.ntmps88
  go_wp2_with fail
  refine HA.out.mono ?_
  intro e w1 hnew
  obtain ⟨v, rfl, h1, h2⟩ := hnew
  have H1 := Lib.hid h1
  have H2 := Lib.hid h2
  obtain ⟨A, c, rfl⟩ := own_form h1
  clear h1 h2
  go_wp2
  go_ret
  exact ⟨_, rfl, H1.out, H2.out⟩
end Go.Proofs.Ytghjfcnboocmjaa
