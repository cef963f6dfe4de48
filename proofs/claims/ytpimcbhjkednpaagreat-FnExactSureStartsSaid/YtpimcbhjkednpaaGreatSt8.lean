
/- What ExactSureStarts and ExactOpenStarts and ExactIsSure and ExactIsOpenStart and ExactDraughtFor rests on, part 8: contracts and mathematics. -/
import Derived.Test.YtpimcbhjkednpaaGreatSt7
import Derived.Deep.AppendLies
import Derived.RangeFuncNested
import Derived.RangeFuncBound
import Derived.RangeFuncCalls
import Derived.RangeFuncLeaves
import Derived.Shelf.Abstract
import Derived.Shelf.RegionOpen
import Derived.WalkKit
import Derived.OwnWalkIn
import Derived.TacticsInMore
import Derived.LoopNIn
import Derived.LoopIn
import Derived.Maps.AppendAt
import Derived.Laws.AppendOwn
import Derived.Test.YtpimcbhjkednpaaGreatSt1
import Derived.StillTailTactics
import Derived.OrdersIn
namespace Go.Proofs.YtpimcbhjkednpaaGreat
/-- Windows in time, one behind the other, at least a minute between two. -/
def WOk (l : List WindowD) : Prop := (∀ x ∈ l, 0 ≤ x.fr ∧ x.fr ≤ x.tt ∧ x.tt ≤ 2880) ∧ l.Pairwise (fun x y => x.tt + 1 < y.fr)
theorem WOk.nil : WOk [] := ⟨fun x hx => by simp at hx, List.Pairwise.nil⟩
theorem WOk.to {l : List WindowD} (h : WOk l) : winB l = true := by
  apply winB_mk
  intro j hj
  have hm := h.1 l[j] (List.getElem_mem hj)
  cases j with
  | zero => exact wokB_zero rfl (List.getElem?_eq_getElem hj) hm
  | succ j =>
    rw [wokB_succ rfl (List.getElem?_eq_getElem hj) (List.getElem?_eq_getElem (by omega : j < l.length)) hm]
    exact decide_eq_true ((List.pairwise_iff_getElem.1 h.2) j (j + 1) (by omega) hj (by omega))
theorem WOk.tail {x : WindowD} {l : List WindowD} (h : WOk (x :: l)) : WOk l := ⟨fun y hy => h.1 y (List.mem_cons_of_mem _ hy), (List.pairwise_cons.1 h.2).2⟩
theorem WOk.head {x : WindowD} {l : List WindowD} (h : WOk (x :: l)) : 0 ≤ x.fr ∧ x.fr ≤ x.tt ∧ x.tt ≤ 2880 := h.1 x List.mem_cons_self
theorem WOk.behind {x y : WindowD} {l : List WindowD} (h : WOk (x :: l)) (hy : y ∈ l) : x.tt + 1 < y.fr := (List.pairwise_cons.1 h.2).1 y hy
/-- The minute lies in one of the windows. -/
def Has (l : List WindowD) (m : Int) : Prop := ∃ x ∈ l, x.fr ≤ m ∧ m ≤ x.tt
theorem has_iff (l : List WindowD) (m : Int) : hasB l m = true ↔ Has l m := by
  unfold hasB Has atB inB
  simp [List.any_eq_true]
theorem Has.nil (m : Int) : ¬ Has [] m := fun ⟨x, hx, _⟩ => by simp at hx
theorem has_cons (x : WindowD) (l : List WindowD) (m : Int) : Has (x :: l) m ↔ (x.fr ≤ m ∧ m ≤ x.tt) ∨ Has l m := by
  unfold Has; simp
theorem has_append (a b : List WindowD) (m : Int) : Has (a ++ b) m ↔ Has a m ∨ Has b m := by
  unfold Has; simp [or_and_right, exists_or]
theorem has_one (x : WindowD) (m : Int) : Has [x] m ↔ x.fr ≤ m ∧ m ≤ x.tt := by unfold Has; simp
theorem Has.time {l : List WindowD} {m : Int} (hl : WOk l) (h : Has l m) : 0 ≤ m ∧ m ≤ 2880 := by
  obtain ⟨x, hx, h1, h2⟩ := h
  obtain ⟨t0, t1, t2⟩ := hl.1 x hx
  omega
theorem Has.late {x : WindowD} {l : List WindowD} (h : WOk (x :: l)) {m : Int} (hm : Has l m) : x.tt + 1 < m := by
  obtain ⟨y, hy, h1, _⟩ := hm
  have := h.behind hy
  omega
/-- Valid lists with the same minutes are the same. -/
theorem WOk.ext {a b : List WindowD} (ha : WOk a) (hb : WOk b) (h : ∀ m, Has a m ↔ Has b m) : a = b := by
  induction a generalizing b with
  | nil =>
    cases b with
    | nil => rfl
    | cons y b =>
      have := hb.head
      exact absurd ((h y.fr).2 ((has_cons _ _ _).2 (.inl ⟨by omega, by omega⟩))) (Has.nil _)
  | cons x a ih =>
    have hx := ha.head
    cases b with
    | nil => exact absurd ((h x.fr).1 ((has_cons _ _ _).2 (.inl ⟨by omega, by omega⟩))) (Has.nil _)
    | cons y b =>
      have hy := hb.head
      have e1 : x.fr = y.fr := by
        have p := (has_cons _ _ _).1 ((h x.fr).1 ((has_cons _ _ _).2 (.inl ⟨by omega, by omega⟩)))
        have q := (has_cons _ _ _).1 ((h y.fr).2 ((has_cons _ _ _).2 (.inl ⟨by omega, by omega⟩)))
        have p' : y.fr ≤ x.fr := by
          rcases p with p | p
          · exact p.1
          · have := Has.late hb p; omega
        have q' : x.fr ≤ y.fr := by
          rcases q with q | q
          · exact q.1
          · have := Has.late ha q; omega
        omega
      have e2 : x.tt = y.tt := by
        rcases Int.lt_trichotomy x.tt y.tt with hlt | he | hlt
        · have q := (has_cons _ _ _).1 ((h (x.tt + 1)).2 ((has_cons _ _ _).2 (.inl ⟨by omega, by omega⟩)))
          rcases q with q | q
          · omega
          · have := Has.late ha q; omega
        · exact he
        · have q := (has_cons _ _ _).1 ((h (y.tt + 1)).1 ((has_cons _ _ _).2 (.inl ⟨by omega, by omega⟩)))
          rcases q with q | q
          · omega
          · have := Has.late hb q; omega
      have e : x = y := by cases x; cases y; simp_all
      subst e
      rw [ih ha.tail hb.tail fun m => ⟨fun hm => ?_, fun hm => ?_⟩]
      · have hl := Has.late ha hm
        rcases (has_cons _ _ _).1 ((h m).1 ((has_cons _ _ _).2 (.inr hm))) with p | p
        · omega
        · exact p
      · have hl := Has.late hb hm
        rcases (has_cons _ _ _).1 ((h m).2 ((has_cons _ _ _).2 (.inr hm))) with p | p
        · omega
        · exact p
/-- A window behind all others. -/
theorem WOk.snoc {l : List WindowD} {x : WindowD} (h : WOk l) (hx : 0 ≤ x.fr ∧ x.fr ≤ x.tt ∧ x.tt ≤ 2880) (hl : ∀ y ∈ l, y.tt + 1 < x.fr) : WOk (l ++ [x]) := by
  refine ⟨fun y hy => ?_, ?_⟩
  · rcases List.mem_append.1 hy with hy | hy
    · exact h.1 y hy
    · rw [List.mem_singleton.1 hy]; exact hx
  · rw [List.pairwise_append]
    refine ⟨h.2, List.pairwise_singleton _ _, fun a ha b hb => ?_⟩
    rw [List.mem_singleton.1 hb]; exact hl a ha
theorem WOk.init {l : List WindowD} {x : WindowD} (h : WOk (l ++ [x])) : WOk l := ⟨fun y hy => h.1 y (List.mem_append_left _ hy), (List.pairwise_append.1 h.2).1⟩
theorem WOk.last {l : List WindowD} {x : WindowD} (h : WOk (l ++ [x])) : 0 ≤ x.fr ∧ x.fr ≤ x.tt ∧ x.tt ≤ 2880 := h.1 x (by simp)
theorem WOk.ahead {l : List WindowD} {x y : WindowD} (h : WOk (l ++ [x])) (hy : y ∈ l) : y.tt + 1 < x.fr := (List.pairwise_append.1 h.2).2.2 y hy x (by simp)
theorem WOk.ends {l : List WindowD} {x y : WindowD} (h : WOk (l ++ [x])) (hy : y ∈ l ++ [x]) : y.tt ≤ x.tt := by
  rcases List.mem_append.1 hy with hy | hy
  · have := h.ahead hy; have := h.last; omega
  · rw [List.mem_singleton.1 hy]; omega
/-- The windows of marked minutes, as the model builds them: minute k comes to a list. -/
def markStep (acc : List WindowD) (k : Int) : List WindowD :=
  match acc.getLast? with
  | some y => if y.tt = k - 1 then acc.dropLast ++ [⟨y.fr, k⟩] else acc ++ [⟨k, k⟩]
  | none => [⟨k, k⟩]
def ofMarks (f : Nat → Bool) : Nat → List WindowD
  | 0 => []
  | k + 1 => if f k = true then markStep (ofMarks f k) k else ofMarks f k
theorem ofMarks_no {f : Nat → Bool} {k : Nat} (h : f k = false) : ofMarks f (k + 1) = ofMarks f k := by simp [ofMarks, h]
theorem ofMarks_yes {f : Nat → Bool} {k : Nat} (h : f k = true) : ofMarks f (k + 1) = markStep (ofMarks f k) k := by simp [ofMarks, h]
theorem markStep_nil (k : Int) : markStep [] k = [⟨k, k⟩] := rfl
theorem markStep_join {acc : List WindowD} {y : WindowD} {k : Int} (h : y.tt = k - 1) : markStep (acc ++ [y]) k = acc ++ [⟨y.fr, k⟩] := by simp [markStep, h]
theorem markStep_apart {acc : List WindowD} {y : WindowD} {k : Int} (h : y.tt ≠ k - 1) : markStep (acc ++ [y]) k = acc ++ [y] ++ [⟨k, k⟩] := by simp [markStep, h]
theorem snoc_or (l : List WindowD) : l = [] ∨ ∃ a x, l = a ++ [x] := by
  rcases List.eq_nil_or_concat l with h | ⟨a, x, h⟩
  · exact .inl h
  · exact .inr ⟨a, x, by simpa using h⟩
theorem ofMarks_len (f : Nat → Bool) : ∀ k, (ofMarks f k).length ≤ k := by
  intro k
  induction k with
  | zero => simp [ofMarks]
  | succ k ih =>
    cases hf : f k with
    | false => rw [ofMarks_no hf]; omega
    | true =>
      rw [ofMarks_yes hf]
      rcases snoc_or (ofMarks f k) with e | ⟨a, y, e⟩
      · rw [e, markStep_nil]; simp
      · rw [e] at ih ⊢
        by_cases hy : y.tt = k - 1
        · rw [markStep_join hy]; simp at ih ⊢; omega
        · rw [markStep_apart hy]; simp at ih ⊢; omega
theorem ofMarks_spec (f : Nat → Bool) : ∀ k, k ≤ 2881 → WOk (ofMarks f k) ∧ ∀ m : Int, Has (ofMarks f k) m ↔ ∃ j : Nat, m = j ∧ j < k ∧ f j = true := by
  intro k
  induction k with
  | zero => exact fun _ => ⟨WOk.nil, fun m => ⟨fun h => absurd h (Has.nil _), fun ⟨j, _, hj, _⟩ => by omega⟩⟩
  | succ k ih =>
    intro hk
    obtain ⟨hw, hm⟩ := ih (by omega)
    cases hf : f k with
    | false =>
      rw [ofMarks_no hf]
      refine ⟨hw, fun m => ⟨fun h => ?_, fun ⟨j, e, hj, hj2⟩ => ?_⟩⟩
      · obtain ⟨j, e, hj, hj2⟩ := (hm m).1 h
        exact ⟨j, e, by omega, hj2⟩
      · by_cases e2 : j = k
        · subst e2; rw [hf] at hj2; cases hj2
        · exact (hm m).2 ⟨j, e, by omega, hj2⟩
    | true =>
      rw [ofMarks_yes hf]
      have split : ∀ m : Int, (∃ j : Nat, m = j ∧ j < k + 1 ∧ f j = true) ↔ m = k ∨ Has (ofMarks f k) m := by
        intro m
        rw [hm m]
        constructor
        · rintro ⟨j, e, hj, hj2⟩
          by_cases e2 : j = k
          · left; omega
          · exact .inr ⟨j, e, by omega, hj2⟩
        · rintro (e | ⟨j, e, hj, hj2⟩)
          · exact ⟨k, e, by omega, hf⟩
          · exact ⟨j, e, by omega, hj2⟩
      rcases snoc_or (ofMarks f k) with e | ⟨a, y, e⟩
      · rw [e] at split hw ⊢
        rw [markStep_nil]
        refine ⟨WOk.snoc WOk.nil ⟨by simp, by simp, by simp; omega⟩ (by simp), fun m => ?_⟩
        rw [split m, has_one]
        constructor
        · rintro ⟨h1, h2⟩; simp at h1 h2; left; omega
        · rintro (h | h)
          · simp; omega
          · exact absurd h (Has.nil _)
      · have hyk : y.tt < k := by
          have hy : Has (ofMarks f k) y.tt := by rw [e, has_append, has_one]; rw [e] at hw; have := hw.last; exact .inr ⟨by omega, by omega⟩
          obtain ⟨j, e3, hj, _⟩ := (hm _).1 hy
          omega
        rw [e] at split hw ⊢
        have hl := hw.last
        by_cases hy : y.tt = k - 1
        · rw [markStep_join hy]
          refine ⟨hw.init.snoc ⟨hl.1, by simp; omega, by simp; omega⟩ (fun z hz => hw.ahead hz), fun m => ?_⟩
          rw [split m, has_append, has_append, has_one, has_one]
          simp only
          constructor
          · rintro (h | h)
            · exact .inr (.inl h)
            · by_cases e4 : m = k
              · exact .inl e4
              · exact .inr (.inr ⟨h.1, by omega⟩)
          · rintro (h | h | h)
            · exact .inr ⟨by omega, by omega⟩
            · exact .inl h
            · exact .inr ⟨h.1, by omega⟩
        · rw [markStep_apart hy]
          refine ⟨hw.snoc ⟨by simp, by simp, by simp; omega⟩ (fun z hz => by have := hw.ends hz; simp; omega), fun m => ?_⟩
          rw [split m, has_append (a ++ [y]), has_one]
          simp only
          constructor
          · rintro (h | h)
            · exact .inr h
            · left; omega
          · rintro (h | h)
            · right; omega
            · exact .inl h
/-- Parts in the order of their first minutes, merged one by one, as the program does. -/
def mergeStep (acc : List WindowD) (x : WindowD) : List WindowD :=
  match acc.getLast? with
  | some y => if x.fr ≤ IntKind.i64.wrap (y.tt + 1) then acc.dropLast ++ [⟨y.fr, max y.tt x.tt⟩] else acc ++ [x]
  | none => [x]
def mergeF (xs : List WindowD) : List WindowD := xs.foldl mergeStep []
theorem mergeF_snoc (pre : List WindowD) (x : WindowD) : mergeF (pre ++ [x]) = mergeStep (mergeF pre) x := by simp [mergeF]
theorem mergeStep_nil (x : WindowD) : mergeStep [] x = [x] := rfl
theorem mergeStep_join {acc : List WindowD} {x y : WindowD} (h : x.fr ≤ IntKind.i64.wrap (y.tt + 1)) : mergeStep (acc ++ [y]) x = acc ++ [⟨y.fr, max y.tt x.tt⟩] := by simp [mergeStep, h]
theorem mergeStep_apart {acc : List WindowD} {x y : WindowD} (h : ¬ x.fr ≤ IntKind.i64.wrap (y.tt + 1)) : mergeStep (acc ++ [y]) x = acc ++ [y] ++ [x] := by simp [mergeStep, h]
theorem mergeStep_len (acc : List WindowD) (x : WindowD) : (mergeStep acc x).length ≤ acc.length + 1 := by
  rcases snoc_or acc with e | ⟨a, y, e⟩
  · rw [e, mergeStep_nil]; simp
  · subst e
    by_cases h : x.fr ≤ IntKind.i64.wrap (y.tt + 1)
    · rw [mergeStep_join h]; simp
    · rw [mergeStep_apart h]; simp
theorem snoc_ind {P : List WindowD → Prop} (h0 : P []) (h1 : ∀ xs x, P xs → P (xs ++ [x])) (l : List WindowD) : P l := by
  generalize hn : l.length = n
  induction n generalizing l with
  | zero => rw [List.eq_nil_of_length_eq_zero hn]; exact h0
  | succ n ih =>
    rcases snoc_or l with e | ⟨a, x, e⟩
    · rw [e] at hn; simp at hn
    · subst e
      exact h1 a x (ih a (by simp at hn; omega))
theorem mergeF_len (xs : List WindowD) : (mergeF xs).length ≤ xs.length := by
  refine snoc_ind (P := fun xs => (mergeF xs).length ≤ xs.length) (by simp [mergeF]) (fun xs x ih => ?_) xs
  rw [mergeF_snoc]
  have := mergeStep_len (mergeF xs) x
  simp; omega
theorem wrap_small {n : Int} (h0 : 0 ≤ n) (h1 : n ≤ 100000) : IntKind.i64.wrap n = n := by
  simp [IntKind.wrap, IntKind.bits, IntKind.signed]; omega
theorem mergeF_spec (xs : List WindowD) : xs.Pairwise (fun x y => x.fr ≤ y.fr) → (∀ x ∈ xs, 0 ≤ x.fr ∧ x.fr ≤ x.tt ∧ x.tt ≤ 2880) →
    WOk (mergeF xs) ∧ (∀ m, Has (mergeF xs) m ↔ Has xs m) ∧ ∀ z ∈ mergeF xs, ∃ y ∈ xs, z.fr = y.fr := by
  refine snoc_ind (P := fun xs => xs.Pairwise (fun x y => x.fr ≤ y.fr) → (∀ x ∈ xs, 0 ≤ x.fr ∧ x.fr ≤ x.tt ∧ x.tt ≤ 2880) → WOk (mergeF xs) ∧ (∀ m, Has (mergeF xs) m ↔ Has xs m) ∧ ∀ z ∈ mergeF xs, ∃ y ∈ xs, z.fr = y.fr) ?_ ?_ xs
  · intro _ _
    exact ⟨WOk.nil, fun m => Iff.rfl, fun z hz => by simp [mergeF] at hz⟩
  · intro xs x ih hs ht
    obtain ⟨hw, hm, hf⟩ := ih (List.pairwise_append.1 hs).1 (fun z hz => ht z (List.mem_append_left _ hz))
    have hx := ht x (by simp)
    have hlow : ∀ z ∈ xs, z.fr ≤ x.fr := fun z hz => (List.pairwise_append.1 hs).2.2 z hz x (by simp)
    rw [mergeF_snoc]
    rcases snoc_or (mergeF xs) with e | ⟨a, y, e⟩
    · rw [e, mergeStep_nil]
      rw [e] at hm
      refine ⟨WOk.snoc WOk.nil hx (by simp), fun m => ?_, fun z hz => ⟨x, by simp, by rw [List.mem_singleton.1 hz]⟩⟩
      rw [has_append, ← hm m]
      constructor
      · exact fun h => .inr h
      · rintro (h | h)
        · exact absurd h (Has.nil _)
        · exact h
    · rw [e] at hw hm hf ⊢
      have hl := hw.last
      obtain ⟨y', hy', ey⟩ := hf y (by simp)
      have hyx : y.fr ≤ x.fr := by rw [ey]; exact hlow y' hy'
      have ew := wrap_small (n := y.tt + 1) (by omega) (by omega)
      by_cases h : x.fr ≤ IntKind.i64.wrap (y.tt + 1)
      · rw [mergeStep_join h]
        rw [ew] at h
        refine ⟨hw.init.snoc ⟨hl.1, by simp only; omega, by simp only; omega⟩ (fun z hz => hw.ahead hz), fun m => ?_, fun z hz => ?_⟩
        · rw [has_append, has_append xs, ← hm m, has_append, has_one, has_one, has_one]
          simp only
          constructor
          · rintro (h1 | ⟨h1, h2⟩)
            · exact .inl (.inl h1)
            · by_cases h3 : m ≤ y.tt
              · exact .inl (.inr ⟨h1, h3⟩)
              · exact .inr ⟨by omega, by omega⟩
          · rintro ((h1 | ⟨h1, h2⟩) | ⟨h1, h2⟩)
            · exact .inl h1
            · exact .inr ⟨h1, by omega⟩
            · exact .inr ⟨by omega, by omega⟩
        · rcases List.mem_append.1 hz with hz | hz
          · obtain ⟨q, hq, eq⟩ := hf z (List.mem_append_left _ hz)
            exact ⟨q, List.mem_append_left _ hq, eq⟩
          · rw [List.mem_singleton.1 hz]
            exact ⟨y', List.mem_append_left _ hy', ey⟩
      · rw [mergeStep_apart h]
        rw [ew] at h
        refine ⟨hw.snoc hx (fun z hz => by have := hw.ends hz; omega), fun m => ?_, fun z hz => ?_⟩
        · rw [has_append (a ++ [y]), has_append xs, hm m]
        · rcases List.mem_append.1 hz with hz | hz
          · obtain ⟨q, hq, eq⟩ := hf z hz
            exact ⟨q, List.mem_append_left _ hq, eq⟩
          · rw [List.mem_singleton.1 hz]
            exact ⟨x, by simp, rfl⟩
/-- What the program merges is what the model marks. -/
theorem merge_eq_marks {xs : List WindowD} {f : Nat → Bool} (hs : xs.Pairwise (fun x y => x.fr ≤ y.fr)) (ht : ∀ x ∈ xs, 0 ≤ x.fr ∧ x.fr ≤ x.tt ∧ x.tt ≤ 2880)
    (hf : ∀ j : Nat, j < 2881 → (f j = true ↔ Has xs j)) : mergeF xs = ofMarks f 2881 := by
  obtain ⟨h1, h2, _⟩ := mergeF_spec xs hs ht
  obtain ⟨h3, h4⟩ := ofMarks_spec f 2881 (by omega)
  refine WOk.ext h1 h3 fun m => ?_
  rw [h2, h4]
  constructor
  · intro h
    obtain ⟨x, hx, hx1, hx2⟩ := h
    have := ht x hx
    refine ⟨m.toNat, by omega, by omega, (hf _ (by omega)).2 ⟨x, hx, by omega, by omega⟩⟩
  · rintro ⟨j, e, hj, hj2⟩
    rw [e]
    exact (hf j hj).1 hj2
/-- What two windows have in common. -/
def meet (x y : WindowD) : List WindowD := if max x.fr y.fr ≤ min x.tt y.tt then [⟨max x.fr y.fr, min x.tt y.tt⟩] else []
end Go.Proofs.YtpimcbhjkednpaaGreat
namespace Go.Proofs.YtpimcbhjkednpaaGreat
open Go.RowKit
set_option maxRecDepth 100000
theorem window_one (x : WindowD) : ∀ v ∈ x.cells, v.oneCell' = true := fun v hv => by simp at hv; rcases hv with rfl | rfl <;> rfl
/-- The value v is a list of windows over memory that is new since w; what w held is as it was. -/
def GathW (w : World) (v : Value) (acc : List WindowD) (wr : World) : Prop := OwnWindow wr w.heap.size v acc ∧ Below w.heap.size w wr
theorem GathW.size {w wr : World} {v : Value} {acc : List WindowD} (h : GathW w v acc wr) : w.heap.size ≤ wr.heap.size := h.2.size
theorem GathW.empty {w wr : World} (hb : Below w.heap.size w wr) : GathW w (.slice none 0 0) [] wr := ⟨⟨by simp, .inl ⟨rfl, rfl⟩⟩, hb⟩
/-- An empty list over a new block of no cells. -/
theorem GathW.made {w wr : World} (hb : Below w.heap.size w wr) : GathW w (.slice (some ⟨wr.heap.size, 0, none⟩) 0 0) [] (wr.alloc (.cells #[] 77)) :=
  ⟨⟨by simp, .inr ⟨wr.heap.size, 0, #[], rfl, hb.size, heap_alloc_new wr _, Nat.le_refl _, by omega, by simp, by simp⟩⟩, hb.alloc hb.size _⟩
theorem GathW.below {w wr W : World} {v : Value} {acc : List WindowD} (h : GathW w v acc wr) (hb : Below wr.heap.size wr W) : GathW w v acc W :=
  ⟨own_below h.1 hb, h.2.trans (hb.mono h.size)⟩
theorem GathW.next {w W w4 : World} {v : Value} {acc : List WindowD} {x : WindowD} {g4 cap4 : Nat} (h : GathW w v acc W)
    (hown : w4.ownsRow w.heap.size 77 2 (.slice (some ⟨g4, 0, none⟩) (acc.length + 1) cap4) (acc.length + 1) (acc.flatMap WindowD.cells ++ x.cells)) (hgr : W.grownBy w4 v.ownBlock) :
    GathW w (.slice (some ⟨g4, 0, none⟩) (acc.length + 1) cap4) (acc ++ [x]) w4 := by
  refine ⟨?_, h.2.grown hgr h.size (fun k hk => (World.ownsRow.lt h.1 k hk).1)⟩
  simpa [OwnWindow, OwnOf] using hown
theorem GathW.new {w wr : World} {v : Value} {acc R : List WindowD} (h : GathW w v acc wr) (e : R = acc) : NewWindow R w (.returned v) wr := by
  subst e
  exact ⟨v, rfl, h.1, h.2⟩
theorem GathW.form {w wr : World} {v : Value} {acc : List WindowD} (h : GathW w v acc wr) : ∃ A c, v = .slice A acc.length c := own_form h.1
theorem NewWindow.empty {w w' : World} {R : List WindowD} (hb : Below w.heap.size w w') (e : R = []) : NewWindow R w (.returned (.slice none 0 0)) w' := (GathW.empty hb).new e
end Go.Proofs.YtpimcbhjkednpaaGreat
namespace Go.Proofs.YtpimcbhjkednpaaGreat
open Go.RowKit
set_option maxRecDepth 100000
def longB (n : Int) (x : WindowD) : Bool := decide (n ≤ x.tt - x.fr)
def cutW (n : Int) (x : WindowD) : WindowD := ⟨x.fr, x.tt - n⟩
def shrW (n : Int) (l : List WindowD) : List WindowD := (l.filter (longB n)).map (cutW n)
def shrinkL (l : List WindowD) (n : Int) : List WindowD := if winB l = true ∧ inB n 0 2880 = true then shrW n l else []
theorem shrW_yes {n : Int} {l : List WindowD} {k : Nat} {x : WindowD} (h : l[k]? = some x) (hp : n ≤ x.tt - x.fr) : shrW n (l.take (k + 1)) = shrW n (l.take k) ++ [⟨x.fr, x.tt - n⟩] := by
  unfold shrW
  rw [take_snoc' l k x h, List.filter_append, List.map_append]
  simp [longB, hp, cutW]
theorem shrW_no {n : Int} {l : List WindowD} {k : Nat} {x : WindowD} (h : l[k]? = some x) (hp : ¬ n ≤ x.tt - x.fr) : shrW n (l.take (k + 1)) = shrW n (l.take k) := by
  unfold shrW
  rw [take_snoc' l k x h, List.filter_append, List.map_append]
  simp [longB, hp]
theorem shrW_len (n : Int) (l : List WindowD) : (shrW n l).length ≤ l.length := by
  unfold shrW; rw [List.length_map]; exact List.length_filter_le _ _
theorem shrinkL_bad {l : List WindowD} {n : Int} (h : winB l = false) : shrinkL l n = [] := by unfold shrinkL; rw [h]; simp
theorem shrinkL_off {l : List WindowD} {n : Int} (h : inB n 0 2880 = false) : shrinkL l n = [] := by unfold shrinkL; rw [h]; simp
theorem shrinkL_ok {l : List WindowD} {n : Int} (h : winB l = true) (hn : inB n 0 2880 = true) : shrinkL l n = shrW n (l.take l.length) := by unfold shrinkL; rw [h, hn, List.take_length]; simp
set_option maxHeartbeats 8000000 in
theorem implShrinkWindows (v : Value) (l : List WindowD) (n : Int) (w : World) (h : SlWindow w v l) :
    Calls Tryz.prog 72 #[v, .int .i64 n] w (NewWindow (shrinkL l n) w) := by
  have H := Lib.hid h
  cases hok : winB l with
  | false =>
    have E := Lib.hid (shrinkL_bad (n := n) hok)
    have HOK := Lib.hid hok
    obtain ⟨A, c, rfl⟩ := h.at
    clear hok h
    go_enter Tryz.func72, Tryz.ntmps72
    go_wp2_with fail
    refine (implWindowsOk _ l _ H.out).mono ?_
    rw [HOK.out]
    rintro e w1 ⟨rfl, hb1⟩
    have B1 := Lib.hid hb1
    clear hb1
    go_wp2
    go_ret
    exact NewWindow.empty B1.out E.out
  | true =>
    cases hm : inB n 0 2880 with
    | false =>
      have E := Lib.hid (shrinkL_off (l := l) hm)
      have HOK := Lib.hid hok
      have HM := Lib.hid hm
      obtain ⟨A, c, rfl⟩ := h.at
      clear hok h hm
      go_enter Tryz.func72, Tryz.ntmps72
      go_wp2_with fail
      refine (implWindowsOk _ l _ H.out).mono ?_
      rw [HOK.out]
      rintro e w1 ⟨rfl, hb1⟩
      have B1 := Lib.hid hb1
      have hz1 := hb1.size
      clear hb1
      go_wp2_with fail
      refine (isMinute_any _ _).mono ?_
      rw [HM.out]
      rintro e w2 ⟨rfl, rfl⟩
      go_wp2
      go_ret
      exact NewWindow.empty B1.out E.out
    | true =>
      have HF := Lib.hid (winB_true hok)
      have HOK := Lib.hid hok
      have HM := Lib.hid hm
      have hn : 0 ≤ n ∧ n ≤ 2880 := of_decide_eq_true hm
      obtain ⟨hn0, hn1⟩ := hn
      have E := Lib.hid (shrinkL_ok hok hm)
      clear hok hm
      obtain ⟨i0, hin, hz0, hzs, hz2⟩ := info_parts info_window
      have HI := Lib.hid hin
      clear hin
      obtain ⟨hl, h⟩ := h
      rcases h with ⟨rfl, A, c, rfl⟩ | ⟨g, o, c, rfl, hp, hcap, hc⟩
      · go_enter Tryz.func72, Tryz.ntmps72
        go_wp2_with fail
        refine (implWindowsOk _ [] _ H.out).mono ?_
        rw [HOK.out]
        rintro e w1 ⟨rfl, hb1⟩
        have B1 := Lib.hid hb1
        have hz1 := hb1.size
        clear hb1
        go_wp2_with fail
        refine (isMinute_any _ _).mono ?_
        rw [HM.out]
        rintro e w2 ⟨rfl, rfl⟩
        go_wp2
        have G0 := Lib.hid (GathW.empty B1.out)
        refine wp_loop_rounds 1 ?_
        rw [rounds_succ]
        go_wp2
        go_ret
        exact G0.out.new E.out
      · have HC := Lib.hid hc
        clear hc
        go_enter Tryz.func72, Tryz.ntmps72
        go_wp2_with fail
        refine (implWindowsOk _ l _ H.out).mono ?_
        rw [HOK.out]
        rintro e w1 ⟨rfl, hb1⟩
        have B1 := Lib.hid hb1
        have hz1 := hb1.size
        clear hb1
        go_wp2_with fail
        refine (isMinute_any _ _).mono ?_
        rw [HM.out]
        rintro e w2 ⟨rfl, rfl⟩
        go_wp2
        have G0 := Lib.hid (GathW.empty B1.out)
        go_loopw [5, 18] (fun s i wr => ∃ k : Nat, k ≤ l.length ∧ i = .int .i64 k ∧ Hid (GathW w s (shrW n (l.take k)) wr)) (fun _ i _ => l.length - (intOf i).toNat)
        case atStart => exact ⟨0, Nat.zero_le _, rfl, by simpa [shrW] using G0⟩
        case round =>
          obtain ⟨k, hk, rfl, hG⟩ := hrel
          by_cases hlt : k < l.length
          rotate_left
          · obtain rfl : k = l.length := by omega
            go_wp2
            go_ret
            exact hG.out.new E.out
          · obtain ⟨x, hx⟩ : ∃ x, l[k]? = some x := ⟨_, List.getElem?_eq_getElem hlt⟩
            obtain ⟨p0, p1⟩ := SlWindow.cells HC.out k x hx
            have hg : g < w.heap.size := World.block_lt_of_cell? w ⟨g, o + k * 2, none⟩ p0
            have a0 := (hG.out.2.cell (p := ⟨g, o + k * 2, none⟩) hg).trans p0
            have a1 := (hG.out.2.cell (p := ⟨g, o + k * 2 + 1, none⟩) hg).trans p1
            have HX := Lib.hid hx
            obtain ⟨t0, t1, t2⟩ := HF.out.time hlt hx
            have hsz := hG.out.size
            have hgr : g < wr.heap.size := by omega
            clear p0 p1 hx
            have hW1 := Lib.hid (Joins.below_alloc1 wr (.cells #[.int .i64 x.fr, .int .i64 x.tt] 77))
            by_cases hlong : n ≤ x.tt - x.fr
            · have EF := Lib.hid (shrW_yes HX.out hlong)
              have hal := shrW_len n (l.take k)
              rw [List.length_take] at hal
              obtain ⟨acc, hacc⟩ : ∃ acc, shrW n (l.take k) = acc := ⟨_, rfl⟩
              rw [hacc] at hG hal
              have HA := Lib.hid hacc
              clear hacc
              have hW := Lib.hid (Joins.below_alloc2 wr (.cells #[.int .i64 x.fr, .int .i64 x.tt] 77) (.cells #[.int .i64 x.fr, .int .i64 (x.tt - n)] 77))
              have GW := Lib.hid (hG.out.below hW.out)
              have HN := Lib.hid (World.news_of_block (heap_alloc_new (wr.alloc (.cells #[.int .i64 x.fr, .int .i64 x.tt] 77)) (.cells #[.int .i64 x.fr, .int .i64 (x.tt - n)] 77)))
              go_wp2_with (at_builtin; refine wpList_append_lies _ rfl _ _ _ rfl w.heap.size 77 i0 _ 2 16 Tryz.underlying37 HI.out hz0 (by assumption) hz2 rfl (by omega) u5 acc.length (acc.flatMap WindowD.cells) rfl GW.out.1 ⟨wr.heap.size + 1, 0, none⟩ 1 1 (WindowD.cells ⟨x.fr, x.tt - n⟩) (by first | rfl | simp) rfl (by simpa using HN.out) (window_one _) (by omega) (by unfold maxLen; omega) (by omega) (by simp; omega) _ rfl ?_; intro g4 cap4 w4 hown4 hgrow4 hor4 hlt4; have GX := Lib.hid (GW.out.next hown4 hgrow4); clear hown4 hgrow4 hor4 hlt4)
              go_roundw
              case rel =>
                refine ⟨k + 1, by omega, by go_num, Lib.hid ?_⟩
                rw [EF.out, HA.out]
                exact GX.out
              case measure => simp [intOf]; omega
            · have EF := Lib.hid (shrW_no HX.out hlong)
              go_wp2
              go_roundw
              case rel =>
                refine ⟨k + 1, by omega, by go_num, Lib.hid ?_⟩
                rw [EF.out]
                exact hG.out.below hW1.out
              case measure => simp [intOf]; omega
set_option maxHeartbeats 8000000 in
theorem specShrinkWindows (v : Value) (l : List WindowD) (n : Int) (w : World) (h : SlWindow w v l) :
    Calls Tryz.prog 65 #[v, .int .i64 n] w (NewWindow (shrinkL l n) w) := by
  have H := Lib.hid h
  cases hok : winB l with
  | false =>
    have E := Lib.hid (shrinkL_bad (n := n) hok)
    have HOK := Lib.hid hok
    obtain ⟨A, c, rfl⟩ := h.at
    clear hok h
    go_enter Tryz.func65, Tryz.ntmps65
    go_wp2_with fail
    refine (specWindowsOk _ l _ H.out).mono ?_
    rw [HOK.out]
    rintro e w1 ⟨rfl, hb1⟩
    have B1 := Lib.hid hb1
    clear hb1
    go_wp2
    go_ret
    exact NewWindow.empty B1.out E.out
  | true =>
    cases hm : inB n 0 2880 with
    | false =>
      have E := Lib.hid (shrinkL_off (l := l) hm)
      have HOK := Lib.hid hok
      have HM := Lib.hid hm
      obtain ⟨A, c, rfl⟩ := h.at
      clear hok h hm
      go_enter Tryz.func65, Tryz.ntmps65
      go_wp2_with fail
      refine (specWindowsOk _ l _ H.out).mono ?_
      rw [HOK.out]
      rintro e w1 ⟨rfl, hb1⟩
      have B1 := Lib.hid hb1
      have hz1 := hb1.size
      clear hb1
      go_wp2_with fail
      refine (l01In_any _ _ _ _).mono ?_
      rw [HM.out]
      rintro e w2 ⟨rfl, rfl⟩
      go_wp2
      go_ret
      exact NewWindow.empty B1.out E.out
    | true =>
      have HF := Lib.hid (winB_true hok)
      have HOK := Lib.hid hok
      have HM := Lib.hid hm
      have hn : 0 ≤ n ∧ n ≤ 2880 := of_decide_eq_true hm
      obtain ⟨hn0, hn1⟩ := hn
      have E := Lib.hid (shrinkL_ok hok hm)
      clear hok hm
      obtain ⟨i0, hin, hz0, hzs, hz2⟩ := info_parts info_window
      have HI := Lib.hid hin
      clear hin
      obtain ⟨hl, h⟩ := h
      rcases h with ⟨rfl, A, c, rfl⟩ | ⟨g, o, c, rfl, hp, hcap, hc⟩
      · go_enter Tryz.func65, Tryz.ntmps65
        go_wp2_with fail
        refine (specWindowsOk _ [] _ H.out).mono ?_
        rw [HOK.out]
        rintro e w1 ⟨rfl, hb1⟩
        have B1 := Lib.hid hb1
        have hz1 := hb1.size
        clear hb1
        go_wp2_with fail
        refine (l01In_any _ _ _ _).mono ?_
        rw [HM.out]
        rintro e w2 ⟨rfl, rfl⟩
        go_wp2
        have G0 := Lib.hid (GathW.made B1.out)
        refine wp_loop_rounds 1 ?_
        rw [rounds_succ]
        go_wp2
        go_ret
        exact G0.out.new E.out
      · have HC := Lib.hid hc
        clear hc
        go_enter Tryz.func65, Tryz.ntmps65
        go_wp2_with fail
        refine (specWindowsOk _ l _ H.out).mono ?_
        rw [HOK.out]
        rintro e w1 ⟨rfl, hb1⟩
        have B1 := Lib.hid hb1
        have hz1 := hb1.size
        clear hb1
        go_wp2_with fail
        refine (l01In_any _ _ _ _).mono ?_
        rw [HM.out]
        rintro e w2 ⟨rfl, rfl⟩
        go_wp2
        have G0 := Lib.hid (GathW.made B1.out)
        go_loopw [5, 19] (fun s i wr => ∃ k : Nat, k ≤ l.length ∧ i = .int .i64 k ∧ Hid (GathW w s (shrW n (l.take k)) wr)) (fun _ i _ => l.length - (intOf i).toNat)
        case atStart => exact ⟨0, Nat.zero_le _, rfl, by simpa [shrW] using G0⟩
        case round =>
          obtain ⟨k, hk, rfl, hG⟩ := hrel
          by_cases hlt : k < l.length
          rotate_left
          · obtain rfl : k = l.length := by omega
            go_wp2
            go_ret
            exact hG.out.new E.out
          · obtain ⟨x, hx⟩ : ∃ x, l[k]? = some x := ⟨_, List.getElem?_eq_getElem hlt⟩
            obtain ⟨p0, p1⟩ := SlWindow.cells HC.out k x hx
            have hg : g < w.heap.size := World.block_lt_of_cell? w ⟨g, o + k * 2, none⟩ p0
            have a0 := (hG.out.2.cell (p := ⟨g, o + k * 2, none⟩) hg).trans p0
            have a1 := (hG.out.2.cell (p := ⟨g, o + k * 2 + 1, none⟩) hg).trans p1
            have HX := Lib.hid hx
            obtain ⟨t0, t1, t2⟩ := HF.out.time hlt hx
            have hsz := hG.out.size
            have hgr : g < wr.heap.size := by omega
            clear p0 p1 hx
            have hW1 := Lib.hid (Joins.below_alloc1 wr (.cells #[.int .i64 x.fr, .int .i64 x.tt] 77))
            by_cases hlong : n ≤ x.tt - x.fr
            · have EF := Lib.hid (shrW_yes HX.out hlong)
              have hal := shrW_len n (l.take k)
              rw [List.length_take] at hal
              obtain ⟨acc, hacc⟩ : ∃ acc, shrW n (l.take k) = acc := ⟨_, rfl⟩
              rw [hacc] at hG hal
              have HA := Lib.hid hacc
              clear hacc
              have hW := Lib.hid (Joins.below_alloc2 wr (.cells #[.int .i64 x.fr, .int .i64 x.tt] 77) (.cells #[.int .i64 x.fr, .int .i64 (x.tt - n)] 77))
              have GW := Lib.hid (hG.out.below hW.out)
              have HN := Lib.hid (World.news_of_block (heap_alloc_new (wr.alloc (.cells #[.int .i64 x.fr, .int .i64 x.tt] 77)) (.cells #[.int .i64 x.fr, .int .i64 (x.tt - n)] 77)))
              go_wp2_with (at_builtin; refine wpList_append_lies _ rfl _ _ _ rfl w.heap.size 77 i0 _ 2 16 Tryz.underlying37 HI.out hz0 (by assumption) hz2 rfl (by omega) u5 acc.length (acc.flatMap WindowD.cells) rfl GW.out.1 ⟨wr.heap.size + 1, 0, none⟩ 1 1 (WindowD.cells ⟨x.fr, x.tt - n⟩) (by first | rfl | simp) rfl (by simpa using HN.out) (window_one _) (by omega) (by unfold maxLen; omega) (by omega) (by simp; omega) _ rfl ?_; intro g4 cap4 w4 hown4 hgrow4 hor4 hlt4; have GX := Lib.hid (GW.out.next hown4 hgrow4); clear hown4 hgrow4 hor4 hlt4)
              go_roundw
              case rel =>
                refine ⟨k + 1, by omega, by go_num, Lib.hid ?_⟩
                rw [EF.out, HA.out]
                exact GX.out
              case measure => simp [intOf]; omega
            · have EF := Lib.hid (shrW_no HX.out hlong)
              go_wp2
              go_roundw
              case rel =>
                refine ⟨k + 1, by omega, by go_num, Lib.hid ?_⟩
                rw [EF.out]
                exact hG.out.below hW1.out
              case measure => simp [intOf]; omega
end Go.Proofs.YtpimcbhjkednpaaGreat
namespace Go.Proofs.YtpimcbhjkednpaaGreat
/-- Two windows of a valid list are the same or lie apart. -/
theorem WOk.cmp {l : List WindowD} (h : WOk l) {x y : WindowD} (hx : x ∈ l) (hy : y ∈ l) : x = y ∨ x.tt + 1 < y.fr ∨ y.tt + 1 < x.fr := by
  obtain ⟨i, hi, rfl⟩ := List.getElem_of_mem hx
  obtain ⟨j, hj, rfl⟩ := List.getElem_of_mem hy
  have hp := List.pairwise_iff_getElem.1 h.2
  rcases Nat.lt_trichotomy i j with e | e | e
  · exact .inr (.inl (hp i j hi hj e))
  · subst e; exact .inl rfl
  · exact .inr (.inr (hp j i hj hi e))
theorem mem_shr {n : Int} {l : List WindowD} {z : WindowD} : z ∈ shrW n l ↔ ∃ x ∈ l, n ≤ x.tt - x.fr ∧ z = ⟨x.fr, x.tt - n⟩ := by
  unfold shrW longB cutW
  rw [List.mem_map]
  constructor
  · rintro ⟨x, hx, rfl⟩
    rw [List.mem_filter] at hx
    exact ⟨x, hx.1, of_decide_eq_true hx.2, rfl⟩
  · rintro ⟨x, hx, h, rfl⟩
    exact ⟨x, List.mem_filter.2 ⟨hx, decide_eq_true h⟩, rfl⟩
end Go.Proofs.YtpimcbhjkednpaaGreat
namespace Go.Proofs.YtpimcbhjkednpaaGreat
open Go.RowKit Go.Shelf
set_option maxRecDepth 100000
attribute [local go_sem] Oper.semAt_some
/-- The iterator value 'func g over lb' hands xs over, one by one, to every loop whose rounds keep Kp. -/
def SeqW (g : Nat) (lb : Array Value) (Kp : World → World → Prop) (N : Nat) (xs : List WindowD) (w : World) : Prop :=
  ∀ n, 1 ≤ n → SeqStopsK Fence.wide n Tryz.prog g lb (fun x : WindowD => #[.agg #[.int .i64 x.fr, .int .i64 x.tt]]) Kp (fun ys => ys = xs) (fun _ => True) N w
theorem SeqW.later {g : Nat} {lb : Array Value} {Kp : World → World → Prop} {N : Nat} {xs : List WindowD} {w w' : World} (h : SeqW g lb Kp N xs w) (hb : Below w.heap.size w w') : SeqW g lb Kp N xs w' :=
  fun n hn l J Jx W hW hJ hJx hY h0 => h n hn l J Jx W (hb.trans (hW.mono hb.size)) hJ hJx hY h0
theorem blk_own {β : Type} (B : Nat) (t : TypeId) (cs : β → Array Value) : Own (fun s W => Blk W B (cs s) t) := fun s X Y row hs hg hrow =>
  Blk.grown hs hg (fun e' => by obtain ⟨o, ho, hc⟩ := hrow B e'.symm; rw [show X.heap[B]? = _ from hs] at ho; cases ho; cases hc)
end Go.Proofs.YtpimcbhjkednpaaGreat
namespace Go.Proofs.YtpimcbhjkednpaaGreat
open Go.RowKit
/-- A proposition that nobody looks into. -/
structure Shut (p : Prop) : Prop where
  out : p
section
variable {P : Program} {ops : Array Oper} {md : Region.Mode} {w : World} {F : Fence} {n : Nat}
/-- The fence lets every function in, at every depth. -/
structure Lets (F : Fence) (n : Nat) (P : Program) : Prop where
  fn : ∀ f, F.fn f
  room : F.depth.isSome = true → 1 ≤ n
  calls : ∀ {f : FuncId} {args : Array Value} {w : World} {R : Ending → World → Prop}, Calls P f args w R → CallsIn F (n - 1) P f args w R
theorem lets_wide (n : Nat) (P : Program) : Lets Fence.wide n P := ⟨fun _ => trivial, fun h => (by cases h), fun h => callsIn_wide.2 h⟩
theorem lets_round (l n : Nat) (P : Program) : Lets (Fence.wide.inRound l) n P := ⟨fun _ => trivial, fun h => (by cases h), fun h => CallsIn.inRound l (callsIn_wide.2 h)⟩
def noDefer (ops : Array Oper) : Bool := ops.toList.all fun o => match o.op with | .defer _ => false | _ => true
theorem noDefer_at (h : noDefer ops = true) {i : Nat} {o : Oper} (ho : ops[i]? = some o) : ∀ c, o.op ≠ .defer c := by
  intro c e
  unfold noDefer at h
  rw [List.all_eq_true] at h
  have := h o (by rw [← Array.getElem?_toList] at ho; exact List.mem_of_getElem? ho)
  rw [e] at this
  cases this
theorem opIn_of_still (L : Lets F n P) {i : Nat} {a : Act} {K : Act → Prop} {K' : Act → World → Prop} {Q' : Exit → Act → World → Prop} (hd : noDefer ops = true) (h : ∀ a, K a → K' a w) (hh : stOp P ops w i K a) : wpOpIn F n P ops Q' i K' a w := by
  unfold stOp at hh
  unfold wpOpIn
  split
  · rename_i ho; simp only [ho] at hh; exact h _ hh
  · rename_i o ho
    simp only [ho] at hh
    split
    · rename_i hw
      simp only [hw, if_true] at hh
      unfold Oper.still at hh
      unfold Oper.wpIn
      refine ⟨fun f _ => L.fn f, ?_⟩
      rw [Oper.semAt_eq _ _ _ (noDefer_at hd ho)]
      generalize (execOp a.eval o).run P w = r at *
      cases r with
      | ok x w' =>
        cases x <;> simp only [Oper.stillUpon] at hh <;> simp only [Oper.uponIn]
        case enter f args =>
          obtain ⟨rfl, v, hc, hn⟩ := hh
          exact ⟨L.room, L.calls (hc.mono fun e w'' ⟨he, hw⟩ => by subst he; subst hw; exact h _ hn)⟩
        all_goals (obtain ⟨rfl, h2⟩ := hh; exact h _ h2)
      | halt x w' => simp only [Oper.stillUpon] at hh
    · rename_i hw; simp only [hw] at hh; exact ⟨fun f _ => L.fn f, h _ hh⟩
theorem anyIn_of_still (L : Lets F n P) (hd : noDefer ops = true) {Q : Act → Prop} {Q' : Exit → Act → World → Prop} (hQ : ∀ a, Q a → Q' .normal a w) : ∀ (fuel : Nat) (listed : Array Bool) (a : Act),
    wpAnyS P md ops w Q fuel listed a → wpAnyIn F n P md ops Q' fuel listed a w
  | 0, _, _, h => ⟨h.1, hQ _ h.2⟩
  | fuel + 1, _, _, h => ⟨fun h0 => hQ _ (h.1 h0), fun i hi => opIn_of_still L hd (fun a' => anyIn_of_still L hd hQ fuel _ a') (h.2 i hi)⟩
theorem wpIn_region_still (L : Lets F n P) {id : Nat} {Q : Exit → Act → World → Prop} {a : Act} {l : List Oper} (hm : P.follows .mixedOrders = true) (hB : Region.lexB .any l.toArray = true) (hd : noDefer l.toArray = true)
    (h : Shut (wpStill P l.toArray w.drew (fun a' => Q .normal a' w.drew) l a)) : (Code.region id l.toArray true).wpIn F n P Q a w := by
  simp only [Region.lexB, Bool.and_eq_true] at hB
  refine wpIn_region_any hm (anyIn_of_still L hd (Q := fun a' => Q .normal a' w.drew) (fun _ h => h) _ _ _ ?_)
  have := wpAnyS_lex (md := .any) hB.1 l 0 (Array.replicate l.toArray.size false) a (by simp) (by simpa using hB.2) h.out
  simpa using this
theorem anyIn_of_seq {Q' : Exit → Act → World → Prop} : ∀ (l : List Oper) (k : Nat) (listed : Array Bool) (a : Act) (w : World), (∀ j, l[j]? = ops[k + j]?) →
    Region.seqB md ops l.length k listed = true → wpListIn F n P ops Q' l a w → wpAnyIn F n P md ops Q' l.length listed a w
  | [], _, _, _, _, _, hB, h => ⟨by simpa [Region.seqB] using hB, h⟩
  | o :: l, k, listed, a, w, hl, hB, h => by
    have h0 : ops[k]? = some o := by simpa using (hl 0).symm
    simp only [List.length_cons, Region.seqB, Bool.and_eq_true, decide_eq_true_eq] at hB
    refine ⟨fun h1 => (by rw [hB.1] at h1; cases h1), fun i hi => ?_⟩
    rw [hB.1] at hi
    have hik : i = k := by simpa using hi
    subst hik
    have hw : wpOpIn F n P ops Q' i (wpListIn F n P ops Q' l) a w := by unfold wpOpIn; simp only [h0]; exact h
    exact wpOpIn_mono (fun a' w' h' => anyIn_of_seq l (i + 1) _ a' w' (fun j => by have := hl (j + 1); simpa [Nat.add_assoc, Nat.add_comm 1 j] using this) hB.2 h') hw
theorem anyIn_of_head (L : Lets F n P) (hd : noDefer ops = true) {k g : Nat} {R : Array Bool → Act → Prop} {Q' : Exit → Act → World → Prop} (hL : ∀ listed a, R listed a → wpAnyIn F n P md ops Q' g listed a w) :
    ∀ (f : Nat) (listed : Array Bool) (a : Act), wpAnyL P md ops w k R f listed a → wpAnyIn F n P md ops Q' (f + g) listed a w
  | 0, listed, a, h => by rw [Nat.zero_add]; exact hL _ _ h
  | f + 1, listed, a, h => by
    rw [show f + 1 + g = (f + g) + 1 by omega]
    exact ⟨fun h0 => absurd h0 h.1, fun i hi => opIn_of_still L hd (fun a' h' => anyIn_of_head L hd hL f _ a' h') (h.2 i hi).2⟩
theorem wpIn_region_still_tail (L : Lets F n P) {id : Nat} {Q : Exit → Act → World → Prop} {a : Act} {l : List Oper} (k : Nat) (hm : P.follows .mixedOrders = true) (hB : Region.lexTailB .any l.toArray k = true) (hd : noDefer l.toArray = true)
    (h : Shut (wpStill P l.toArray w.drew (fun a' => wpListIn F n P l.toArray Q (l.drop k) a' w.drew) (l.take k) a)) : (Code.region id l.toArray true).wpIn F n P Q a w := by
  simp only [Region.lexTailB, Bool.and_eq_true, decide_eq_true_eq] at hB
  obtain ⟨⟨⟨⟨hsel, hk⟩, hs⟩, hc⟩, hlex⟩ := hB
  have hk' : k < l.length := by simpa using hk
  have htl : (l.take k).length = k := by simp; omega
  have hdl : (l.drop k).length = l.toArray.size - k := by simp
  have inv0 : HeadInv .any l.toArray k (Array.replicate l.toArray.size false) :=
    ⟨by simp, fun j oj _ hl => (by rw [getD_replicate_false] at hl; cases hl), fun t _ ht => getD_in (by simpa using ht) (getD_replicate_false _ _)⟩
  have H := wpAnyL_lex (md := .any) (g := l.toArray.size - k) hsel hs hc hk (l.take k) 0 _ a (fun j hj => by
    have hj' : j < k := by rw [htl] at hj; exact hj
    simp [hj']) (by simpa using htl) inv0 (by rw [htl]; exact hlex) h.out
  refine wpIn_region_any hm ?_
  have := anyIn_of_head L hd (Q' := Q) (g := l.toArray.size - k) (fun listed a' hL => by
    have := anyIn_of_seq (F := F) (n := n) (md := .any) (Q' := Q) (l.drop k) k listed a' w.drew (fun j => by simp [List.getElem?_drop]) (by rw [hdl]; exact hL.1) hL.2
    rwa [hdl] at this) _ _ _ H
  rw [htl, show k + (l.toArray.size - k) = l.toArray.size by omega] at this
  exact this
/-- The steps, with what is still to come out of the sight of whoever looks at the goal (an operation that is passed over would be walked by the looking). -/
theorem hidStill_step {Q : Act → Prop} {a : Act} {o : Oper} {rest : List Oper}
    (h : ∀ K : Act → Prop, (∀ a, Shut (wpStill P ops w Q rest a) → K a) → if Region.wanted o (yielded ops a.tmps) then o.still P a w K else K (a.put o.dst undef)) : Shut (wpStill P ops w Q (o :: rest) a) :=
  Shut.mk (wpStill_step fun K hK => h K fun a ha => hK a ha.out)
theorem hidStill_nil {Q : Act → Prop} {a : Act} (h : Q a) : Shut (wpStill P ops w Q [] a) := Shut.mk (wpStill_nil h)
end
end Go.Proofs.YtpimcbhjkednpaaGreat
