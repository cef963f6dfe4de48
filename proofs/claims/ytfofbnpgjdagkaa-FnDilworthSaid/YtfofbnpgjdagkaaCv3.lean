
/- What ExactRivalDuties and Dilworth and CoversLaw rests on, part 3: contracts and mathematics. -/
import Derived.Test.YtfofbnpgjdagkaaCv1
import Derived.Test.YtfofbnpgjdagkaaCv0
import Derived.OwnWalkIn
import Derived.Laws.AppendOwn
import Derived.RangeFuncNested
import Derived.Test.YtfofbnpgjdagkaaCv2
namespace Go.Proofs.Ytfofbnpgjdagkaa
open Go.RowKit
/-- A slice (of any elements that are rows of one-cell values) whose N cells hold mv 0, mv 1 and so on. -/
def MarkedV (w : World) (v : Value) (N : Nat) (mv : Nat → Value) : Prop :=
  N = 0 ∨ ∃ g o len c, v = .slice (some ⟨g, o, none⟩) len c ∧ ∀ j, j < N → w.cell? ⟨g, o + j, none⟩ = some (mv j)
theorem MarkedV.grown {w w' : World} {v : Value} {N : Nat} {mv : Nat → Value} {row : Option Nat} (h : MarkedV w v N mv) (hg : w.grownBy w' row) (hne : v.ownBlock = none ∨ v.ownBlock ≠ row) : MarkedV w' v N mv := by
  rcases h with h | ⟨g, o, len, c, rfl, hc⟩
  · exact .inl h
  · refine .inr ⟨g, o, len, c, rfl, fun j hj => hg.cell (hc j hj) ?_⟩
    rcases hne with hne | hne
    · simp [Value.ownBlock] at hne
    · exact hne
theorem MarkedV.below {w w' : World} {v : Value} {N : Nat} {mv : Nat → Value} (h : MarkedV w v N mv) (hb : Below w.heap.size w w') : MarkedV w' v N mv := by
  rcases h with h | ⟨g, o, len, c, rfl, hc⟩
  · exact .inl h
  · exact .inr ⟨g, o, len, c, rfl, fun j hj => (hb.cell (World.block_lt_of_cell? w _ (hc j hj))).trans (hc j hj)⟩
/-- What a marking loop has done when i of the N cells are marked. -/
def MarkRowV (w : World) (g o N : Nat) (mv : Nat → Value) (i : Nat) (wr : World) : Prop :=
  w.grownBy wr (some g) ∧ (∀ j, j < i → wr.cell? ⟨g, o + j, none⟩ = some (mv j)) ∧ (∀ j, i ≤ j → j < N → ∃ x, wr.cell? ⟨g, o + j, none⟩ = some x) ∧ (∀ j, wr.frozen? ⟨g, j, none⟩ = false) ∧ g < wr.heap.size
theorem MarkRowV.start {w : World} {g o N : Nat} {mv : Nat → Value} (h : ∀ j, j < N → ∃ x, w.cell? ⟨g, o + j, none⟩ = some x) (hN : 0 < N) (hf : ∀ j, w.frozen? ⟨g, j, none⟩ = false) {z : Nat} (hz : z = 0 := by simp) : MarkRowV w g o N mv z w := by
  subst hz
  obtain ⟨x, hx⟩ := h 0 hN
  exact ⟨World.grownBy.refl _ _, fun j hj => absurd hj (by omega), fun j _ hj => h j hj, hf, World.block_lt_of_cell? w ⟨g, o + 0, none⟩ hx⟩
theorem MarkRowV.next {w : World} {g o N : Nat} {mv : Nat → Value} {i : Nat} {wr : World} (h : MarkRowV w g o N mv i wr) (hi : i < N) (p : Nat) (hp : p = o + i) (u : Value) (hu : u = mv i) (i' : Nat) (hi' : i' = i + 1) : MarkRowV w g o N mv i' (wr.setCell ⟨g, p, none⟩ u) := by
  subst hp hu hi'
  obtain ⟨hg, hd, hr, hf, hlt⟩ := h
  obtain ⟨x, hx⟩ := hr i (Nat.le_refl _) hi
  refine ⟨grown_set hg _, fun j hj => ?_, fun j hj hjn => ?_, fun j => setCell_frozen _ _ _ _ (hf j), by simpa [World.setCell] using hlt⟩
  · by_cases e : j = i
    · subst e
      exact World.cell?_setCell_same _ _ _ hx
    · rw [World.cell?_setCell_other _ _ _ _ (by intro he; injection he with _ h2; omega)]
      exact hd j (by omega)
  · rw [World.cell?_setCell_other _ _ _ _ (by intro he; injection he with _ h2; omega)]
    exact hr j (by omega) hjn
theorem MarkRowV.below {w : World} {g o N : Nat} {mv : Nat → Value} {i : Nat} {wr w' : World} (h : MarkRowV w g o N mv i wr) (hb : Below wr.heap.size wr w') : MarkRowV w g o N mv i w' := by
  obtain ⟨hg, hd, hr, hf, hlt⟩ := h
  have key : ∀ {p : Nat} {x : Value}, wr.cell? ⟨g, p, none⟩ = some x → w'.cell? ⟨g, p, none⟩ = some x := fun {p x} hx => (hb.cell (p := ⟨g, p, none⟩) hlt).trans hx
  exact ⟨grown_below hg hb, fun j hj => key (hd j hj), fun j hj hjn => (hr j hj hjn).imp fun x hx => key hx, fun j => (hb.frozen (p := ⟨g, j, none⟩) hlt).trans (hf j), Nat.lt_of_lt_of_le hlt hb.size⟩
theorem MarkRowV.read {w : World} {g o N : Nat} {mv : Nat → Value} {i : Nat} {wr : World} (h : MarkRowV w g o N mv i wr) (j : Nat) (hj : i ≤ j) (hN : j < N) (p : Nat) (hp : p = o + j) : ∃ x, wr.cell? ⟨g, p, none⟩ = some x := by
  subst hp
  exact h.2.2.1 j hj hN
/-- The cells of a list of rows of n values, one by one. -/
theorem vals_of {α : Type} {n : Nat} {cs : α → List Value} (hn : 0 < n) (hk : ∀ x, (cs x).length = n) {w : World} {l : List α} {g o : Nat}
    (hc : ∀ i x, l[i]? = some x → ∀ j u, (cs x)[j]? = some u → w.cell? ⟨g, o + i * n + j, none⟩ = some u) : ∀ j, j < l.length * n → ∃ x, w.cell? ⟨g, o + j, none⟩ = some x := by
  intro j hj
  have hi : j / n < l.length := by rw [Nat.div_lt_iff_lt_mul hn]; exact hj
  have hm : j % n < n := Nat.mod_lt _ hn
  obtain ⟨x, hx⟩ : ∃ x, l[j / n]? = some x := ⟨_, List.getElem?_eq_getElem hi⟩
  obtain ⟨u, hu⟩ : ∃ u, (cs x)[j % n]? = some u := ⟨_, List.getElem?_eq_getElem (by rw [hk]; exact hm)⟩
  refine ⟨u, ?_⟩
  have e : o + j / n * n + j % n = o + j := by have := Nat.div_add_mod' j n; omega
  have := hc (j / n) x hx (j % n) u hu
  rwa [e] at this
/-- What is left of a bound. -/
def leftOf (lim t : Int) : Int := if lim < t then -1 else lim - t
theorem leftOf_no {lim t : Int} (h : lim < t) : leftOf lim t = -1 := if_pos h
theorem leftOf_yes {lim t : Int} (h : ¬ lim < t) : leftOf lim t = lim - t := if_neg h
end Go.Proofs.Ytfofbnpgjdagkaa
namespace Go.Proofs.Ytfofbnpgjdagkaa
theorem nodup_sub {α : Type} [DecidableEq α] : ∀ {A L : List α}, A.Nodup → (∀ x ∈ A, x ∈ L) → A.length ≤ L.length
  | [], _, _, _ => Nat.zero_le _
  | a :: A, L, hn, hs => by
    obtain ⟨h1, h2⟩ := List.nodup_cons.1 hn
    have ha := hs a List.mem_cons_self
    have := nodup_sub (L := L.erase a) h2 (fun x hx => (List.mem_erase_of_ne (fun e => h1 (by rw [← e]; exact hx))).2 (hs x (List.mem_cons_of_mem _ hx)))
    rw [List.length_erase_of_mem ha] at this
    have := List.length_pos_of_mem ha
    simp
    omega
/-- The indices that the bits tell. -/
def setL (m b : Nat) : List Nat := (List.range m).filter (fun i => b / 2 ^ i % 2 == 1)
theorem setL_lt {m b : Nat} : ∀ i ∈ setL m b, i < m := fun _ hi => List.mem_range.1 (List.mem_filter.1 hi).1
theorem setL_nodup (m b : Nat) : (setL m b).Nodup := List.nodup_range.filter _
theorem bits_of (q : Nat → Bool) : ∀ m : Nat, ∃ b, b < 2 ^ m ∧ ∀ i, i < m → (b / 2 ^ i % 2 == 1) = q i
  | 0 => ⟨0, by simp, fun i hi => by omega⟩
  | m + 1 => by
    obtain ⟨b, hb, h⟩ := bits_of q m
    have hp : 2 ^ (m + 1) = 2 ^ m + 2 ^ m := by rw [Nat.pow_succ]; omega
    by_cases hq : q m = true
    · refine ⟨b + 2 ^ m, by omega, fun i hi => ?_⟩
      by_cases e : i = m
      · subst e
        rw [Nat.add_div_right _ (Nat.pow_pos (by omega)), Nat.div_eq_of_lt hb, hq]
        rfl
      · rw [← h i (by omega)]
        obtain ⟨c, hc⟩ : ∃ c, m = i + 1 + c := ⟨m - (i + 1), by omega⟩
        have : b + 2 ^ m = b + 2 ^ i * (2 * 2 ^ c) := by rw [hc, Nat.pow_add, Nat.pow_succ, Nat.mul_assoc]
        rw [this, Nat.add_mul_div_left _ _ (Nat.pow_pos (by omega)), Nat.add_mul_mod_self_left]
    · refine ⟨b, by omega, fun i hi => ?_⟩
      by_cases e : i = m
      · subst e
        rw [Nat.div_eq_of_lt hb]
        cases hqq : q i with
        | true => exact absurd hqq hq
        | false => rfl
      · exact h i (by omega)
theorem setL_of (q : Nat → Bool) (m : Nat) : ∃ b, b < 2 ^ m ∧ setL m b = (List.range m).filter q := by
  obtain ⟨b, hb, h⟩ := bits_of q m
  exact ⟨b, hb, List.filter_congr (fun i hi => h i (List.mem_range.1 hi))⟩
/-- No two of the duties can be performed by one person. -/
def rivalsB (B : Nat → Nat → Bool) : List Nat → Bool
  | [] => true
  | a :: s => s.all (fun b => !B b a) && rivalsB B s
theorem rivals_pair {B : Nat → Nat → Bool} : ∀ {s : List Nat}, rivalsB B s = true ↔ s.Pairwise (fun a b => B b a = false)
  | [] => by simp [rivalsB]
  | a :: s => by
    unfold rivalsB
    rw [Bool.and_eq_true, rivals_pair, List.pairwise_cons, List.all_eq_true]
    simp
/-- Lists of the same length, compared. -/
def lessL : List Nat → List Nat → Bool
  | a :: s, b :: t => if a = b then lessL s t else decide (a < b)
  | _, _ => false
def keepB (B : Nat → Nat → Bool) (best s : List Nat) : Bool := decide (s.length < best.length) || (s.length == best.length && !lessL s best) || !rivalsB B s
def stepV (B : Nat → Nat → Bool) (m : Nat) (best : List Nat) (b : Nat) : List Nat := if keepB B best (setL m b) = true then best else setL m b
def rivalTo (B : Nat → Nat → Bool) (m n : Nat) : List Nat := (List.range n).foldl (stepV B m) []
theorem rivalTo_next (B : Nat → Nat → Bool) (m n : Nat) : rivalTo B m (n + 1) = stepV B m (rivalTo B m n) n := by unfold rivalTo; rw [List.range_succ, List.foldl_append]; rfl
def rivalL (B : Nat → Nat → Bool) (m : Nat) : List Nat := rivalTo B m (2 ^ m)
theorem rivalTo_ok (B : Nat → Nat → Bool) (m : Nat) : ∀ n, (∀ i ∈ rivalTo B m n, i < m) ∧ (rivalTo B m n).Nodup ∧ rivalsB B (rivalTo B m n) = true ∧ ∀ b, b < n → rivalsB B (setL m b) = true → (setL m b).length ≤ (rivalTo B m n).length
  | 0 => ⟨fun i hi => by simp [rivalTo] at hi, by simp [rivalTo], by simp [rivalTo, rivalsB], fun b hb => by omega⟩
  | n + 1 => by
    obtain ⟨h1, h2, h3, h4⟩ := rivalTo_ok B m n
    rw [rivalTo_next]
    unfold stepV
    by_cases hk : keepB B (rivalTo B m n) (setL m n) = true
    · rw [if_pos hk]
      refine ⟨h1, h2, h3, fun b hb hr => ?_⟩
      by_cases e : b = n
      · subst e
        unfold keepB at hk
        rw [hr] at hk
        simp only [Bool.or_eq_true, Bool.and_eq_true, decide_eq_true_eq, beq_iff_eq, Bool.not_true, Bool.false_eq_true, or_false] at hk
        omega
      · exact h4 b (by omega) hr
    · rw [if_neg hk]
      unfold keepB at hk
      simp only [Bool.or_eq_true, not_or, Bool.and_eq_true, decide_eq_true_eq, Bool.not_eq_true', Bool.not_eq_false] at hk
      refine ⟨setL_lt, setL_nodup _ _, hk.2, fun b hb hr => ?_⟩
      by_cases e : b = n
      · subst e; exact Nat.le_refl _
      · have := h4 b (by omega) hr
        omega
section
variable {B : Nat → Nat → Bool} {m : Nat}
/-- No set of rivals is greater. -/
theorem rival_most {A : List Nat} (hn : A.Nodup) (hm : ∀ i ∈ A, i < m) (hr : ∀ i ∈ A, ∀ j ∈ A, i ≠ j → B i j = false) : A.length ≤ (rivalL B m).length := by
  obtain ⟨b, hb, e⟩ := setL_of (fun i => decide (i ∈ A)) m
  have hs : ∀ i ∈ setL m b, i ∈ A := fun i hi => by rw [e] at hi; exact of_decide_eq_true (List.mem_filter.1 hi).2
  have h1 : rivalsB B (setL m b) = true := by
    rw [rivals_pair]
    refine (setL_nodup m b).imp_of_mem ?_
    intro i j hi hj hij
    exact hr j (hs j hj) i (hs i hi) (fun e => hij e.symm)
  have h2 := (rivalTo_ok B m (2 ^ m)).2.2.2 b hb h1
  have h3 : A.length ≤ (setL m b).length := nodup_sub hn (fun i hi => by rw [e]; exact List.mem_filter.2 ⟨List.mem_range.2 (hm i hi), decide_eq_true hi⟩)
  exact Nat.le_trans h3 h2
theorem rival_ok : (∀ i ∈ rivalL B m, i < m) ∧ (rivalL B m).Nodup ∧ (rivalL B m).Pairwise (fun a b => B b a = false) := by
  obtain ⟨h1, h2, h3, -⟩ := rivalTo_ok B m (2 ^ m)
  exact ⟨h1, h2, rivals_pair.1 h3⟩
end
def coverO (B : Nat → Nat → Bool) (m : Nat) : Option (List Nat × Nat) := (List.range (m + 1)).findSome? (fun most => (searchR B most m []).map (fun w => (w, most)))
theorem first_some {β : Type} {f : Nat → Option β} {n : Nat} {y : β} (h : (List.range n).findSome? f = some y) : ∃ k, k < n ∧ f k = some y ∧ ∀ j, j < k → f j = none := by
  rw [List.findSome?_eq_some_iff] at h
  obtain ⟨l1, k, l2, hr, hk, h1⟩ := h
  have hk2 : (List.range n)[l1.length]? = some k := by rw [hr]; simp
  obtain ⟨hlt, he⟩ := List.getElem?_eq_some_iff.1 hk2
  rw [List.getElem_range] at he
  rw [List.length_range] at hlt
  subst he
  refine ⟨l1.length, hlt, hk, fun j hj => ?_⟩
  have hj2 : (List.range n)[j]? = some j := List.getElem?_range (by omega)
  rw [hr, List.getElem?_append_left hj] at hj2
  exact h1 j (List.mem_of_getElem? hj2)
/-- A least cover: what it is, and that its number is least. -/
theorem cover_some (B : Nat → Nat → Bool) (m : Nat) : ∃ w n, coverO B m = some (w, n) ∧ CovOk B n w ∧ w.length = m ∧ usedP w = n ∧ n ≤ m ∧ ∀ (f : Nat → Nat) (r : Nat), (∀ i, i < m → f i < r) → (∀ i j, j < i → i < m → f i = f j → B i j = true) → n ≤ r := by
  cases h : coverO B m with
  | none =>
    have := (List.findSome?_eq_none_iff.1 h) m (List.mem_range.2 (Nat.lt_succ_self _))
    rw [Option.map_eq_none_iff] at this
    have h2 := search_all (B := B) (most := m) (m := m) (fun i => i) (fun i hi => hi) (fun i j hj _ e => by have : i = j := e; omega)
    rw [this] at h2
    cases h2
  | some p =>
    obtain ⟨w, n⟩ := p
    obtain ⟨k, hk, hf, hl⟩ := first_some h
    obtain ⟨w', hw', e⟩ := Option.map_eq_some_iff.1 hf
    injection e with e1 e2
    subst e1 e2
    obtain ⟨hc, hlen⟩ := search_ok (CovOk.nil B k) hw'
    have hlen : w'.length = m := by simpa using hlen
    have least : ∀ (f : Nat → Nat) (r : Nat), (∀ i, i < m → f i < r) → (∀ i j, j < i → i < m → f i = f j → B i j = true) → k ≤ r := fun f r h1 h2 => by
      rcases Nat.lt_or_ge r k with hlt | hge
      · have h3 := hl r hlt
        rw [Option.map_eq_none_iff] at h3
        have h4 := search_all (B := B) (most := r) (m := m) f h1 h2
        rw [h3] at h4
        cases h4
      · exact hge
    have hu : usedP w' ≤ k := by
      rcases Nat.lt_or_ge k (usedP w') with hlt | hge
      · have := hc.lt _ (hc.all k hlt); omega
      · exact hge
    have hu2 : k ≤ usedP w' := least (fun i => (w'[i]?).getD 0) (usedP w') (fun i hi => by
        obtain ⟨x, hx⟩ : ∃ x, w'[i]? = some x := ⟨_, List.getElem?_eq_getElem (by omega)⟩
        show (w'[i]?).getD 0 < _
        rw [hx]; exact usedP_le x (List.mem_of_getElem? hx)) (fun i j hj hi e => by
        obtain ⟨x, hx⟩ : ∃ x, w'[i]? = some x := ⟨_, List.getElem?_eq_getElem (by omega)⟩
        obtain ⟨y, hy⟩ : ∃ y, w'[j]? = some y := ⟨_, List.getElem?_eq_getElem (by omega)⟩
        have e : (w'[i]?).getD 0 = (w'[j]?).getD 0 := e
        rw [hx, hy] at e
        have e : x = y := e
        subst e
        exact hc.both i j x hj hx hy)
    exact ⟨w', k, rfl, hc, hlen, by omega, by omega, least⟩
section
variable {B : Nat → Nat → Bool} {m : Nat} {w : List Nat} {n : Nat}
/-- Rivals need different persons. -/
theorem rivals_apart (hB : ∀ i j, B i j = B j i) (hc : CovOk B n w) {a b x y : Nat} (ha : w[a]? = some x) (hb : w[b]? = some y) (hab : a ≠ b) (hr : B a b = false) : x ≠ y := by
  intro e
  subst e
  rcases Nat.lt_or_gt_of_ne hab with h | h
  · have := hc.both b a x h hb ha
    rw [hB, hr] at this
    cases this
  · have := hc.both a b x h ha hb
    rw [hr] at this
    cases this
theorem rivals_le (hB : ∀ i j, B i j = B j i) (hc : CovOk B n w) (hl : w.length = m) : (rivalL B m).length ≤ n := by
  obtain ⟨h1, h2, h3⟩ := rival_ok (B := B) (m := m)
  have hlen : ((rivalL B m).map (fun i => (w[i]?).getD 0)).length ≤ (List.range n).length := by
    refine nodup_sub ?_ (fun x hx => ?_)
    · unfold List.Nodup
      rw [List.pairwise_map]
      refine (h3.and h2).imp_of_mem ?_
      intro a b ha hb hab
      obtain ⟨x, hx⟩ : ∃ x, w[a]? = some x := ⟨_, List.getElem?_eq_getElem (by have := h1 a ha; omega)⟩
      obtain ⟨y, hy⟩ : ∃ y, w[b]? = some y := ⟨_, List.getElem?_eq_getElem (by have := h1 b hb; omega)⟩
      show (w[a]?).getD 0 ≠ (w[b]?).getD 0
      rw [hx, hy]
      exact rivals_apart hB hc hx hy hab.2 (by rw [hB]; exact hab.1)
    · obtain ⟨i, hi, rfl⟩ := List.mem_map.1 hx
      obtain ⟨x, hx⟩ : ∃ x, w[i]? = some x := ⟨_, List.getElem?_eq_getElem (by have := h1 i hi; omega)⟩
      rw [hx]
      exact List.mem_range.2 (hc.lt x (List.mem_of_getElem? hx))
  rw [List.length_map, List.length_range] at hlen
  exact hlen
/-- Intervals: the least number of persons is the greatest number of rivals. -/
theorem dilworth (fr en : Nat → Int) (hB : ∀ i j, B i j = B j i) (hf : ∀ i, i < m → fr i < en i) (hBi : ∀ i j, i < m → j < m → i ≠ j → (B i j = false ↔ fr i < en j ∧ fr j < en i))
    (hc : CovOk B n w) (hl : w.length = m) (least : ∀ (f : Nat → Nat) (r : Nat), (∀ i, i < m → f i < r) → (∀ i j, j < i → i < m → f i = f j → B i j = true) → n ≤ r) : n = (rivalL B m).length := by
  have h1 := rivals_le hB hc hl
  obtain ⟨f, f1, f2⟩ := color fr en (rivalL B m).length m (List.range m) (by simp) List.nodup_range (fun i hi => hf i (List.mem_range.1 hi)) (fun A a1 a2 a3 => rival_most a1 (fun i hi => List.mem_range.1 (a2 i hi)) (fun i hi j hj hij => (hBi i j (List.mem_range.1 (a2 i hi)) (List.mem_range.1 (a2 j hj)) hij).2 ⟨a3 i hi j hj, a3 j hj i hi⟩))
  have h2 := least f _ (fun i hi => f1 i (List.mem_range.2 hi)) (fun i j hj hi e => by
    cases hb : B i j with
    | true => rfl
    | false =>
      obtain ⟨o1, o2⟩ := (hBi i j hi (by omega) (by omega)).1 hb
      exact absurd e (f2 i (List.mem_range.2 hi) j (List.mem_range.2 (by omega)) (by omega) o1 o2))
  omega
/-- The persons of a least cover, told once each. -/
theorem seen_len {s : List Nat} (hc : CovOk B n w) (hu : usedP w = n) (hn : s.Nodup) (hs : ∀ x, x ∈ s ↔ x ∈ w) : s.length = n := by
  have h1 : s.length ≤ (List.range n).length := nodup_sub hn (fun x hx => List.mem_range.2 (hc.lt x ((hs x).1 hx)))
  have h2 : (List.range n).length ≤ s.length := nodup_sub List.nodup_range (fun x hx => (hs x).2 (hc.all x (by rw [hu]; exact List.mem_range.1 hx)))
  rw [List.length_range] at h1 h2
  omega
end
end Go.Proofs.Ytfofbnpgjdagkaa
namespace Go.Proofs.Ytfofbnpgjdagkaa
open Go.RowKit
set_option maxRecDepth 100000
/-- From w to w' only blocks of ex have changed, and new ones have come. -/
structure KeepX (ex : Nat → Prop) (w w' : World) : Prop where
  os : w'.os = w.os
  tape : w'.tape = w.tape
  output : w'.output = w.output
  size : w.heap.size ≤ w'.heap.size
  block : ∀ i, i < w.heap.size → ¬ ex i → w'.heap[i]? = w.heap[i]?
theorem KeepX.refl (ex : Nat → Prop) (w : World) : KeepX ex w w := ⟨rfl, rfl, rfl, Nat.le_refl _, fun _ _ _ => rfl⟩
theorem KeepX.trans {ex : Nat → Prop} {a b c : World} (h : KeepX ex a b) (k : KeepX ex b c) : KeepX ex a c :=
  ⟨k.os.trans h.os, k.tape.trans h.tape, k.output.trans h.output, Nat.le_trans h.size k.size, fun i hi hn => (k.block i (Nat.lt_of_lt_of_le hi h.size) hn).trans (h.block i hi hn)⟩
theorem KeepX.join {ex ex1 ex2 : Nat → Prop} {a b c : World} (h : KeepX ex1 a b) (k : KeepX ex2 b c) (h1 : ∀ i, i < a.heap.size → ex1 i → ex i) (h2 : ∀ i, i < a.heap.size → ex2 i → ex i) : KeepX ex a c :=
  ⟨k.os.trans h.os, k.tape.trans h.tape, k.output.trans h.output, Nat.le_trans h.size k.size, fun i hi hn => (k.block i (Nat.lt_of_lt_of_le hi h.size) (fun e => hn (h2 i hi e))).trans (h.block i hi (fun e => hn (h1 i hi e)))⟩
theorem KeepX.below {ex : Nat → Prop} {a b : World} (h : Below a.heap.size a b) : KeepX ex a b := ⟨h.os, h.tape, h.output, h.size, fun i hi _ => h.block i hi⟩
theorem KeepX.grown {ex : Nat → Prop} {a b : World} {row : Option Nat} (h : a.grownBy b row) (hr : ∀ g, row = some g → ex g) : KeepX ex a b := ⟨h.os, h.tape, h.output, h.size, fun i hi hn => h.block i hi (fun e => hn (hr i e.symm))⟩
theorem KeepX.alloc {ex : Nat → Prop} (a : World) (o : Obj) : KeepX ex a (a.alloc o) := .below ((Below.refl _ a).alloc (Nat.le_refl _) o)
theorem KeepX.drew {ex : Nat → Prop} (a : World) : KeepX ex a a.drew := ⟨rfl, rfl, rfl, Nat.le_refl _, fun _ _ _ => rfl⟩
/-- Where only blocks from base on change, it is a Below. -/
theorem KeepX.toBelow {ex : Nat → Prop} {base : Nat} {w0 a b : World} (h : KeepX ex a b) (h0 : Below base w0 a) (hb : base ≤ w0.heap.size) (hx : ∀ i, i < base → ¬ ex i) : Below base w0 b :=
  ⟨h.os.trans h0.os, h.tape.trans h0.tape, h.output.trans h0.output, Nat.le_trans h0.size h.size, fun i hi => (h.block i (Nat.lt_of_lt_of_le (Nat.lt_of_lt_of_le hi hb) h0.size) (hx i hi)).trans (h0.block i hi)⟩
theorem own_keep {α : Type} {k : Nat} {cs : α → List Value} {t : TypeId} {ex : Nat → Prop} {w w' : World} {base : Nat} {v : Value} {l : List α} (h : OwnOf k cs t w base v l) (hk : KeepX ex w w') (hv : ∀ g, v.ownBlock = some g → ¬ ex g) : OwnOf k cs t w' base v l := by
  refine ⟨h.1, ?_⟩
  rcases h.2 with hn | ⟨g, cap, cur, rfl, hb, hgg, rest⟩
  · exact .inl hn
  · exact .inr ⟨g, cap, cur, rfl, hb, (hk.block g (Array.getElem?_eq_some_iff.1 hgg).1 (hv g rfl)).trans hgg, rest⟩
end Go.Proofs.Ytfofbnpgjdagkaa
namespace Go.Proofs.Ytfofbnpgjdagkaa
open Go.RowKit
theorem run_append_own_full {P : Program} (w : World) (base : Nat) (t ty e : TypeId) (i : TypeInfo) (z : Value) (size bytes : Nat) (ht : P.underlying t = some (.slice e)) (hi : P.info? e = some i) (hz : i.zero = some z)
    (hsize : i.size = size) (hby : i.bytes = bytes) (hzs : z.cells.size = size) (hsz : 0 < size)
    (v : Value) (n : Nat) (xs : List Value) (hown : w.ownsRow base e size v n xs)
    (a : Addr) (m c : Nat) (news : List Value) (hl : news.length = m * size) (hnews : ∀ j u, news[j]? = some u → w.cell? (a.add j) = some u) (h1 : ∀ u ∈ news, u.oneCell' = true)
    (h63 : n + m ≤ maxLen) (hbytes : (n + m) * bytes ≤ 140737488355328) (hbase : base ≤ w.heap.size) :
    ∃ v' w', (Builtin.append_ #[t, t] ty #[v, .slice (some a) m c]).run P w = .ok v' w' ∧ w'.ownsRow base e size v' (n + m) (xs ++ news) ∧ w.grownBy w' v.ownBlock ∧
      (v' = .slice none 0 0 ↔ v = .slice none 0 0 ∧ m = 0) ∧ ∀ g cap, v = .slice (some ⟨g, 0, none⟩) n cap → cap < n + m → w.grownBy w' none := by
  obtain ⟨v', w', hr, h2, h3, h4⟩ := run_append_own (P := P) w base t ty e i z size bytes ht hi hz hsize hby hzs hsz v n xs hown a m c news hl hnews h1 h63 hbytes hbase
  refine ⟨v', w', hr, h2, h3, h4, ?_⟩
  intro g cap ev hlt
  subst ev
  subst hsize
  subst hby
  have hsmall : n + m ≤ 9223372036854775807 := by simp only [maxLen] at h63; omega
  have hr2 := run_append_grow (P := P) w t ty e i z ht hi hz ⟨g, 0, none⟩ n cap xs hown.1 (hown.cells (g := g) rfl) a m c news hl hnews hlt (by omega) (growslice_fits (by omega) hbytes)
  rw [hr] at hr2
  injection hr2 with e1 e2
  subst e2
  exact ⟨rfl, rfl, rfl, by simp, fun k hk _ => heap_alloc_old w.drew _ hk⟩
end Go.Proofs.Ytfofbnpgjdagkaa
namespace Go.Proofs.Ytfofbnpgjdagkaa
open Go.RowKit
set_option maxRecDepth 100000
theorem isIndex_any (i : Int) (n : Nat) (w : World) : Calls Try.prog 48 #[.int .i64 i, .int .i64 (n : Int)] w fun e w' => e = .returned (.bool (inB i 0 ((n : Int) - 1))) ∧ w = w' := by
  by_cases h1 : 0 ≤ i
  · by_cases h2 : i < (n : Int)
    · have H := Lib.hid (inB_mk h1 (show i ≤ (n : Int) - 1 by omega))
      go_enter Try.func48, Try.ntmps48
      go_wp2
      go_ret
      exact ⟨ret_bool H.out.symm, rfl⟩
    · have H := Lib.hid (inB_no (x := i) (lo := 0) (hi := (n : Int) - 1) (.inr (by omega)))
      have h3 : decide (i < (n : Int)) = false := decide_eq_false h2
      go_enter Try.func48, Try.ntmps48
      go_wp2
      go_ret
      exact ⟨ret_bool H.out.symm, rfl⟩
  · have H := Lib.hid (inB_no (x := i) (lo := 0) (hi := (n : Int) - 1) (.inl (by omega)))
    have h3 : decide (0 ≤ i) = false := decide_eq_false h1
    go_enter Try.func48, Try.ntmps48
    go_wp2
    go_ret
    exact ⟨ret_bool H.out.symm, rfl⟩
end Go.Proofs.Ytfofbnpgjdagkaa
namespace Go.Proofs.Ytfofbnpgjdagkaa
open Go.RowKit
set_option maxRecDepth 100000
def spanB (fr tt : Int) : Bool := decide (0 ≤ fr) && decide (fr < tt) && decide (tt ≤ 2880)
set_option maxHeartbeats 2000000 in
theorem isSpan_any (fr tt : Int) (w : World) : Calls Try.prog 64 #[.int .i64 fr, .int .i64 tt] w fun e w' => e = .returned (.bool (spanB fr tt)) ∧ w = w' := by
  obtain ⟨b1, h1⟩ : ∃ b, decide (0 ≤ fr) = b := ⟨_, rfl⟩
  obtain ⟨b2, h2⟩ : ∃ b, decide (fr < tt) = b := ⟨_, rfl⟩
  obtain ⟨b3, h3⟩ : ∃ b, decide (tt ≤ 2880) = b := ⟨_, rfl⟩
  have E := Lib.hid (show spanB fr tt = (b1 && b2 && b3) by unfold spanB; rw [h1, h2, h3])
  cases b1 <;> cases b2 <;> cases b3
  all_goals
    go_enter Try.func64, Try.ntmps64
    go_wp2
    go_ret
    exact ⟨ret_bool (by rw [E.out]; rfl), rfl⟩
end Go.Proofs.Ytfofbnpgjdagkaa
namespace Go.Proofs.Ytfofbnpgjdagkaa
open Go.RowKit
set_option maxRecDepth 100000
theorem isMinute_any (t : Int) (w : World) : Calls Try.prog 65 #[.int .i64 t] w fun e w' => e = .returned (.bool (inB t 0 2880)) ∧ w = w' := by
  by_cases h1 : 0 ≤ t
  · by_cases h2 : t ≤ 2880
    · have H := Lib.hid (inB_mk h1 h2)
      go_enter Try.func65, Try.ntmps65
      go_wp2
      go_ret
      exact ⟨ret_bool H.out.symm, rfl⟩
    · have H := Lib.hid (inB_no (x := t) (lo := 0) (hi := 2880) (.inr (by omega)))
      have h3 : decide (t ≤ 2880) = false := decide_eq_false h2
      go_enter Try.func65, Try.ntmps65
      go_wp2
      go_ret
      exact ⟨ret_bool H.out.symm, rfl⟩
  · have H := Lib.hid (inB_no (x := t) (lo := 0) (hi := 2880) (.inl (by omega)))
    have h3 : decide (0 ≤ t) = false := decide_eq_false h1
    go_enter Try.func65, Try.ntmps65
    go_wp2
    go_ret
    exact ⟨ret_bool H.out.symm, rfl⟩
end Go.Proofs.Ytfofbnpgjdagkaa
namespace Go.Proofs.Ytfofbnpgjdagkaa
open Go.ChangeShapes Go.WideShapes Go.ChangeAt Go.RowKit
theorem cells_u8 : Try.prog.cellsOf 5 = 1 := by kernel_rfl
set_option maxRecDepth 100000 in
theorem open_code_arg {H : Type} {enc : TypeId × Value → H} {W : World} {r : Reach} {b0 : Nat} {v : Value} {d : DataW H} {ps : List MemPlace}
    (hval : Value.okWide Try.prog W r b0 22 v) (hd : DataW.Trod enc Try.prog W 0 (fun _ => true) true 22 v d ps) :
    ∃ A n c, v = .slice A n c ∧ n ≤ maxLen ∧ (n ≤ 1048576 → CodeAt W A n) := by
  obtain ⟨A, len, cap, rfl⟩ := okWide_slice Try.underlying22 hval
  obtain ⟨fuel, hf⟩ := hd
  rcases open_ints Try.underlying22 Try.underlying5 cells_u8 hf with ⟨hcs, _⟩ | ⟨a, len', cap', zs, hcs, _, hl, hm, hz, _, hcell, hwf⟩
  · simp [Value.cells] at hcs
    obtain ⟨rfl, rfl, rfl⟩ := hcs
    exact ⟨none, 0, 0, rfl, by decide, fun h => ⟨h, fun h0 => absurd h0 (by omega)⟩⟩
  · simp [Value.cells] at hcs
    obtain ⟨rfl, rfl, rfl⟩ := hcs
    simp only [if_true] at hz
    refine ⟨some a, len, cap, rfl, by omega, fun h => ⟨h, fun h0 => ?_⟩⟩
    obtain ⟨b, off, spot⟩ := a
    have hspot : spot = none := by simpa [Addr.add] using World.cell?_spot (hcell 0 (by omega))
    subst hspot
    have hadd : ∀ j, (⟨b, off, none⟩ : Addr).add j = ⟨b, off + j, none⟩ := fun j => by unfold Addr.add; split <;> simp_all
    refine ⟨b, off, rfl, ?_, fun j hj => ?_⟩
    · have := World.block_lt_of_cell? W _ (hcell 0 (by omega))
      rwa [hadd] at this
    · have hc := hcell j (by omega)
      rw [hadd] at hc
      have hw : (Lit.int .u8 (zs.getD j 0)).wf = true := by
        have hjz : j < zs.length := by omega
        rw [List.getD_eq_getElem?_getD, List.getElem?_eq_getElem hjz]
        exact hwf _ (List.getElem_mem hjz)
      obtain ⟨x0, x1⟩ := bounds_u8 hw
      exact ⟨_, x0, x1, hc⟩
end Go.Proofs.Ytfofbnpgjdagkaa
namespace Go.Proofs.Ytfofbnpgjdagkaa
open Go.RowKit
set_option maxRecDepth 100000
theorem Cursor.lt {w : World} {p : Nat} (h : Cursor w p) : p < w.heap.size := by
  obtain ⟨A, n, c, i, q, hc, _⟩ := h
  exact hc.lt
theorem grown_setNew {a w : World} {row : Option Nat} {b j : Nat} (h : a.grownBy w row) (hb : a.heap.size ≤ b) (u : Value) : a.grownBy (w.setCell ⟨b, j, none⟩ u) row :=
  ⟨h.os, h.tape, h.output, by simpa [World.setCell] using h.size, fun i hi hne => (Below.heap_setCell w ⟨b, j, none⟩ u i (by show i ≠ b; omega)).trans (h.block i hi hne)⟩
/-- A cursor stays one when only blocks are written that are younger than it. -/
theorem Cursor.grown {w w' : World} {p : Nat} {row : Option Nat} (h : Cursor w p) (hg : w.grownBy w' row) (hne : ∀ b, row = some b → p < b) : Cursor w' p := by
  have hp := h.lt
  obtain ⟨A, n, c, i, q, hc, h0, h1, hB⟩ := h
  refine ⟨A, n, c, i, q, (hg.block p hp (fun e => Nat.lt_irrefl _ (hne p e.symm))).trans hc, h0, h1, hB.1, fun hn => ?_⟩
  obtain ⟨g, o, rfl, hgp, hx⟩ := hB.2 hn
  refine ⟨g, o, rfl, hgp, fun k hk => ?_⟩
  obtain ⟨x, x0, x1, hcell⟩ := hx k hk
  exact ⟨x, x0, x1, hg.cell hcell (fun e => Nat.lt_asymm hgp (hne g e.symm))⟩
theorem grown_set1 (w : World) (b j : Nat) (u : Value) : w.grownBy (w.setCell ⟨b, j, none⟩ u) (some b) :=
  ⟨rfl, rfl, rfl, by simp [World.setCell], fun i _ hne => Below.heap_setCell w ⟨b, j, none⟩ u i (fun e => hne (by rw [e]))⟩
theorem Cursor.set {w : World} {p b : Nat} (h : Cursor w p) (hne : p < b) (j : Nat) (u : Value) : Cursor (w.setCell ⟨b, j, none⟩ u) p :=
  h.grown (grown_set1 w b j u) (fun k e => by rw [← Option.some.inj e]; exact hne)
theorem Cursor.drew {w : World} {p : Nat} (h : Cursor w p) : Cursor w.drew p := h
end Go.Proofs.Ytfofbnpgjdagkaa
