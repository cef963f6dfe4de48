
/- Rivals: greatest sets no two of which can be performed by one person; least covers; over no program. -/
import Derived.Test.YtfofbnpgjdagkaaCoverMath
namespace Go.Proofs.Ytfofbnpgjdagkaa

theorem nodup_sub {α : Type} [DecidableEq α] : ∀ {A L : List α}, A.Nodup → (∀ x ∈ A, x ∈ L) → A.length ≤ L.length
  | [], _, _, _ => Nat.zero_le _
  | a :: A, L, hn, hs => by
    obtain ⟨h1, h2⟩ := List.nodup_cons.1 hn
    have ha := hs a List.mem_cons_self
    have := nodup_sub (L := L.erase a) h2 (fun x hx => (List.mem_erase_of_ne (fun e => h1 (by rw [← e]; exact hx))).2 (hs x (List.mem_cons_of_mem _ hx)))
    rw [List.length_erase_of_mem ha] at this
    have := List.length_pos_of_mem ha
    simp
    omega
/-- The indices that the bits tell. -/
def setL (m b : Nat) : List Nat := (List.range m).filter (fun i => b / 2 ^ i % 2 == 1)
theorem setL_lt {m b : Nat} : ∀ i ∈ setL m b, i < m := fun _ hi => List.mem_range.1 (List.mem_filter.1 hi).1
theorem setL_nodup (m b : Nat) : (setL m b).Nodup := List.nodup_range.filter _
theorem bits_of (q : Nat → Bool) : ∀ m : Nat, ∃ b, b < 2 ^ m ∧ ∀ i, i < m → (b / 2 ^ i % 2 == 1) = q i
  | 0 => ⟨0, by simp, fun i hi => by omega⟩
  | m + 1 => by
    obtain ⟨b, hb, h⟩ := bits_of q m
    have hp : 2 ^ (m + 1) = 2 ^ m + 2 ^ m := by rw [Nat.pow_succ]; omega
    by_cases hq : q m = true
    · refine ⟨b + 2 ^ m, by omega, fun i hi => ?_⟩
      by_cases e : i = m
      · subst e
        rw [Nat.add_div_right _ (Nat.pow_pos (by omega)), Nat.div_eq_of_lt hb, hq]
        rfl
      · rw [← h i (by omega)]
        obtain ⟨c, hc⟩ : ∃ c, m = i + 1 + c := ⟨m - (i + 1), by omega⟩
        have : b + 2 ^ m = b + 2 ^ i * (2 * 2 ^ c) := by rw [hc, Nat.pow_add, Nat.pow_succ, Nat.mul_assoc]
        rw [this, Nat.add_mul_div_left _ _ (Nat.pow_pos (by omega)), Nat.add_mul_mod_self_left]
    · refine ⟨b, by omega, fun i hi => ?_⟩
      by_cases e : i = m
      · subst e
        rw [Nat.div_eq_of_lt hb]
        cases hqq : q i with
        | true => exact absurd hqq hq
        | false => rfl
      · exact h i (by omega)
theorem setL_of (q : Nat → Bool) (m : Nat) : ∃ b, b < 2 ^ m ∧ setL m b = (List.range m).filter q := by
  obtain ⟨b, hb, h⟩ := bits_of q m
  exact ⟨b, hb, List.filter_congr (fun i hi => h i (List.mem_range.1 hi))⟩
/-- No two of the duties can be performed by one person. -/
def rivalsB (B : Nat → Nat → Bool) : List Nat → Bool
  | [] => true
  | a :: s => s.all (fun b => !B b a) && rivalsB B s
theorem rivals_pair {B : Nat → Nat → Bool} : ∀ {s : List Nat}, rivalsB B s = true ↔ s.Pairwise (fun a b => B b a = false)
  | [] => by simp [rivalsB]
  | a :: s => by
    unfold rivalsB
    rw [Bool.and_eq_true, rivals_pair, List.pairwise_cons, List.all_eq_true]
    simp
/-- Lists of the same length, compared. -/
def lessL : List Nat → List Nat → Bool
  | a :: s, b :: t => if a = b then lessL s t else decide (a < b)
  | _, _ => false
def keepB (B : Nat → Nat → Bool) (best s : List Nat) : Bool := decide (s.length < best.length) || (s.length == best.length && !lessL s best) || !rivalsB B s
def stepV (B : Nat → Nat → Bool) (m : Nat) (best : List Nat) (b : Nat) : List Nat := if keepB B best (setL m b) = true then best else setL m b
def rivalTo (B : Nat → Nat → Bool) (m n : Nat) : List Nat := (List.range n).foldl (stepV B m) []
theorem rivalTo_next (B : Nat → Nat → Bool) (m n : Nat) : rivalTo B m (n + 1) = stepV B m (rivalTo B m n) n := by unfold rivalTo; rw [List.range_succ, List.foldl_append]; rfl
def rivalL (B : Nat → Nat → Bool) (m : Nat) : List Nat := rivalTo B m (2 ^ m)
theorem rivalTo_ok (B : Nat → Nat → Bool) (m : Nat) : ∀ n, (∀ i ∈ rivalTo B m n, i < m) ∧ (rivalTo B m n).Nodup ∧ rivalsB B (rivalTo B m n) = true ∧ ∀ b, b < n → rivalsB B (setL m b) = true → (setL m b).length ≤ (rivalTo B m n).length
  | 0 => ⟨fun i hi => by simp [rivalTo] at hi, by simp [rivalTo], by simp [rivalTo, rivalsB], fun b hb => by omega⟩
  | n + 1 => by
    obtain ⟨h1, h2, h3, h4⟩ := rivalTo_ok B m n
    rw [rivalTo_next]
    unfold stepV
    by_cases hk : keepB B (rivalTo B m n) (setL m n) = true
    · rw [if_pos hk]
      refine ⟨h1, h2, h3, fun b hb hr => ?_⟩
      by_cases e : b = n
      · subst e
        unfold keepB at hk
        rw [hr] at hk
        simp only [Bool.or_eq_true, Bool.and_eq_true, decide_eq_true_eq, beq_iff_eq, Bool.not_true, Bool.false_eq_true, or_false] at hk
        omega
      · exact h4 b (by omega) hr
    · rw [if_neg hk]
      unfold keepB at hk
      simp only [Bool.or_eq_true, not_or, Bool.and_eq_true, decide_eq_true_eq, Bool.not_eq_true', Bool.not_eq_false] at hk
      refine ⟨setL_lt, setL_nodup _ _, hk.2, fun b hb hr => ?_⟩
      by_cases e : b = n
      · subst e; exact Nat.le_refl _
      · have := h4 b (by omega) hr
        omega
section
variable {B : Nat → Nat → Bool} {m : Nat}
/-- No set of rivals is greater. -/
theorem rival_most {A : List Nat} (hn : A.Nodup) (hm : ∀ i ∈ A, i < m) (hr : ∀ i ∈ A, ∀ j ∈ A, i ≠ j → B i j = false) : A.length ≤ (rivalL B m).length := by
  obtain ⟨b, hb, e⟩ := setL_of (fun i => decide (i ∈ A)) m
  have hs : ∀ i ∈ setL m b, i ∈ A := fun i hi => by rw [e] at hi; exact of_decide_eq_true (List.mem_filter.1 hi).2
  have h1 : rivalsB B (setL m b) = true := by
    rw [rivals_pair]
    refine (setL_nodup m b).imp_of_mem ?_
    intro i j hi hj hij
    exact hr j (hs j hj) i (hs i hi) (fun e => hij e.symm)
  have h2 := (rivalTo_ok B m (2 ^ m)).2.2.2 b hb h1
  have h3 : A.length ≤ (setL m b).length := nodup_sub hn (fun i hi => by rw [e]; exact List.mem_filter.2 ⟨List.mem_range.2 (hm i hi), decide_eq_true hi⟩)
  exact Nat.le_trans h3 h2
theorem rival_ok : (∀ i ∈ rivalL B m, i < m) ∧ (rivalL B m).Nodup ∧ (rivalL B m).Pairwise (fun a b => B b a = false) := by
  obtain ⟨h1, h2, h3, -⟩ := rivalTo_ok B m (2 ^ m)
  exact ⟨h1, h2, rivals_pair.1 h3⟩
end
/-! ### The least cover -/
def coverO (B : Nat → Nat → Bool) (m : Nat) : Option (List Nat × Nat) := (List.range (m + 1)).findSome? (fun most => (searchR B most m []).map (fun w => (w, most)))
theorem first_some {β : Type} {f : Nat → Option β} {n : Nat} {y : β} (h : (List.range n).findSome? f = some y) : ∃ k, k < n ∧ f k = some y ∧ ∀ j, j < k → f j = none := by
  rw [List.findSome?_eq_some_iff] at h
  obtain ⟨l1, k, l2, hr, hk, h1⟩ := h
  have hk2 : (List.range n)[l1.length]? = some k := by rw [hr]; simp
  obtain ⟨hlt, he⟩ := List.getElem?_eq_some_iff.1 hk2
  rw [List.getElem_range] at he
  rw [List.length_range] at hlt
  subst he
  refine ⟨l1.length, hlt, hk, fun j hj => ?_⟩
  have hj2 : (List.range n)[j]? = some j := List.getElem?_range (by omega)
  rw [hr, List.getElem?_append_left hj] at hj2
  exact h1 j (List.mem_of_getElem? hj2)
/-- A least cover: what it is, and that its number is least. -/
theorem cover_some (B : Nat → Nat → Bool) (m : Nat) : ∃ w n, coverO B m = some (w, n) ∧ CovOk B n w ∧ w.length = m ∧ usedP w = n ∧ n ≤ m ∧ ∀ (f : Nat → Nat) (r : Nat), (∀ i, i < m → f i < r) → (∀ i j, j < i → i < m → f i = f j → B i j = true) → n ≤ r := by
  cases h : coverO B m with
  | none =>
    have := (List.findSome?_eq_none_iff.1 h) m (List.mem_range.2 (Nat.lt_succ_self _))
    rw [Option.map_eq_none_iff] at this
    have h2 := search_all (B := B) (most := m) (m := m) (fun i => i) (fun i hi => hi) (fun i j hj _ e => by have : i = j := e; omega)
    rw [this] at h2
    cases h2
  | some p =>
    obtain ⟨w, n⟩ := p
    obtain ⟨k, hk, hf, hl⟩ := first_some h
    obtain ⟨w', hw', e⟩ := Option.map_eq_some_iff.1 hf
    injection e with e1 e2
    subst e1 e2
    obtain ⟨hc, hlen⟩ := search_ok (CovOk.nil B k) hw'
    have hlen : w'.length = m := by simpa using hlen
    have least : ∀ (f : Nat → Nat) (r : Nat), (∀ i, i < m → f i < r) → (∀ i j, j < i → i < m → f i = f j → B i j = true) → k ≤ r := fun f r h1 h2 => by
      rcases Nat.lt_or_ge r k with hlt | hge
      · have h3 := hl r hlt
        rw [Option.map_eq_none_iff] at h3
        have h4 := search_all (B := B) (most := r) (m := m) f h1 h2
        rw [h3] at h4
        cases h4
      · exact hge
    have hu : usedP w' ≤ k := by
      rcases Nat.lt_or_ge k (usedP w') with hlt | hge
      · have := hc.lt _ (hc.all k hlt); omega
      · exact hge
    have hu2 : k ≤ usedP w' := least (fun i => (w'[i]?).getD 0) (usedP w') (fun i hi => by
        obtain ⟨x, hx⟩ : ∃ x, w'[i]? = some x := ⟨_, List.getElem?_eq_getElem (by omega)⟩
        show (w'[i]?).getD 0 < _
        rw [hx]; exact usedP_le x (List.mem_of_getElem? hx)) (fun i j hj hi e => by
        obtain ⟨x, hx⟩ : ∃ x, w'[i]? = some x := ⟨_, List.getElem?_eq_getElem (by omega)⟩
        obtain ⟨y, hy⟩ : ∃ y, w'[j]? = some y := ⟨_, List.getElem?_eq_getElem (by omega)⟩
        have e : (w'[i]?).getD 0 = (w'[j]?).getD 0 := e
        rw [hx, hy] at e
        have e : x = y := e
        subst e
        exact hc.both i j x hj hx hy)
    exact ⟨w', k, rfl, hc, hlen, by omega, by omega, least⟩
section
variable {B : Nat → Nat → Bool} {m : Nat} {w : List Nat} {n : Nat}
/-- Rivals need different persons. -/
theorem rivals_apart (hB : ∀ i j, B i j = B j i) (hc : CovOk B n w) {a b x y : Nat} (ha : w[a]? = some x) (hb : w[b]? = some y) (hab : a ≠ b) (hr : B a b = false) : x ≠ y := by
  intro e
  subst e
  rcases Nat.lt_or_gt_of_ne hab with h | h
  · have := hc.both b a x h hb ha
    rw [hB, hr] at this
    cases this
  · have := hc.both a b x h ha hb
    rw [hr] at this
    cases this
theorem rivals_le (hB : ∀ i j, B i j = B j i) (hc : CovOk B n w) (hl : w.length = m) : (rivalL B m).length ≤ n := by
  obtain ⟨h1, h2, h3⟩ := rival_ok (B := B) (m := m)
  have hlen : ((rivalL B m).map (fun i => (w[i]?).getD 0)).length ≤ (List.range n).length := by
    refine nodup_sub ?_ (fun x hx => ?_)
    · unfold List.Nodup
      rw [List.pairwise_map]
      refine (h3.and h2).imp_of_mem ?_
      intro a b ha hb hab
      obtain ⟨x, hx⟩ : ∃ x, w[a]? = some x := ⟨_, List.getElem?_eq_getElem (by have := h1 a ha; omega)⟩
      obtain ⟨y, hy⟩ : ∃ y, w[b]? = some y := ⟨_, List.getElem?_eq_getElem (by have := h1 b hb; omega)⟩
      show (w[a]?).getD 0 ≠ (w[b]?).getD 0
      rw [hx, hy]
      exact rivals_apart hB hc hx hy hab.2 (by rw [hB]; exact hab.1)
    · obtain ⟨i, hi, rfl⟩ := List.mem_map.1 hx
      obtain ⟨x, hx⟩ : ∃ x, w[i]? = some x := ⟨_, List.getElem?_eq_getElem (by have := h1 i hi; omega)⟩
      rw [hx]
      exact List.mem_range.2 (hc.lt x (List.mem_of_getElem? hx))
  rw [List.length_map, List.length_range] at hlen
  exact hlen
/-- Intervals: the least number of persons is the greatest number of rivals. -/
theorem dilworth (fr en : Nat → Int) (hB : ∀ i j, B i j = B j i) (hf : ∀ i, i < m → fr i < en i) (hBi : ∀ i j, i < m → j < m → i ≠ j → (B i j = false ↔ fr i < en j ∧ fr j < en i))
    (hc : CovOk B n w) (hl : w.length = m) (least : ∀ (f : Nat → Nat) (r : Nat), (∀ i, i < m → f i < r) → (∀ i j, j < i → i < m → f i = f j → B i j = true) → n ≤ r) : n = (rivalL B m).length := by
  have h1 := rivals_le hB hc hl
  obtain ⟨f, f1, f2⟩ := color fr en (rivalL B m).length m (List.range m) (by simp) List.nodup_range (fun i hi => hf i (List.mem_range.1 hi)) (fun A a1 a2 a3 => rival_most a1 (fun i hi => List.mem_range.1 (a2 i hi)) (fun i hi j hj hij => (hBi i j (List.mem_range.1 (a2 i hi)) (List.mem_range.1 (a2 j hj)) hij).2 ⟨a3 i hi j hj, a3 j hj i hi⟩))
  have h2 := least f _ (fun i hi => f1 i (List.mem_range.2 hi)) (fun i j hj hi e => by
    cases hb : B i j with
    | true => rfl
    | false =>
      obtain ⟨o1, o2⟩ := (hBi i j hi (by omega) (by omega)).1 hb
      exact absurd e (f2 i (List.mem_range.2 hi) j (List.mem_range.2 (by omega)) (by omega) o1 o2))
  omega
/-- The persons of a least cover, told once each. -/
theorem seen_len {s : List Nat} (hc : CovOk B n w) (hu : usedP w = n) (hn : s.Nodup) (hs : ∀ x, x ∈ s ↔ x ∈ w) : s.length = n := by
  have h1 : s.length ≤ (List.range n).length := nodup_sub hn (fun x hx => List.mem_range.2 (hc.lt x ((hs x).1 hx)))
  have h2 : (List.range n).length ≤ s.length := nodup_sub List.nodup_range (fun x hx => (hs x).2 (hc.all x (by rw [hu]; exact List.mem_range.1 hx)))
  rw [List.length_range] at h1 h2
  omega
end
end Go.Proofs.Ytfofbnpgjdagkaa
