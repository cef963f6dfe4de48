/- Plain mathematics of FnBands: the surges behind a reading, minute by minute. -/
import Derived.Test.YtbcbbolakjjglaaRevise
import Derived.Test.YtbcbbolakjjglaaNarrow
namespace Go.Proofs.Ytbcbbolakjjglaa
open Go.RowKit

def leB (t : Int) (x : SurgeD) : Bool := decide (x.fr ≤ t)

theorem atK_last (s : List SurgeD) (t : Int) : ∀ k, k ≤ s.length → ∀ z, ((s.take k).filter (leB t)).getLast? = some z → atK s t k = z := by
  intro k
  induction k with
  | zero => intro _ z hz; simp at hz
  | succ k ih =>
    intro hk z hz
    obtain ⟨x, hx⟩ : ∃ x, s[k]? = some x := ⟨_, List.getElem?_eq_getElem (by omega)⟩
    rw [take_snoc' s k x hx, List.filter_append] at hz
    by_cases hle : x.fr ≤ t
    · rw [atK_yes hx hle]
      have e : [x].filter (leB t) = [x] := by simp [leB, hle]
      rw [e, List.getLast?_append] at hz
      simpa using hz
    · rw [atK_no hx hle]
      have e : [x].filter (leB t) = [] := by simp [leB, hle]
      rw [e, List.append_nil] at hz
      exact ih (by omega) z hz
theorem atS_last {s : List SurgeD} {t : Int} {z : SurgeD} (h : (s.filter (leB t)).getLast? = some z) : atS s t = z := by
  have := atK_last s t s.length (Nat.le_refl _) z (by rw [List.take_length]; exact h)
  exact this
theorem atS_eq {s s' : List SurgeD} {t t' : Int} (h : s.filter (leB t) = s'.filter (leB t')) (hne : s.filter (leB t) ≠ []) : atS s t = atS s' t' := by
  obtain ⟨z, hz⟩ : ∃ z, (s.filter (leB t)).getLast? = some z := by
    cases hq : (s.filter (leB t)).getLast? with
    | none => rw [List.getLast?_eq_none_iff] at hq; exact absurd hq hne
    | some z => exact ⟨z, rfl⟩
  rw [atS_last hz, atS_last (h ▸ hz)]

/-- The parts of a valid list at a minute. -/
theorem split_le {s : List SurgeD} {t : Int} (ha : Asc s) (T : Int) (hT : t ≤ T) : s.filter (leB T) = s.filter (leB t) ++ (s.filter (aftB t)).filter (leB T) := by
  have key : ∀ (l : List SurgeD), l.Pairwise (fun x y => x.fr < y.fr) → l.filter (leB T) = l.filter (leB t) ++ (l.filter (aftB t)).filter (leB T) := by
    intro l
    induction l with
    | nil => intro _; rfl
    | cons x l ih =>
      intro hp
      rw [List.pairwise_cons] at hp
      have := ih hp.2
      by_cases h1 : x.fr ≤ t
      · have e1 : leB T x = true := decide_eq_true (by omega)
        have e2 : leB t x = true := decide_eq_true h1
        have e3 : aftB t x = false := decide_eq_false (by omega)
        rw [List.filter_cons_of_pos e1, List.filter_cons_of_pos e2, List.filter_cons_of_neg (by rw [e3]; simp), this]
        rfl
      · have e2 : leB t x = false := decide_eq_false h1
        have e3 : aftB t x = true := decide_eq_true (by omega)
        have e4 : l.filter (leB t) = [] := by
          rw [List.filter_eq_nil_iff]
          intro y hy
          have := hp.1 y hy
          simp [leB]
          omega
        rw [e4, List.nil_append] at this
        rw [show (x :: l).filter (leB t) = [] by rw [List.filter_cons_of_neg (by rw [e2]; simp), e4], List.nil_append, List.filter_cons_of_pos e3]
        by_cases h2 : x.fr ≤ T
        · have e5 : leB T x = true := decide_eq_true h2
          rw [List.filter_cons_of_pos e5, List.filter_cons_of_pos e5, this]
        · have e5 : leB T x = false := decide_eq_false h2
          rw [List.filter_cons_of_neg (by rw [e5]; simp), List.filter_cons_of_neg (by rw [e5]; simp), this]
  refine key s ?_
  rw [List.pairwise_iff_getElem]
  intro i j hi hj hij
  exact ha i j _ _ hij (List.getElem?_eq_getElem hi) (List.getElem?_eq_getElem hj)
theorem asc_pair {s : List SurgeD} : Asc s ↔ s.Pairwise (fun x y => x.fr < y.fr) := by
  constructor
  · intro ha
    rw [List.pairwise_iff_getElem]
    intro i j hi hj hij
    exact ha i j _ _ hij (List.getElem?_eq_getElem hi) (List.getElem?_eq_getElem hj)
  · intro hp i j x y hij hx hy
    rw [List.pairwise_iff_getElem] at hp
    obtain ⟨hi, rfl⟩ := List.getElem?_eq_some_iff.1 hx
    obtain ⟨hj, rfl⟩ := List.getElem?_eq_some_iff.1 hy
    exact hp i j hi hj hij

theorem first_of {s : List SurgeD} (ha : Asc s) (hs : ∀ x ∈ s, surgeB x = true) : FirstFc s s.length := by
  intro k hk
  obtain ⟨x, hx⟩ : ∃ x, s[k]? = some x := ⟨_, List.getElem?_eq_getElem hk⟩
  have hv := hs x (List.mem_of_getElem? hx)
  cases k with
  | zero => exact okB_zero hx hv
  | succ k =>
    obtain ⟨y, hy⟩ : ∃ y, s[k]? = some y := ⟨_, List.getElem?_eq_getElem (by omega)⟩
    rw [okB_succ hx hv hy]
    exact decide_eq_true (ha k (k + 1) y x (by omega) hy hx)
theorem all_of {s : List SurgeD} (h : FirstFc s s.length) : ∀ x ∈ s, surgeB x = true := by
  intro x hx
  obtain ⟨k, hk⟩ := List.getElem?_of_mem hx
  exact okB_valid (h k (List.getElem?_eq_some_iff.1 hk).1) hk

section
variable {m : Int} {l : List PartD} {s : List SurgeD} {t cut hi : Int}

/-- A reading within the surge at t, of a valid forecast with few surges: what is behind it is valid. -/
theorem rev_valid (hf : fcB m l s = true) (h5 : s.length ≤ 5) (t0 : 0 ≤ t) (t1 : t ≤ 2880) (hy : (atS s t).lo ≤ cut ∧ cut ≤ (atS s t).hi) (hhi : (atS s t).hi ≤ hi) : fcB m l (revL s t cut hi) = true ∧ readS (atS s t) t cut hi = ⟨t, cut, (atS s t).hi⟩ := by
  obtain ⟨ht, s0, s6, hh, hall⟩ := fcB_true hf
  have s0 : 0 < s.length := s0
  have ha := asc_of hall
  have hx0 := headB_le hh t0
  have hx := surgeB_true (atS_ok (t := t) s0 hall)
  have er : readS (atS s t) t cut hi = ⟨t, cut, (atS s t).hi⟩ := by
    unfold readS
    rw [Int.max_eq_right (by omega), Int.min_eq_left (by omega)]
  obtain ⟨PA, PB, e1, e2, e3, hPA, hPB⟩ := cutL_parts s0 ha hx0 cut hi
  rw [er] at e2
  have hsub : ∀ y, y ∈ s.filter (befB t) ∨ y ∈ s.filter (aftB t) → surgeB y = true := fun y hy => by
    rcases hy with h | h <;> exact all_of hall y (List.mem_filter.1 h).1
  have hp := asc_pair.1 ha
  refine ⟨fcB_mk ht ?_ ?_ ?_ (first_of ?_ ?_), er⟩
  · rw [e2, List.length_append, List.length_cons]; omega
  · have := List.length_filter_le (befB t) s
    have hb : (s.filter (befB t)).length + (s.filter (aftB t)).length ≤ s.length := by
      have key : ∀ q : List SurgeD, (q.filter (befB t)).length + (q.filter (aftB t)).length ≤ q.length := by
        intro q
        induction q with
        | nil => simp
        | cons z q ih =>
          rw [List.filter_cons, List.filter_cons]
          by_cases h1 : z.fr < t
          · have b1 : befB t z = true := decide_eq_true h1
            have b2 : aftB t z = false := decide_eq_false (by omega)
            simp [b1, b2]; omega
          · have b1 : befB t z = false := decide_eq_false h1
            by_cases h2 : t < z.fr
            · have b2 : aftB t z = true := decide_eq_true h2
              simp [b1, b2]; omega
            · have b2 : aftB t z = false := decide_eq_false h2
              simp [b1, b2]; omega
      exact key s
    unfold revL
    simp only [List.length_append, List.length_cons]
    omega
  · obtain ⟨z, hz⟩ : ∃ z, s[0]? = some z := ⟨_, List.getElem?_eq_getElem s0⟩
    have hz0 : z.fr = 0 := by rw [headB_of hz] at hh; exact of_decide_eq_true hh
    cases hs : s with
    | nil => rw [hs] at s0; simp at s0
    | cons z' q =>
      rw [hs] at hz
      simp at hz
      subst hz
      by_cases h1 : (0 : Int) < t
      · have b1 : befB t z' = true := decide_eq_true (by omega)
        have : (revL (z' :: q) t cut hi)[0]? = some z' := by unfold revL; rw [List.filter_cons_of_pos b1]; rfl
        rw [headB_of this]
        exact decide_eq_true hz0
      · have : s.filter (befB t) = [] := by
          rw [List.filter_eq_nil_iff]
          intro y hy
          have := (surgeB_true (all_of hall y hy)).1
          simp [befB]
          omega
        have h2 : (revL (z' :: q) t cut hi)[0]? = some (readS (atS (z' :: q) t) t cut hi) := by unfold revL; rw [← hs, this]; rfl
        rw [headB_of h2]
        refine decide_eq_true ?_
        show t = 0
        omega
  · rw [asc_pair]
    unfold revL
    rw [List.pairwise_append, List.pairwise_cons]
    refine ⟨hp.filter _, ⟨fun y hy => ?_, hp.filter _⟩, fun a ha b hb => ?_⟩
    · exact of_decide_eq_true (List.mem_filter.1 hy).2
    · have a1 : a.fr < t := of_decide_eq_true (List.mem_filter.1 ha).2
      rw [List.mem_cons] at hb
      rcases hb with rfl | hb
      · exact a1
      · have b1 : t < b.fr := of_decide_eq_true (List.mem_filter.1 hb).2
        omega
  · intro y hy'
    unfold revL at hy'
    rw [List.mem_append, List.mem_cons] at hy'
    rcases hy' with h | rfl | h
    · exact hsub y (.inl h)
    · rw [er]
      exact surgeB_mk ⟨t0, t1, by show -500 ≤ cut; omega, hy.2, hx.2.2.2.2⟩
    · exact hsub y (.inr h)

/-- Before t nothing has changed; from t on either nothing, or the surge at t has been narrowed. -/
theorem rev_at (hf : fcB m l s = true) (T : Int) (hT0 : 0 ≤ T) :
    (T < t → atS (revL s t cut hi) T = atS s T) ∧ (t ≤ T → atS (revL s t cut hi) T = atS s T ∨ (atS (revL s t cut hi) T = readS (atS s t) t cut hi ∧ atS s T = atS s t)) ∧ atS (revL s t cut hi) t = readS (atS s t) t cut hi := by
  obtain ⟨ht, s0, s6, hh, hall⟩ := fcB_true hf
  have s0 : 0 < s.length := s0
  have ha := asc_of hall
  have bef : ∀ U, t ≤ U → (s.filter (befB t)).filter (leB U) = s.filter (befB t) := fun U hU => by
    rw [List.filter_eq_self]
    intro y hy
    have : y.fr < t := of_decide_eq_true (List.mem_filter.1 hy).2
    exact decide_eq_true (by omega)
  have aft : ∀ U, U ≤ t → (s.filter (aftB t)).filter (leB U) = [] := fun U hU => by
    rw [List.filter_eq_nil_iff]
    intro y hy
    have : t < y.fr := of_decide_eq_true (List.mem_filter.1 hy).2
    simp [leB]
    omega
  have hne : ∀ U, 0 ≤ U → s.filter (leB U) ≠ [] := fun U hU e => by
    obtain ⟨z, hz⟩ : ∃ z, s[0]? = some z := ⟨_, List.getElem?_eq_getElem s0⟩
    rw [List.filter_eq_nil_iff] at e
    have h1 := headB_le hh hU z hz
    exact e z (List.mem_of_getElem? hz) (decide_eq_true h1)
  have fr : (readS (atS s t) t cut hi).fr = t := rfl
  refine ⟨fun h => ?_, fun h => ?_, ?_⟩
  · refine (atS_eq ?_ (hne T hT0)).symm
    unfold revL
    rw [List.filter_append, List.filter_cons_of_neg (by simp [leB, fr]; omega), aft T (by omega), List.append_nil, List.filter_filter]
    apply List.filter_congr
    intro y _
    simp only [leB, befB]
    by_cases h1 : y.fr ≤ T
    · simp [h1]; omega
    · simp [h1]
  · have eR : (revL s t cut hi).filter (leB T) = s.filter (befB t) ++ readS (atS s t) t cut hi :: (s.filter (aftB t)).filter (leB T) := by
      unfold revL
      rw [List.filter_append, List.filter_cons_of_pos (by simp [leB, fr]; omega), bef T h]
    have eS := split_le (t := t) ha T h
    cases hq : (s.filter (aftB t)).filter (leB T) with
    | nil =>
      right
      rw [hq] at eR eS
      refine ⟨atS_last (by rw [eR]; simp), ?_⟩
      rw [List.append_nil] at eS
      exact atS_eq eS (hne T hT0)
    | cons z q =>
      left
      rw [hq] at eR eS
      obtain ⟨e, he⟩ : ∃ e, (z :: q).getLast? = some e := ⟨_, List.getLast?_eq_some_getLast (by simp)⟩
      rw [atS_last (z := e) (by rw [eR, List.getLast?_append, List.getLast?_cons_cons, he]; rfl), atS_last (z := e) (by rw [eS, List.getLast?_append, he]; rfl)]
  · have eR : (revL s t cut hi).filter (leB t) = s.filter (befB t) ++ [readS (atS s t) t cut hi] := by
      unfold revL
      rw [List.filter_append, List.filter_cons_of_pos (by simp [leB, fr]), bef t (Int.le_refl _), aft t (Int.le_refl _)]
    exact atS_last (by rw [eR]; simp)
end

end Go.Proofs.Ytbcbbolakjjglaa
