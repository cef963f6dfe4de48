/- Plain mathematics of a reading: the list of surges behind it, in the order of the program and of the model. -/
import Derived.Test.YtbcbbolakjjglaaCutAt
namespace Go.Proofs.Ytbcbbolakjjglaa
open Go.RowKit

/-- The begins ascend. -/
def Asc (s : List SurgeD) : Prop := ∀ (i j : Nat) (x y : SurgeD), i < j → s[i]? = some x → s[j]? = some y → x.fr < y.fr
theorem asc_of {s : List SurgeD} (h : FirstFc s s.length) : Asc s := by
  have step : ∀ k x y, s[k]? = some x → s[k + 1]? = some y → x.fr < y.fr := by
    intro k x y hx hy
    have hk := h (k + 1) (List.getElem?_eq_some_iff.1 hy).1
    have := okB_succ hy (okB_valid hk hy) hx
    rw [this] at hk
    exact of_decide_eq_true hk
  intro i j
  induction j with
  | zero => intro x y hij; omega
  | succ j ih =>
    intro x y hij hx hy
    have hj : j < s.length := by have := (List.getElem?_eq_some_iff.1 hy).1; omega
    obtain ⟨z, hz⟩ : ∃ z, s[j]? = some z := ⟨_, List.getElem?_eq_getElem hj⟩
    have h2 := step j z y hz hy
    by_cases e : i = j
    · subst e
      rw [hx] at hz
      injection hz with hz
      subst hz
      exact h2
    · have := ih x z (by omega) hx hz
      omega

theorem lastLe_facts {s : List SurgeD} {t : Int} (h0 : ∀ x, s[0]? = some x → x.fr ≤ t) : ∀ k, k ≤ s.length → (∀ x, s[lastLe s t k]? = some x → x.fr ≤ t) ∧ (∀ j x, lastLe s t k < j → j < k → s[j]? = some x → t < x.fr) := by
  intro k
  induction k with
  | zero => intro _; exact ⟨h0, fun j x h1 h2 => absurd h2 (by omega)⟩
  | succ k ih =>
    intro hk
    obtain ⟨z, hz⟩ : ∃ z, s[k]? = some z := ⟨_, List.getElem?_eq_getElem (by omega)⟩
    by_cases hle : z.fr ≤ t
    · rw [lastLe_yes hz hle]
      refine ⟨fun x hx => ?_, fun j x h1 h2 => absurd h2 (by omega)⟩
      rw [hz] at hx
      injection hx with hx
      subst hx
      exact hle
    · rw [lastLe_no hz hle]
      obtain ⟨a, b⟩ := ih (by omega)
      refine ⟨a, fun j x h1 h2 hx => ?_⟩
      by_cases e : j = k
      · subst e
        rw [hz] at hx
        injection hx with hx
        subst hx
        omega
      · exact b j x h1 (by omega) hx

theorem filter_split {α : Type} (p : α → Bool) (l : List α) (n : Nat) (h1 : ∀ j x, j < n → l[j]? = some x → p x = true) (h2 : ∀ j x, n ≤ j → l[j]? = some x → p x = false) : l.filter p = l.take n := by
  have e : l = l.take n ++ l.drop n := (List.take_append_drop n l).symm
  have a : (l.take n).filter p = l.take n := by
    rw [List.filter_eq_self]
    intro x hx
    obtain ⟨j, hj⟩ := List.getElem?_of_mem hx
    rw [List.getElem?_take] at hj
    split at hj
    · exact h1 j x (by assumption) hj
    · cases hj
  have b : (l.drop n).filter p = [] := by
    rw [List.filter_eq_nil_iff]
    intro x hx
    obtain ⟨j, hj⟩ := List.getElem?_of_mem hx
    rw [List.getElem?_drop] at hj
    simp [h2 (n + j) x (by omega) hj]
  conv => lhs; rw [e]
  rw [List.filter_append, a, b, List.append_nil]
theorem filter_split' {α : Type} (p : α → Bool) (l : List α) (n : Nat) (h1 : ∀ j x, j < n → l[j]? = some x → p x = false) (h2 : ∀ j x, n ≤ j → l[j]? = some x → p x = true) : l.filter p = l.drop n := by
  have e : l = l.take n ++ l.drop n := (List.take_append_drop n l).symm
  have a : (l.take n).filter p = [] := by
    rw [List.filter_eq_nil_iff]
    intro x hx
    obtain ⟨j, hj⟩ := List.getElem?_of_mem hx
    rw [List.getElem?_take] at hj
    split at hj
    · simp [h1 j x (by assumption) hj]
    · cases hj
  have b : (l.drop n).filter p = l.drop n := by
    rw [List.filter_eq_self]
    intro x hx
    obtain ⟨j, hj⟩ := List.getElem?_of_mem hx
    rw [List.getElem?_drop] at hj
    exact h2 (n + j) x (by omega) hj
  conv => lhs; rw [e]
  rw [List.filter_append, a, b, List.nil_append]

/-- The surge at t behind the reading. -/
def readS (x : SurgeD) (t lo hi : Int) : SurgeD := ⟨t, max x.lo lo, min x.hi hi⟩
def befB (t : Int) (x : SurgeD) : Bool := decide (x.fr < t)
def aftB (t : Int) (x : SurgeD) : Bool := decide (t < x.fr)
def revL (s : List SurgeD) (t lo hi : Int) : List SurgeD := s.filter (befB t) ++ readS (atS s t) t lo hi :: s.filter (aftB t)

/-- Where the surge that begins at t stands in the list of the program. -/
def cutAt (s : List SurgeD) (t : Int) : Nat := if (atS s t).fr = t then lastLe s t s.length else lastLe s t s.length + 1

theorem rev_facts {s : List SurgeD} {t : Int} (h0 : 0 < s.length) (ha : Asc s) (hx0 : ∀ x, s[0]? = some x → x.fr ≤ t) :
    (atS s t).fr ≤ t ∧ s.filter (befB t) = s.take (cutAt s t) ∧ s.filter (aftB t) = s.drop (lastLe s t s.length + 1) := by
  obtain ⟨f1, f2⟩ := lastLe_facts hx0 s.length (Nat.le_refl _)
  have hx := atS_of (s := s) (t := t) h0
  have hle := f1 _ hx
  have below : ∀ j y, j < lastLe s t s.length → s[j]? = some y → y.fr < (atS s t).fr := fun j y hj hy => ha j _ y _ hj hy hx
  refine ⟨hle, ?_, ?_⟩
  · unfold cutAt
    split
    · rename_i e
      refine filter_split _ _ _ (fun j y hj hy => ?_) (fun j y hj hy => ?_)
      · have := below j y hj hy
        exact decide_eq_true (by omega)
      · refine decide_eq_false ?_
        by_cases ej : j = lastLe s t s.length
        · subst ej; rw [hx] at hy; injection hy with hy; subst hy; omega
        · have := f2 j y (by omega) (List.getElem?_eq_some_iff.1 hy).1 hy
          omega
    · rename_i e
      refine filter_split _ _ _ (fun j y hj hy => ?_) (fun j y hj hy => ?_)
      · refine decide_eq_true ?_
        by_cases ej : j = lastLe s t s.length
        · subst ej; rw [hx] at hy; injection hy with hy; subst hy; omega
        · have := below j y (by omega) hy
          omega
      · have := f2 j y (by omega) (List.getElem?_eq_some_iff.1 hy).1 hy
        exact decide_eq_false (by omega)
  · refine filter_split' _ _ _ (fun j y hj hy => ?_) (fun j y hj hy => ?_)
    · refine decide_eq_false ?_
      by_cases ej : j = lastLe s t s.length
      · subst ej; rw [hx] at hy; injection hy with hy; subst hy; omega
      · have := below j y (by omega) hy
        omega
    · have := f2 j y (by omega) (List.getElem?_eq_some_iff.1 hy).1 hy
      exact decide_eq_true (by omega)

/-- The list of the program: the surge at its place stands alone between what is before and what is behind. -/
theorem cutL_parts {s : List SurgeD} {t : Int} (h0 : 0 < s.length) (ha : Asc s) (hx0 : ∀ x, s[0]? = some x → x.fr ≤ t) (lo hi : Int) :
    ∃ A B, cutL s t = A ++ (⟨t, (atS s t).lo, (atS s t).hi⟩ : SurgeD) :: B ∧ revL s t lo hi = A ++ readS (atS s t) t lo hi :: B ∧ A.length = cutAt s t ∧ (∀ y ∈ A, y.fr < t) ∧ (∀ y ∈ B, t < y.fr) := by
  obtain ⟨hle, e1, e2⟩ := rev_facts h0 ha hx0
  have hx := atS_of (s := s) (t := t) h0
  have hK := lastLe_lt (s := s) (t := t) h0 _ (Nat.le_refl _)
  have bA : ∀ y ∈ s.take (cutAt s t), y.fr < t := fun y hy => by rw [← e1] at hy; exact of_decide_eq_true (List.mem_filter.1 hy).2
  have bB : ∀ y ∈ s.drop (lastLe s t s.length + 1), t < y.fr := fun y hy => by rw [← e2] at hy; exact of_decide_eq_true (List.mem_filter.1 hy).2
  refine ⟨s.take (cutAt s t), s.drop (lastLe s t s.length + 1), ?_, by unfold revL; rw [e1, e2], ?_, bA, bB⟩
  · by_cases e : (atS s t).fr = t
    · rw [cutL_same e, show cutAt s t = lastLe s t s.length from if_pos e]
      conv => lhs; rw [← List.take_append_drop (lastLe s t s.length) s]
      rw [List.drop_eq_getElem_cons hK]
      have : s[lastLe s t s.length] = ⟨t, (atS s t).lo, (atS s t).hi⟩ := by
        have h := List.getElem?_eq_some_iff.1 hx
        obtain ⟨_, h⟩ := h
        rw [h]
        cases hq : atS s t with
        | mk a b c => rw [hq] at e; simp at e; rw [← e]
      rw [this]
    · rw [cutL_new e, show cutAt s t = lastLe s t s.length + 1 from if_neg e]
      rfl
  · rw [List.length_take]
    have : cutAt s t ≤ s.length := by unfold cutAt; split <;> omega
    omega

theorem lastLe_split (A B : List SurgeD) (x : SurgeD) (t : Int) (hx : x.fr ≤ t) (hB : ∀ y ∈ B, t < y.fr) : ∀ k, k ≤ B.length → lastLe (A ++ x :: B) t (A.length + 1 + k) = A.length := by
  intro k
  induction k with
  | zero =>
    intro _
    exact lastLe_yes (x := x) (by simp) hx
  | succ k ih =>
    intro hk
    have hy : (A ++ x :: B)[A.length + 1 + k]? = some B[k] := by
      rw [List.getElem?_append_right (by omega), show A.length + 1 + k - A.length = k + 1 by omega, List.getElem?_cons_succ, List.getElem?_eq_getElem (by omega)]
    rw [show A.length + 1 + (k + 1) = (A.length + 1 + k) + 1 by omega, lastLe_no hy (by have := hB B[k] (List.getElem_mem _); omega)]
    exact ih (by omega)
theorem lastLe_here (A B : List SurgeD) (x : SurgeD) (t : Int) (hx : x.fr ≤ t) (hB : ∀ y ∈ B, t < y.fr) : lastLe (A ++ x :: B) t (A ++ x :: B).length = A.length := by
  have := lastLe_split A B x t hx hB B.length (Nat.le_refl _)
  rw [show (A ++ x :: B).length = A.length + 1 + B.length by simp; omega]
  exact this

end Go.Proofs.Ytbcbbolakjjglaa
