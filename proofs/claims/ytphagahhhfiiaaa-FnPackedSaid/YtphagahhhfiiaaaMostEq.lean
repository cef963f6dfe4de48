
/- Lock chambers: as many of the shortest ships can be packed as of any selection: plain mathematics. -/
import Derived.Test.YtphagahhhfiiaaaMostMath
import Derived.Test.YtphagahhhfiiaaaLongMath
namespace Go.Proofs.Ytphagahhhfiiaaa
set_option maxRecDepth 100000

def sortedL (l : List Int) : List Int := l.mergeSort (fun x y => decide (x ≤ y))
theorem sum_perm {l l' : List Int} (h : l.Perm l') : ∀ s : List Int, s.length = l.length → ∃ s' : List Int, s'.length = l'.length ∧ (∀ x ∈ s', x ∈ s) ∧ ∀ j, sumIn l' s' j = sumIn l s j := by
  induction h with
  | nil => intro s hs; exact ⟨s, hs, fun x hx => hx, fun j => by simp [sumIn]⟩
  | cons a _ ih =>
    intro s hs
    cases s with
    | nil => simp at hs
    | cons x ss =>
      obtain ⟨s', h1, h2, h3⟩ := ih ss (by simpa using hs)
      refine ⟨x :: s', by simp [h1], fun y hy => ?_, fun j => ?_⟩
      · rcases List.mem_cons.1 hy with rfl | hy
        · simp
        · simp [h2 y hy]
      · show (if x = (j : Int) then a else 0) + sumIn _ s' j = (if x = (j : Int) then a else 0) + sumIn _ ss j
        rw [h3 j]
  | swap a b l =>
    intro s hs
    cases s with
    | nil => simp at hs
    | cons x s =>
      cases s with
      | nil => simp at hs
      | cons y ss =>
        refine ⟨y :: x :: ss, by simpa using hs, fun z hz => ?_, fun j => ?_⟩
        · simp at hz ⊢; rcases hz with h | h | h <;> simp [h]
        · show (if y = (j : Int) then a else 0) + ((if x = (j : Int) then b else 0) + sumIn l ss j) = (if x = (j : Int) then b else 0) + ((if y = (j : Int) then a else 0) + sumIn l ss j)
          omega
  | trans _ _ ih1 ih2 =>
    intro s hs
    obtain ⟨s1, h1, h2, h3⟩ := ih1 s hs
    obtain ⟨s2, k1, k2, k3⟩ := ih2 s1 h1
    exact ⟨s2, k1, fun x hx => h2 x (k2 x hx), fun j => (k3 j).trans (h3 j)⟩
theorem packs_perm {L : Int} {m : Nat} {l l' : List Int} (h : l.Perm l') : PacksIn L m l → PacksIn L m l' := by
  rintro ⟨s, h1, h2, h3⟩
  obtain ⟨s', k1, k2, k3⟩ := sum_perm h s h1
  exact ⟨s', k1, fun x hx => h2 x (k2 x hx), fun j hj => by rw [k3 j]; exact h3 j hj⟩
theorem sumIn_take : ∀ {l s : List Int} {n j : Nat}, (∀ x ∈ l, 0 ≤ x) → sumIn (l.take n) (s.take n) j ≤ sumIn l s j
  | [], s, n, j, _ => by simp [sumIn]
  | a :: l, [], n, j, _ => by cases n <;> simp [sumIn]
  | a :: l, b :: s, 0, j, h => by
    have := sumIn_pos (l := a :: l) (s := b :: s) (j := j) h
    simpa [sumIn] using this
  | a :: l, b :: s, n + 1, j, h => by
    have := sumIn_take (l := l) (s := s) (n := n) (j := j) (fun x hx => h x (by simp [hx]))
    show (if b = (j : Int) then a else 0) + sumIn (l.take n) (s.take n) j ≤ (if b = (j : Int) then a else 0) + sumIn l s j
    omega
theorem packs_take {L : Int} {m : Nat} {l : List Int} (n : Nat) (hn : ∀ x ∈ l, 0 ≤ x) : PacksIn L m l → PacksIn L m (l.take n) := by
  rintro ⟨s, h1, h2, h3⟩
  exact ⟨s.take n, by simp [h1], fun x hx => h2 x (List.mem_of_mem_take hx), fun j hj => Int.le_trans (sumIn_take hn) (h3 j hj)⟩
/-- One list is nowhere above another. -/
def leL : List Int → List Int → Prop
  | [], [] => True
  | a :: l, b :: m => a ≤ b ∧ leL l m
  | _, _ => False
theorem leL_len : ∀ {l m : List Int}, leL l m → l.length = m.length
  | [], [], _ => rfl
  | a :: l, b :: m, h => by simp [leL_len h.2]
  | [], b :: m, h => h.elim
  | a :: l, [], h => h.elim
theorem sumIn_leL : ∀ {l m s : List Int} {j : Nat}, leL l m → sumIn l s j ≤ sumIn m s j
  | [], [], s, j, _ => Int.le_refl _
  | a :: l, b :: m, [], j, _ => by simp [sumIn]
  | a :: l, b :: m, x :: s, j, h => by
    have := sumIn_leL (s := s) (j := j) h.2
    have := h.1
    show (if x = (j : Int) then a else 0) + sumIn l s j ≤ (if x = (j : Int) then b else 0) + sumIn m s j
    split <;> omega
  | [], b :: m, _, _, h => h.elim
  | a :: l, [], _, _, h => h.elim
theorem packs_leL {L : Int} {m : Nat} {l l' : List Int} (h : leL l' l) : PacksIn L m l → PacksIn L m l' := by
  rintro ⟨s, h1, h2, h3⟩
  exact ⟨s, by rw [h1, leL_len h], h2, fun j hj => Int.le_trans (sumIn_leL h) (h3 j hj)⟩
theorem leL_shift : ∀ {s T : List Int} {a : Int}, (a :: T).Pairwise (· ≤ ·) → leL (T.take s.length) s → leL ((a :: T).take s.length) s
  | [], T, a, _, _ => trivial
  | x :: s, [], a, _, h => by simp [leL] at h
  | x :: s, b :: T, a, hp, h => by
    have h' : b ≤ x ∧ leL (T.take s.length) s := h
    have hab : a ≤ b := List.rel_of_pairwise_cons hp (by simp)
    exact ⟨Int.le_trans hab h'.1, leL_shift (List.pairwise_cons.1 hp).2 h'.2⟩
/-- The shortest ones are nowhere above a selection. -/
theorem leL_least {s T : List Int} (h : s.Sublist T) : T.Pairwise (· ≤ ·) → leL (T.take s.length) s := by
  induction h with
  | slnil => intro _; trivial
  | cons a _ ih => intro hp; exact leL_shift hp (ih (List.pairwise_cons.1 hp).2)
  | cons_cons a _ ih => intro hp; exact ⟨Int.le_refl _, ih (List.pairwise_cons.1 hp).2⟩
theorem sortedL_perm (l : List Int) : (sortedL l).Perm l := List.mergeSort_perm _ _
theorem sortedL_up (l : List Int) : (sortedL l).Pairwise (· ≤ ·) := by
  have h := List.pairwise_mergeSort (le := fun x y : Int => decide (x ≤ y)) (fun a b c h1 h2 => decide_eq_true (Int.le_trans (of_decide_eq_true h1) (of_decide_eq_true h2))) (fun a b => by
    rcases Int.le_total a b with h | h
    · simp [h]
    · simp [h]) l
  exact h.imp (fun h => of_decide_eq_true h)
theorem lens_sorted {l : List Int} (h : lensB l = true) : lensB (sortedL l) = true := lensB_part h (by rw [(sortedL_perm l).length_eq]; exact lensB_len h) (fun x hx => (sortedL_perm l).mem_iff.1 hx)
theorem most_eq {k : ChamberD} {l : List Int} (h1 : chamB k = true) (h2 : lensB l = true) : longN k (sortedL l) = mostTo k l (2 ^ l.length) := by
  have hT := lens_sorted h2
  have hlen : (sortedL l).length = l.length := (sortedL_perm l).length_eq
  obtain ⟨a, -⟩ := chamB_true h1
  apply Nat.le_antisymm
  · by_cases h0 : longN k (sortedL l) = 0
    · omega
    · have hp := longN_packs (k := k) (l := sortedL l) (by omega)
      have hp2 := (packO_isSome h1 (lens_take hT _)).1 hp
      obtain ⟨s, hs1, hs2⟩ := List.exists_perm_sublist (List.take_sublist (longN k (sortedL l)) (sortedL l)) (sortedL_perm l)
      obtain ⟨b, hb1, hb2⟩ := sublist_some hs2
      have hps := packs_perm hs1.symm hp2
      rw [← hb2] at hps
      have := mostTo_ge (k := k) hb1 ((packO_isSome h1 (lens_some h2 b)).2 hps)
      rw [hb2, hs1.length_eq, List.length_take] at this
      have := longN_le k (sortedL l)
      omega
  · have he : (packO k []).isSome = true := (packO_isSome h1 rfl).2 (packs_nil (by omega) _)
    obtain ⟨c, hc1, hc2, hc3⟩ := mostTo_is (l := l) he (2 ^ l.length) (Nat.two_pow_pos _)
    rw [← hc3]
    have hps := (packO_isSome h1 (lens_some h2 c)).1 hc2
    obtain ⟨s, hs1, hs2⟩ := List.exists_perm_sublist (someL_sublist l c) (sortedL_perm l).symm
    have hps2 := packs_leL (leL_least hs2 (sortedL_up l)) (packs_perm hs1.symm hps)
    rcases Nat.lt_or_ge (longN k (sortedL l)) (someL l c).length with hlt | hge
    · exfalso
      have hsl := someL_len l c
      have hst := longN_stop (k := k) (l := sortedL l) (by omega)
      have hp3 := packs_take (longN k (sortedL l) + 1) (fun x hx => lens_pos hT x (List.mem_of_mem_take hx)) hps2
      rw [List.take_take, Nat.min_eq_left (by rw [hs1.length_eq]; omega)] at hp3
      rw [(packO_isSome h1 (lens_take hT _)).2 hp3] at hst
      cases hst
    · exact hge
end Go.Proofs.Ytphagahhhfiiaaa
