
/- Lock chambers: the most, the greedy and the least number together: plain mathematics. -/
import Derived.Test.YtphagahhhfiiaaaMostMath
import Derived.Test.YtphagahhhfiiaaaLeastDp
import Derived.Test.YtphagahhhfiiaaaLongMath
namespace Go.Proofs.Ytphagahhhfiiaaa
set_option maxRecDepth 100000

theorem sumIn_app : ∀ {l1 l2 s1 s2 : List Int} {j : Nat}, s1.length = l1.length → sumIn (l1 ++ l2) (s1 ++ s2) j = sumIn l1 s1 j + sumIn l2 s2 j
  | [], l2, [], s2, j, _ => by simp [sumIn]
  | a :: l1, l2, b :: s1, s2, j, h => by
    have := sumIn_app (l1 := l1) (l2 := l2) (s1 := s1) (s2 := s2) (j := j) (by simpa using h)
    show (if b = (j : Int) then a else 0) + sumIn (l1 ++ l2) (s1 ++ s2) j = (if b = (j : Int) then a else 0) + sumIn l1 s1 j + sumIn l2 s2 j
    omega
  | [], l2, _ :: _, s2, j, h => by simp at h
  | a :: l1, l2, [], s2, j, h => by simp at h
theorem packs_app {L : Int} {m1 m2 : Nat} {l1 l2 : List Int} (h1 : PacksIn L m1 l1) (h2 : PacksIn L m2 l2) : PacksIn L (m1 + m2) (l1 ++ l2) := by
  obtain ⟨s1, a1, a2, a3⟩ := h1
  obtain ⟨s2, b1, b2, b3⟩ := h2
  refine ⟨s1 ++ s2.map (· + (m1 : Int)), by simp [a1, b1], fun x hx => ?_, fun j hj => ?_⟩
  · rcases List.mem_append.1 hx with h | h
    · have := a2 x h; omega
    · obtain ⟨y, hy, rfl⟩ := List.mem_map.1 h
      have := b2 y hy; omega
  · rw [sumIn_app a1]
    by_cases e : j < m1
    · rw [sumIn_far (l := l2) (fun x hx => by
        obtain ⟨y, hy, rfl⟩ := List.mem_map.1 hx
        have := b2 y hy
        omega)]
      have := a3 j e
      omega
    · obtain ⟨i, rfl⟩ : ∃ i, j = i + m1 := ⟨j - m1, by omega⟩
      rw [sumIn_up, sumIn_far (l := l1) (fun x hx => by have := a2 x hx; omega)]
      have := b3 i (by omega)
      omega
theorem shortB_drop' {k : ChamberD} {l : List Int} (n : Nat) (h : shortB k l = true) : shortB k (l.drop n) = true := by
  unfold shortB at h ⊢
  rw [List.all_eq_true] at h ⊢
  exact fun y hy => h y (List.mem_of_mem_drop hy)
section
variable {k : ChamberD} {l : List Int} (h1 : chamB k = true) (h2 : lensB l = true)
include h1
theorem longN_pos {r : List Int} (h2 : lensB r = true) (h3 : shortB k r = true) (hr : r ≠ []) : 0 < longN k r := by
  cases r with
  | nil => exact absurd rfl hr
  | cons x r =>
    rcases Nat.eq_zero_or_pos (longN k (x :: r)) with h | h
    · have h4 := (longN_zero h1 h2).1 h
      unfold shortB at h3
      rw [List.all_eq_true] at h3
      have := of_decide_eq_true (h3 x (by simp))
      omega
    · exact h
/-- The greedy lockings are enough. -/
theorem greedy_packs : ∀ (f : Nat) {r : List Int}, lensB r = true → shortB k r = true → r.length ≤ f → PacksIn k.length ((prefF k f r).length * k.lanes.toNat) r
  | 0, r, _, _, hf => by
    have : r = [] := List.eq_nil_of_length_eq_zero (by omega)
    subst this
    obtain ⟨a, -⟩ := chamB_true h1
    exact packs_nil (by omega) _
  | f + 1, r, h2, h3, hf => by
    by_cases hr : r = []
    · subst hr
      obtain ⟨a, -⟩ := chamB_true h1
      exact packs_nil (by omega) _
    · have hp := longN_pos h1 h2 h3 hr
      have ih := greedy_packs f (r := r.drop (longN k r)) (lens_drop h2 _) (shortB_drop' _ h3) (by rw [List.length_drop]; omega)
      have ht := (packO_isSome h1 (lens_take h2 _)).1 (longN_packs hp)
      rw [prefF_go hr, List.length_cons, Nat.add_mul, Nat.one_mul, Nat.add_comm]
      have := packs_app ht ih
      rwa [List.take_append_drop] at this
include h2
omit h2 in
theorem ok_most : (packO k l).isSome = decide (mostTo k l (2 ^ l.length) = l.length) := by
  have hp := Nat.two_pow_pos l.length
  cases hk : (packO k l).isSome with
  | true =>
    have := mostTo_ge (k := k) (l := l) (b := 2 ^ l.length) (c := 2 ^ l.length - 1) (by omega) (by rw [someL_all]; exact hk)
    rw [someL_all] at this
    exact (decide_eq_true (Nat.le_antisymm (mostTo_le k l _) this)).symm
  | false =>
    refine (decide_eq_false fun e => ?_).symm
    obtain ⟨a, -⟩ := chamB_true h1
    have he : (packO k []).isSome = true := (packO_isSome h1 rfl).2 (packs_nil (by omega) _)
    obtain ⟨c, c1, c2, c3⟩ := mostTo_is (l := l) he (2 ^ l.length) hp
    have := (someL_sublist l c).eq_of_length (by rw [c3, e])
    rw [this, hk] at c2
    cases c2
/-- So many lockings take so many ships. -/
theorem lots_most : ∀ (n b : Nat), b < 2 ^ l.length → PacksIn k.length (n * k.lanes.toNat) (someL l b) → (someL l b).length ≤ n * mostTo k l (2 ^ l.length)
  | 0, b, _, h => by
    rw [Nat.zero_mul] at h
    rw [packs_zero h]
    simp
  | n + 1, b, hb, h => by
    rw [Nat.add_mul, Nat.one_mul] at h
    obtain ⟨p, q1, q2, q3⟩ := packs_split (lens_pos h2) hb h
    have hpb := (within q1).2.2
    have i1 := lots_most n (b - p) (by omega) q2
    have i2 := mostTo_ge (k := k) (l := l) (b := 2 ^ l.length) (c := p) (by omega) ((packO_isSome h1 (lens_some h2 p)).2 q3)
    have := someL_count (l := l) q1
    rw [Nat.add_mul, Nat.one_mul]
    omega
variable (h3 : shortB k l = true)
include h3
theorem least_most : l.length ≤ leastN k l * mostTo k l (2 ^ l.length) := by
  have hz := leastN_short h1 h2 h3
  have hl := (lots_iff h1 h2 _).1 (leastN_lots hz)
  have := lots_most h1 h2 (leastN k l) (2 ^ l.length - 1) (by have := Nat.two_pow_pos l.length; omega) (by rw [someL_all]; exact hl)
  rwa [someL_all] at this
theorem least_greedy : leastN k l ≤ (prefL k l).length := by
  have e : prefL k l = prefF k l.length l := by unfold prefL fitsB; rw [h1, h2, h3]; rfl
  rw [e]
  exact leastN_le_of ((lots_iff h1 h2 _).2 (greedy_packs h1 l.length h2 h3 (Nat.le_refl _)))
theorem least_one : decide (leastN k l ≤ 1) = (packO k l).isSome := by
  obtain ⟨a, -⟩ := chamB_true h1
  have hz := leastN_short h1 h2 h3
  cases hk : (packO k l).isSome with
  | true =>
    have hp := (packO_isSome h1 h2).1 hk
    exact decide_eq_true (leastN_le_of ((lots_iff h1 h2 1).2 (by rw [Nat.one_mul]; exact hp)))
  | false =>
    refine decide_eq_false fun e => ?_
    have hl := (lots_iff h1 h2 _).1 (leastN_lots hz)
    have hm : leastN k l * k.lanes.toNat ≤ k.lanes.toNat := by have := Nat.mul_le_mul_right k.lanes.toNat e; rwa [Nat.one_mul] at this
    rw [(packO_isSome h1 h2).2 (packs_mono (by omega) hm hl)] at hk
    cases hk
theorem leastI_some : leastI k l = ((leastN k l : Nat) : Int) := if_pos ⟨h1, h2, leastN_short h1 h2 h3⟩
end
/-- The lockings of the first ships have been looked at. -/
def SumTo (k : ChamberD) (l : List Int) (i S : Nat) : Prop := S ≤ l.length ∧ (prefL k l).drop i = prefF k l.length (l.drop S)
theorem SumTo.zero {k : ChamberD} {l : List Int} (h : fitsB k l = true) : SumTo k l 0 0 := ⟨Nat.zero_le _, by unfold prefL; rw [if_pos h]; rfl⟩
theorem SumTo.next {k : ChamberD} {l : List Int} {i S : Nat} {n : Int} (h1 : chamB k = true) (h2 : lensB l = true) (h3 : shortB k l = true) (h : SumTo k l i S) (hn : (prefL k l)[i]? = some n) :
    n = ((longN k (l.drop S) : Nat) : Int) ∧ 1 ≤ n ∧ S + longN k (l.drop S) ≤ l.length ∧ S < l.length ∧ (packO k ((l.drop S).take (longN k (l.drop S)))).isSome = true ∧ SumTo k l (i + 1) (S + longN k (l.drop S)) := by
  obtain ⟨hS, hd⟩ := h
  have hi := (List.getElem?_eq_some_iff.1 hn).1
  rw [List.drop_eq_getElem_cons hi, (List.getElem?_eq_some_iff.1 hn).2] at hd
  have hne : l.drop S ≠ [] := fun e => by
    rw [e] at hd
    have : prefF k l.length [] = [] := by cases l.length <;> rfl
    rw [this] at hd; cases hd
  have hSl : S < l.length := by
    rcases Nat.lt_or_ge S l.length with h | h
    · exact h
    · exact absurd (List.drop_eq_nil_of_le h) hne
  obtain ⟨f, hf⟩ : ∃ f, l.length = f + 1 := ⟨l.length - 1, by omega⟩
  rw [hf, prefF_go hne] at hd
  injection hd with e1 e2
  have hp := longN_pos h1 (lens_drop h2 S) (shortB_drop' S h3) hne
  have hle := longN_le k (l.drop S)
  rw [List.length_drop] at hle
  refine ⟨e1, by rw [e1]; omega, by omega, hSl, longN_packs hp, by omega, ?_⟩
  rw [e2, List.drop_drop]
  exact prefF_more h1 (lens_drop h2 _) (shortB_drop' _ h3) (by rw [List.length_drop]; omega) (by rw [List.length_drop]; omega)
theorem SumTo.all {k : ChamberD} {l : List Int} {S : Nat} (h : SumTo k l (prefL k l).length S) : S = l.length := by
  obtain ⟨hS, hd⟩ := h
  rw [List.drop_length] at hd
  by_cases hne : l.drop S = []
  · have := congrArg List.length hne
    rw [List.length_drop] at this
    simp at this
    omega
  · obtain ⟨f, hf⟩ : ∃ f, l.length = f + 1 := ⟨l.length - 1, by
      have : l.length ≠ 0 := fun e => hne (by rw [List.eq_nil_of_length_eq_zero e]; simp)
      omega⟩
    rw [hf, prefF_go hne] at hd
    cases hd
theorem time_mono {k : ChamberD} {a b : Nat} (h1 : chamB k = true) (hab : a ≤ b) (hb : b ≤ 20) : timeI k (a : Int) ≤ timeI k (b : Int) := by
  obtain ⟨-, -, -, -, m0, -⟩ := chamB_true h1
  have ha : inB (a : Int) 0 20 = true := decide_eq_true (by omega)
  have hb' : inB (b : Int) 0 20 = true := decide_eq_true (by omega)
  have ea : timeI k (a : Int) = if (a : Int) = 0 then 0 else (a : Int) * k.minutes + ((a : Int) - 1) * k.minutes := if_pos ⟨h1, ha⟩
  have eb : timeI k (b : Int) = if (b : Int) = 0 then 0 else (b : Int) * k.minutes + ((b : Int) - 1) * k.minutes := if_pos ⟨h1, hb'⟩
  rw [ea, eb]
  have mm : ∀ x y : Int, x ≤ y → x * k.minutes ≤ y * k.minutes := fun x y h => Int.mul_le_mul_of_nonneg_right h (by omega)
  by_cases a0 : (a : Int) = 0
  · rw [if_pos a0]
    by_cases b0 : (b : Int) = 0
    · rw [if_pos b0]; exact Int.le_refl _
    · rw [if_neg b0]
      have := mm 0 (b : Int) (by omega)
      have := mm 0 ((b : Int) - 1) (by omega)
      rw [Int.zero_mul] at *
      omega
  · rw [if_neg a0, if_neg (show ¬ (b : Int) = 0 by omega)]
    have := mm (a : Int) (b : Int) (by omega)
    have := mm ((a : Int) - 1) ((b : Int) - 1) (by omega)
    omega
end Go.Proofs.Ytphagahhhfiiaaa
