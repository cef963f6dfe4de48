
/- Lock chambers: selections told by bits, lots of lanes, the least number of lockings: plain mathematics. -/
import Derived.Test.YtphagahhhfiiaaaPackMath
namespace Go.Proofs.Ytphagahhhfiiaaa
set_option maxRecDepth 100000

/-- The ships can be packed in m lanes. -/
def PacksIn (L : Int) (m : Nat) (l : List Int) : Prop := ∃ s : List Int, s.length = l.length ∧ (∀ x ∈ s, 0 ≤ x ∧ x < (m : Int)) ∧ ∀ j, j < m → sumIn l s j ≤ L
theorem zeros_getD (m j : Nat) : (List.replicate m (0 : Int)).getD j 0 = 0 := by
  rw [List.getD, List.getElem?_replicate]; split <;> rfl
theorem fits_packs {L : Int} {m : Nat} {l s : List Int} : Fits L m l s (List.replicate m 0) ↔ (s.length = l.length ∧ (∀ x ∈ s, 0 ≤ x ∧ x < (m : Int)) ∧ ∀ j, j < m → sumIn l s j ≤ L) := by
  unfold Fits
  simp only [zeros_getD, Int.zero_add]
theorem packs_iff {L : Int} {m : Nat} {l : List Int} (hL : 0 ≤ L) (hn : ∀ n ∈ l, 0 ≤ n) : (packR L m l (List.replicate m 0)).isSome = true ↔ PacksIn L m l := by
  constructor
  · intro h
    obtain ⟨s, hs⟩ := Option.isSome_iff_exists.1 h
    exact ⟨s, fits_packs.1 (packR_fits (by simp) (fun j _ => by rw [zeros_getD]; exact hL) hs)⟩
  · rintro ⟨s, hs⟩
    cases hp : packR L m l (List.replicate m 0) with
    | some o => rfl
    | none => exact absurd (fits_packs.2 hs) (packR_none (by simp) hn hp)
theorem sumIn_pos : ∀ {l s : List Int} {j : Nat}, (∀ n ∈ l, 0 ≤ n) → 0 ≤ sumIn l s j
  | [], s, j, _ => by simp [sumIn]
  | a :: l, [], j, _ => by simp [sumIn]
  | a :: l, b :: s, j, h => by
    have h1 := sumIn_pos (l := l) (s := s) (j := j) (fun x hx => h x (by simp [hx]))
    have h2 := h a (by simp)
    show 0 ≤ (if b = (j : Int) then a else 0) + sumIn l s j
    split <;> omega
theorem sumIn_far : ∀ {l s : List Int} {j : Nat}, (∀ x ∈ s, x ≠ (j : Int)) → sumIn l s j = 0
  | [], s, j, _ => by simp [sumIn]
  | a :: l, [], j, _ => by simp [sumIn]
  | a :: l, b :: s, j, h => by
    have h1 := sumIn_far (l := l) (s := s) (j := j) (fun x hx => h x (by simp [hx]))
    have h2 := h b (by simp)
    show (if b = (j : Int) then a else 0) + sumIn l s j = 0
    rw [if_neg h2, h1]; rfl
theorem sumIn_up (m : Nat) : ∀ (l s : List Int) (j : Nat), sumIn l (s.map (· + (m : Int))) (j + m) = sumIn l s j
  | [], s, j => by simp [sumIn]
  | a :: l, [], j => by simp [sumIn]
  | a :: l, b :: s, j => by
    have h1 := sumIn_up m l s j
    show (if b + (m : Int) = ((j + m : Nat) : Int) then a else 0) + sumIn l (s.map (· + (m : Int))) (j + m) = (if b = (j : Int) then a else 0) + sumIn l s j
    rw [h1]
    by_cases e : b = (j : Int)
    · rw [if_pos e, if_pos (by omega)]
    · rw [if_neg e, if_neg (by omega)]
theorem packs_mono {L : Int} {m m' : Nat} {l : List Int} (hL : 0 ≤ L) (hm : m ≤ m') : PacksIn L m l → PacksIn L m' l := by
  rintro ⟨s, h1, h2, h3⟩
  refine ⟨s, h1, fun x hx => by have := h2 x hx; omega, fun j hj => ?_⟩
  by_cases e : j < m
  · exact h3 j e
  · rw [sumIn_far (fun x hx => by have := h2 x hx; omega)]; exact hL
theorem packs_nil {L : Int} (hL : 0 ≤ L) (m : Nat) : PacksIn L m [] := ⟨[], rfl, by simp, fun j _ => by simpa [sumIn] using hL⟩
theorem packs_zero {L : Int} {l : List Int} (h : PacksIn L 0 l) : l = [] := by
  obtain ⟨s, h1, h2, -⟩ := h
  cases l with
  | nil => rfl
  | cons a l =>
    cases s with
    | nil => simp at h1
    | cons b s => have := h2 b (by simp); omega
theorem packs_one {L : Int} {m : Nat} {x : Int} (hL : 0 ≤ L) (hm : 0 < m) (hx : x ≤ L) : PacksIn L m [x] := by
  refine ⟨[0], rfl, by simp; omega, fun j _ => ?_⟩
  show (if (0 : Int) = (j : Int) then x else 0) + 0 ≤ L
  split <;> omega
/-- A ship that is packed is not longer than the chamber. -/
theorem packs_short : ∀ {l s : List Int} {x : Int} {j : Nat}, (∀ n ∈ l, 0 ≤ n) → s.length = l.length → ∀ i : Nat, l[i]? = some x → s[i]? = some (j : Int) → x ≤ sumIn l s j
  | [], _, _, _, _, _, i, h, _ => by simp at h
  | a :: l, [], _, _, _, hl, _, _, _ => by simp at hl
  | a :: l, b :: s, x, j, hn, hl, 0, h, h' => by
    simp at h h'
    subst h h'
    show a ≤ (if (j : Int) = (j : Int) then a else 0) + sumIn l s j
    rw [if_pos rfl]
    have := sumIn_pos (l := l) (s := s) (j := j) (fun y hy => hn y (by simp [hy]))
    omega
  | a :: l, b :: s, x, j, hn, hl, i + 1, h, h' => by
    have := packs_short (l := l) (s := s) (x := x) (j := j) (fun y hy => hn y (by simp [hy])) (by simpa using hl) i (by simpa using h) (by simpa using h')
    have h2 := hn a (by simp)
    show x ≤ (if b = (j : Int) then a else 0) + sumIn l s j
    split <;> omega
theorem packs_le {L : Int} {m : Nat} {l : List Int} (hn : ∀ n ∈ l, 0 ≤ n) (h : PacksIn L m l) : ∀ x ∈ l, x ≤ L := by
  obtain ⟨s, h1, h2, h3⟩ := h
  intro x hx
  obtain ⟨i, hi, e⟩ := List.getElem_of_mem hx
  have hs : i < s.length := by omega
  have hb := h2 s[i] (List.getElem_mem hs)
  have := packs_short (j := s[i].toNat) hn h1 i (by rw [List.getElem?_eq_getElem hi, e]) (by rw [List.getElem?_eq_getElem hs]; congr 1; omega)
  have := h3 s[i].toNat (by omega)
  omega

/-- The selection that bits tell. -/
def someL : List Int → Nat → List Int
  | [], _ => []
  | n :: l, b => if b % 2 = 1 then n :: someL l (b / 2) else someL l (b / 2)
theorem someL_snoc : ∀ {l : List Int} {b i : Nat} {x : Int}, l[i]? = some x → someL (l.take (i + 1)) b = someL (l.take i) b ++ (if b / 2 ^ i % 2 = 1 then [x] else [])
  | [], b, i, x, h => by simp at h
  | a :: l, b, 0, x, h => by
    simp at h
    subst h
    simp [someL]
  | a :: l, b, i + 1, x, h => by
    have ih := someL_snoc (l := l) (b := b / 2) (i := i) (x := x) (by simpa using h)
    rw [Nat.div_div_eq_div_mul, ← Nat.pow_succ'] at ih
    show someL (a :: l.take (i + 1)) b = someL (a :: l.take i) b ++ _
    unfold someL
    rw [ih]
    split <;> rfl
theorem someL_sub : ∀ {l : List Int} {b : Nat} {x : Int}, x ∈ someL l b → x ∈ l
  | [], _, _, h => by cases h
  | a :: l, b, x, h => by
    unfold someL at h
    split at h
    · rcases List.mem_cons.1 h with rfl | h
      · simp
      · exact List.mem_cons_of_mem _ (someL_sub h)
    · exact List.mem_cons_of_mem _ (someL_sub h)
theorem someL_len : ∀ (l : List Int) (b : Nat), (someL l b).length ≤ l.length
  | [], _ => Nat.le_refl _
  | a :: l, b => by
    have := someL_len l (b / 2)
    unfold someL
    split <;> simp <;> omega
theorem someL_sublist : ∀ (l : List Int) (b : Nat), (someL l b).Sublist l
  | [], _ => List.Sublist.refl _
  | a :: l, b => by
    unfold someL
    split
    · exact (someL_sublist l _).cons_cons a
    · exact (someL_sublist l _).cons a
theorem sublist_some : ∀ {l s : List Int}, s.Sublist l → ∃ b, b < 2 ^ l.length ∧ someL l b = s
  | _, _, .slnil => ⟨0, by simp, rfl⟩
  | _, _, .cons a h => by
    obtain ⟨b, h1, h2⟩ := sublist_some h
    refine ⟨2 * b, by rw [List.length_cons, Nat.pow_succ]; omega, ?_⟩
    unfold someL
    rw [if_neg (by omega), show 2 * b / 2 = b by omega, h2]
  | _, _, .cons_cons a h => by
    obtain ⟨b, h1, h2⟩ := sublist_some h
    refine ⟨2 * b + 1, by rw [List.length_cons, Nat.pow_succ]; omega, ?_⟩
    unfold someL
    rw [if_pos (by omega), show (2 * b + 1) / 2 = b by omega, h2]
theorem someL_zero : ∀ l : List Int, someL l 0 = []
  | [] => rfl
  | a :: l => by unfold someL; rw [if_neg (by omega)]; exact someL_zero l
theorem someL_all : ∀ l : List Int, someL l (2 ^ l.length - 1) = l
  | [] => rfl
  | a :: l => by
    have hp := Nat.two_pow_pos l.length
    unfold someL
    rw [List.length_cons, Nat.pow_succ, if_pos (by omega), show (2 ^ l.length * 2 - 1) / 2 = 2 ^ l.length - 1 by omega, someL_all l]
theorem someL_pos : ∀ {l : List Int} {b : Nat}, b < 2 ^ l.length → someL l b = [] → b = 0
  | [], b, h, _ => by simpa using h
  | a :: l, b, h, e => by
    unfold someL at e
    rw [List.length_cons, Nat.pow_succ] at h
    split at e
    · cases e
    · have := someL_pos (l := l) (b := b / 2) (by omega) e
      omega
/-- One selection within another. -/
theorem within {p b : Nat} (h : p &&& b = p) : p % 2 ≤ b % 2 ∧ p / 2 &&& b / 2 = p / 2 ∧ p ≤ b := by
  have h1 : (p &&& b) / 2 = p / 2 &&& b / 2 := Nat.and_div_two
  rw [h] at h1
  have h2 : (p &&& b) % 2 ≤ b % 2 := by
    have := Nat.and_mod_two_pow (a := p) (b := b) (n := 1)
    rw [Nat.pow_one] at this
    rw [this]
    exact Nat.and_le_right
  rw [h] at h2
  refine ⟨h2, h1.symm, ?_⟩
  rw [← h]
  exact Nat.and_le_right
theorem land_halves {x y a b : Nat} (hx : x < 2) (hy : y < 2) : (2 * a + x) &&& (2 * b + y) = 2 * (a &&& b) + (x &&& y) := by
  have h1 : ((2 * a + x) &&& (2 * b + y)) / 2 = a &&& b := by
    rw [Nat.and_div_two, show (2 * a + x) / 2 = a by omega, show (2 * b + y) / 2 = b by omega]
  have h2 : ((2 * a + x) &&& (2 * b + y)) % 2 = x &&& y := by
    have := Nat.and_mod_two_pow (a := 2 * a + x) (b := 2 * b + y) (n := 1)
    rw [Nat.pow_one] at this
    rw [this, show (2 * a + x) % 2 = x by omega, show (2 * b + y) % 2 = y by omega]
  omega
theorem within_up {p b x y : Nat} (h : p &&& b = p) (hx : x ≤ y) (hy : y < 2) : (2 * p + x) &&& (2 * b + y) = 2 * p + x := by
  rw [land_halves (by omega) hy, h]
  have : x &&& y = x := by
    rcases (by omega : (x = 0 ∧ y = 0) ∨ (x = 0 ∧ y = 1) ∨ (x = 1 ∧ y = 1)) with ⟨rfl, rfl⟩ | ⟨rfl, rfl⟩ | ⟨rfl, rfl⟩ <;> rfl
  rw [this]
/-- The next smaller selection within another: none lies between. -/
theorem part_next : ∀ {b p q : Nat}, p &&& b = p → q &&& b = q → q < p → q ≤ (p - 1) &&& b := by
  intro b
  induction b using Nat.strongRecOn with
  | _ b ih =>
    intro p q hp hq hqp
    obtain ⟨p1, p2, p3⟩ := within hp
    obtain ⟨q1, q2, q3⟩ := within hq
    by_cases c : p % 2 = 1
    · have e : (p - 1) &&& b = 2 * (p / 2) := by
        have := land_halves (x := 0) (y := b % 2) (a := p / 2) (b := b / 2) (by omega) (by omega)
        rw [show 2 * (p / 2) + 0 = p - 1 by omega, show 2 * (b / 2) + b % 2 = b by omega, p2, Nat.zero_and] at this
        omega
      omega
    · have hb : b / 2 < b := by omega
      by_cases q' : q / 2 < p / 2
      · have r := ih (b / 2) hb p2 q2 q'
        have e : (p - 1) &&& b = 2 * ((p / 2 - 1) &&& (b / 2)) + b % 2 := by
          have := land_halves (x := 1) (y := b % 2) (a := p / 2 - 1) (b := b / 2) (by omega) (by omega)
          rw [show 2 * (p / 2 - 1) + 1 = p - 1 by omega, show 2 * (b / 2) + b % 2 = b by omega] at this
          rw [this]
          rcases (by omega : b % 2 = 0 ∨ b % 2 = 1) with e | e <;> rw [e] <;> rfl
        omega
      · omega
/-- Two lots beside each other. -/
theorem merge_lots : ∀ {l : List Int} {b p : Nat} {s1 s2 : List Int}, p &&& b = p → s1.length = (someL l p).length → s2.length = (someL l (b - p)).length →
    ∃ s : List Int, s.length = (someL l b).length ∧ (∀ x ∈ s, x ∈ s1 ∨ x ∈ s2) ∧ ∀ j, sumIn (someL l b) s j = sumIn (someL l p) s1 j + sumIn (someL l (b - p)) s2 j
  | [], b, p, s1, s2, _, h1, h2 => ⟨[], rfl, by simp, fun j => by simp [someL, sumIn]⟩
  | a :: l, b, p, s1, s2, h, h1, h2 => by
    obtain ⟨w1, w2, w3⟩ := within h
    have e2 : (b - p) / 2 = b / 2 - p / 2 := by omega
    by_cases c : p % 2 = 1
    · have eb : b % 2 = 1 := by omega
      have ed : ¬ (b - p) % 2 = 1 := by omega
      unfold someL at h1 h2 ⊢
      rw [if_pos c] at h1
      rw [if_neg ed, e2] at h2
      cases s1 with
      | nil => simp at h1
      | cons x s1 =>
        obtain ⟨s, k1, k2, k3⟩ := merge_lots (l := l) (s1 := s1) (s2 := s2) w2 (by simpa using h1) h2
        refine ⟨x :: s, by rw [if_pos eb]; simp [k1], fun y hy => ?_, fun j => ?_⟩
        · rcases List.mem_cons.1 hy with rfl | hy
          · exact .inl (by simp)
          · rcases k2 y hy with h | h
            · exact .inl (by simp [h])
            · exact .inr h
        · rw [if_pos eb, if_pos c, if_neg ed, e2]
          show (if x = (j : Int) then a else 0) + sumIn (someL l (b / 2)) s j = (if x = (j : Int) then a else 0) + sumIn (someL l (p / 2)) s1 j + _
          rw [k3 j]; omega
    · by_cases eb : b % 2 = 1
      · have ed : (b - p) % 2 = 1 := by omega
        unfold someL at h1 h2 ⊢
        rw [if_neg c] at h1
        rw [if_pos ed, e2] at h2
        cases s2 with
        | nil => simp at h2
        | cons x s2 =>
          obtain ⟨s, k1, k2, k3⟩ := merge_lots (l := l) (s1 := s1) (s2 := s2) w2 h1 (by simpa using h2)
          refine ⟨x :: s, by rw [if_pos eb]; simp [k1], fun y hy => ?_, fun j => ?_⟩
          · rcases List.mem_cons.1 hy with rfl | hy
            · exact .inr (by simp)
            · rcases k2 y hy with h | h
              · exact .inl h
              · exact .inr (by simp [h])
          · rw [if_pos eb, if_neg c, if_pos ed, e2]
            show (if x = (j : Int) then a else 0) + sumIn (someL l (b / 2)) s j = _ + ((if x = (j : Int) then a else 0) + sumIn (someL l (b / 2 - p / 2)) s2 j)
            rw [k3 j]; omega
      · have ed : ¬ (b - p) % 2 = 1 := by omega
        unfold someL at h1 h2 ⊢
        rw [if_neg c] at h1 ⊢
        rw [if_neg ed, e2] at h2 ⊢
        rw [if_neg eb]
        exact merge_lots w2 h1 h2
theorem split_lots (q : Int → Bool) : ∀ {l : List Int} {b : Nat} {s : List Int}, b < 2 ^ l.length → s.length = (someL l b).length →
    ∃ p s1 s2, p &&& b = p ∧ List.length s1 = (someL l p).length ∧ List.length s2 = (someL l (b - p)).length ∧ (∀ x ∈ s1, x ∈ s ∧ q x = true) ∧ (∀ x ∈ s2, x ∈ s ∧ q x = false) ∧ ∀ j, sumIn (someL l p) s1 j + sumIn (someL l (b - p)) s2 j = sumIn (someL l b) s j
  | [], b, s, hb, _ => by
    have : b = 0 := by simpa using hb
    subst this
    exact ⟨0, [], [], rfl, rfl, rfl, by simp, by simp, fun j => by simp [someL, sumIn]⟩
  | a :: l, b, s, hb, hs => by
    rw [List.length_cons, Nat.pow_succ] at hb
    unfold someL at hs
    by_cases eb : b % 2 = 1
    · rw [if_pos eb] at hs
      cases s with
      | nil => simp at hs
      | cons x s =>
        obtain ⟨p, s1, s2, k1, k2, k3, k4, k5, k6⟩ := split_lots q (l := l) (b := b / 2) (s := s) (by omega) (by simpa using hs)
        obtain ⟨-, -, hpb⟩ := within k1
        cases hq : q x with
        | true =>
          refine ⟨2 * p + 1, x :: s1, s2, ?_, ?_, ?_, ?_, ?_, ?_⟩
          · have := within_up (x := 1) (y := 1) k1 (by omega) (by omega)
            rwa [show 2 * (b / 2) + 1 = b by omega] at this
          · unfold someL; rw [if_pos (by omega), show (2 * p + 1) / 2 = p by omega]; simp [k2]
          · unfold someL; rw [if_neg (by omega), show (b - (2 * p + 1)) / 2 = b / 2 - p by omega]; exact k3
          · intro y hy
            rcases List.mem_cons.1 hy with rfl | hy
            · exact ⟨by simp, hq⟩
            · exact ⟨by simp [(k4 y hy).1], (k4 y hy).2⟩
          · exact fun y hy => ⟨by simp [(k5 y hy).1], (k5 y hy).2⟩
          · intro j
            unfold someL
            rw [if_pos (show (2 * p + 1) % 2 = 1 by omega), if_neg (show ¬ (b - (2 * p + 1)) % 2 = 1 by omega), if_pos eb, show (2 * p + 1) / 2 = p by omega, show (b - (2 * p + 1)) / 2 = b / 2 - p by omega]
            show (if x = (j : Int) then a else 0) + sumIn (someL l p) s1 j + _ = (if x = (j : Int) then a else 0) + sumIn (someL l (b / 2)) s j
            have := k6 j
            omega
        | false =>
          refine ⟨2 * p, s1, x :: s2, ?_, ?_, ?_, ?_, ?_, ?_⟩
          · have := within_up (x := 0) (y := 1) k1 (by omega) (by omega)
            rwa [show 2 * (b / 2) + 1 = b by omega] at this
          · unfold someL; rw [if_neg (by omega), show (2 * p) / 2 = p by omega]; exact k2
          · unfold someL; rw [if_pos (by omega), show (b - 2 * p) / 2 = b / 2 - p by omega]; simp [k3]
          · exact fun y hy => ⟨by simp [(k4 y hy).1], (k4 y hy).2⟩
          · intro y hy
            rcases List.mem_cons.1 hy with rfl | hy
            · exact ⟨by simp, hq⟩
            · exact ⟨by simp [(k5 y hy).1], (k5 y hy).2⟩
          · intro j
            unfold someL
            rw [if_neg (show ¬ (2 * p) % 2 = 1 by omega), if_pos (show (b - 2 * p) % 2 = 1 by omega), if_pos eb, show (2 * p) / 2 = p by omega, show (b - 2 * p) / 2 = b / 2 - p by omega]
            show _ + ((if x = (j : Int) then a else 0) + sumIn (someL l (b / 2 - p)) s2 j) = (if x = (j : Int) then a else 0) + sumIn (someL l (b / 2)) s j
            have := k6 j
            omega
    · rw [if_neg eb] at hs
      obtain ⟨p, s1, s2, k1, k2, k3, k4, k5, k6⟩ := split_lots q (l := l) (b := b / 2) (s := s) (by omega) hs
      obtain ⟨-, -, hpb⟩ := within k1
      refine ⟨2 * p, s1, s2, ?_, ?_, ?_, k4, k5, ?_⟩
      · have := within_up (x := 0) (y := 0) k1 (by omega) (by omega)
        rwa [show 2 * (b / 2) + 0 = b by omega] at this
      · unfold someL; rw [if_neg (by omega), show (2 * p) / 2 = p by omega]; exact k2
      · unfold someL; rw [if_neg (by omega), show (b - 2 * p) / 2 = b / 2 - p by omega]; exact k3
      · intro j
        unfold someL
        rw [if_neg (show ¬ (2 * p) % 2 = 1 by omega), if_neg (show ¬ (b - 2 * p) % 2 = 1 by omega), if_neg eb, show (2 * p) / 2 = p by omega, show (b - 2 * p) / 2 = b / 2 - p by omega]
        exact k6 j
theorem someL_count : ∀ {l : List Int} {b p : Nat}, p &&& b = p → (someL l b).length = (someL l p).length + (someL l (b - p)).length
  | [], _, _, _ => rfl
  | a :: l, b, p, h => by
    obtain ⟨w1, w2, w3⟩ := within h
    have ih := someL_count (l := l) w2
    unfold someL
    rw [show (b - p) / 2 = b / 2 - p / 2 by omega]
    by_cases c : p % 2 = 1
    · rw [if_pos c, if_pos (show b % 2 = 1 by omega), if_neg (show ¬ (b - p) % 2 = 1 by omega)]
      simp only [List.length_cons]; omega
    · by_cases eb : b % 2 = 1
      · rw [if_neg c, if_pos eb, if_pos (show (b - p) % 2 = 1 by omega)]
        simp only [List.length_cons]; omega
      · rw [if_neg c, if_neg eb, if_neg (show ¬ (b - p) % 2 = 1 by omega)]
        exact ih
/-- Two lots, one behind the other. -/
theorem packs_merge {L : Int} {m1 m2 : Nat} {l : List Int} {b p : Nat} (h : p &&& b = p) (h1 : PacksIn L m1 (someL l (b - p))) (h2 : PacksIn L m2 (someL l p)) : PacksIn L (m1 + m2) (someL l b) := by
  obtain ⟨s1, a1, a2, a3⟩ := h1
  obtain ⟨s2, b1, b2, b3⟩ := h2
  obtain ⟨s, c1, c2, c3⟩ := merge_lots (s1 := s2.map (· + (m1 : Int))) (s2 := s1) h (by simpa using b1) a1
  refine ⟨s, c1, fun x hx => ?_, fun j hj => ?_⟩
  · rcases c2 x hx with h | h
    · obtain ⟨y, hy, rfl⟩ := List.mem_map.1 h
      have := b2 y hy
      omega
    · have := a2 x h
      omega
  · rw [c3 j]
    by_cases e : j < m1
    · rw [sumIn_far (l := someL l p) (fun x hx => by
        obtain ⟨y, hy, rfl⟩ := List.mem_map.1 hx
        have := b2 y hy
        omega)]
      have := a3 j e
      omega
    · obtain ⟨i, rfl⟩ : ∃ i, j = i + m1 := ⟨j - m1, by omega⟩
      rw [sumIn_up, sumIn_far (l := someL l (b - p)) (fun x hx => by have := a2 x hx; omega)]
      have := b3 i (by omega)
      omega
theorem packs_split {L : Int} {m1 m2 : Nat} {l : List Int} {b : Nat} (hn : ∀ n ∈ l, 0 ≤ n) (hb : b < 2 ^ l.length) (h : PacksIn L (m1 + m2) (someL l b)) : ∃ p, p &&& b = p ∧ PacksIn L m1 (someL l (b - p)) ∧ PacksIn L m2 (someL l p) := by
  obtain ⟨s, h1, h2, h3⟩ := h
  obtain ⟨p, s1, s2, k1, k2, k3, k4, k5, k6⟩ := split_lots (fun x => decide ((m1 : Int) ≤ x)) hb h1
  have pos : ∀ (c : Nat) (s : List Int) (j : Nat), 0 ≤ sumIn (someL l c) s j := fun c s j => sumIn_pos (fun n hx => hn n (someL_sub hx))
  refine ⟨p, k1, ⟨s2, k3, fun x hx => ?_, fun j hj => ?_⟩, ⟨s1.map (· - (m1 : Int)), by simpa using k2, fun x hx => ?_, fun j hj => ?_⟩⟩
  · have a := k5 x hx
    have := h2 x a.1
    have := of_decide_eq_false a.2
    omega
  · have := k6 j
    have := pos p s1 j
    have := h3 j (by omega)
    omega
  · obtain ⟨y, hy, rfl⟩ := List.mem_map.1 hx
    have a := k4 y hy
    have := h2 y a.1
    have := of_decide_eq_true a.2
    omega
  · have e : (s1.map (· - (m1 : Int))).map (· + (m1 : Int)) = s1 := by
      rw [List.map_map]
      conv => rhs; rw [← List.map_id s1]
      exact List.map_congr_left fun x _ => by simp
    have u := sumIn_up m1 (someL l p) (s1.map (· - (m1 : Int))) j
    rw [e] at u
    have := k6 (j + m1)
    have := pos (b - p) s2 (j + m1)
    have := h3 (j + m1) (by omega)
    omega
end Go.Proofs.Ytphagahhhfiiaaa
