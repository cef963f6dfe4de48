/- Which int a text spells: the model's way of reading and the library's way agree, for all bytes. Plain facts, no program. -/
import Derived.Test.YtpcmiohnhbaciaaDoorText
import Derived.Lib.ItoaNum
import Derived.Lib.AtoiAll
namespace Go.Proofs.YtpcmiohnhbaciaaDoor

/-! ### Reading digits -/
def accM : Nat → List UInt8 → Option Nat
  | a, [] => some a
  | a, c :: r => if 9223372036854775808 < a * 10 + (c.toNat - 48) then none else accM (a * 10 + (c.toNat - 48)) r

theorem accM_append (a : Nat) (l r : List UInt8) : accM a (l ++ r) = (accM a l).bind fun b => accM b r := by
  induction l generalizing a with
  | nil => rfl
  | cons c t ih =>
    rw [List.cons_append, accM, accM]
    split
    · rfl
    · exact ih _
theorem digit_toNat (d : Nat) (h : d < 10) : (UInt8.ofNat (48 + d)).toNat = 48 + d := by
  rw [UInt8.toNat_ofNat']; omega
theorem accM_dec : ∀ (k u : Nat), u ≤ k → u ≤ 9223372036854775808 → accM 0 (Lib.decDigits u) = some u := by
  intro k
  induction k with
  | zero =>
    intro u h _
    obtain rfl : u = 0 := by omega
    rw [Lib.decDigits_one (by omega)]; rfl
  | succ k ih =>
    intro u h h2
    by_cases hs : u < 10
    · rw [Lib.decDigits_one hs, accM, digit_toNat u hs, if_neg (by omega), accM]
      congr 1; omega
    · rw [Lib.decDigits, dif_neg hs, accM_append, ih (u / 10) (by omega) (by omega), Option.bind_some, accM, digit_toNat _ (by omega), if_neg (by omega), accM]
      congr 1; omega
theorem dec_digits : ∀ (k u : Nat), u ≤ k → dgAll (Lib.decDigits u) = true ∧ Lib.decDigits u ≠ [] := by
  intro k
  induction k with
  | zero =>
    intro u h
    obtain rfl : u = 0 := by omega
    rw [Lib.decDigits_one (by omega)]; decide
  | succ k ih =>
    intro u h
    have hd : ∀ d, d < 10 → dgI ((UInt8.ofNat (48 + d)).toNat : Int) = true := fun d hd => by
      rw [digit_toNat d hd]; exact dgI_true (by omega) (by omega)
    by_cases hs : u < 10
    · rw [Lib.decDigits_one hs]
      exact ⟨by simp only [dgAll, List.all_cons, List.all_nil, Bool.and_true]; exact hd u hs, by simp⟩
    · rw [Lib.decDigits, dif_neg hs]
      exact ⟨dgAll_snoc _ _ (ih (u / 10) (by omega)).1 (hd _ (by omega)), by simp⟩
theorem nDigits_le : ∀ (k u : Nat), 1 ≤ k → u < 10 ^ k → Lib.nDigits u ≤ k := by
  intro k
  induction k with
  | zero => intro u h; omega
  | succ k ih =>
    intro u _ hu
    by_cases hs : u < 10
    · rw [Lib.nDigits_small hs]; omega
    · rw [Lib.nDigits_big hs]
      have h1 : u / 10 < 10 ^ k := by
        rw [Nat.pow_succ] at hu
        exact Nat.div_lt_of_lt_mul (by rw [Nat.mul_comm]; exact hu)
      by_cases hk : 1 ≤ k
      · have := ih (u / 10) hk h1; omega
      · obtain rfl : k = 0 := by omega
        simp at h1; omega
theorem dec_len (u : Nat) (h : u ≤ 9223372036854775808) : (Lib.decDigits u).length ≤ 19 := by
  rw [Lib.decDigits_length]
  exact nDigits_le 19 u (by omega) (by
    have : (10 : Nat) ^ 19 = 10000000000000000000 := by decide
    omega)
theorem parse_append (a : Nat) (l r : List UInt8) : Lib.parseUint10 a (l ++ r) = match Lib.parseUint10 a l with | .ok b => Lib.parseUint10 b r | e => e := by
  induction l generalizing a with
  | nil => simp [Lib.parseUint10]
  | cons c t ih =>
    rw [List.cons_append, Lib.parseUint10, Lib.parseUint10]
    split
    · split
      · rfl
      · split
        · rfl
        · exact ih _
    · rfl
theorem parse_dec : ∀ (k u : Nat), u ≤ k → u ≤ 9223372036854775808 → Lib.parseUint10 0 (Lib.decDigits u) = .ok u := by
  intro k
  induction k with
  | zero =>
    intro u h _
    obtain rfl : u = 0 := by omega
    rw [Lib.decDigits_one (by omega)]; rfl
  | succ k ih =>
    intro u h h2
    by_cases hs : u < 10
    · rw [Lib.decDigits_one hs, Lib.parseUint10, digit_toNat u hs, if_pos (by omega), if_neg (by omega), if_neg (by omega), Lib.parseUint10]
      congr 1; omega
    · rw [Lib.decDigits, dif_neg hs, parse_append, ih (u / 10) (by omega) (by omega)]
      show Lib.parseUint10 (u / 10) [UInt8.ofNat (48 + u % 10)] = _
      rw [Lib.parseUint10, digit_toNat _ (by omega), if_pos (by omega), if_neg (by omega), if_neg (by omega), Lib.parseUint10]
      congr 1; omega

/-! ### The two ways of reading -/
def inRange (n : Int) : Prop := -9223372036854775808 ≤ n ∧ n ≤ 9223372036854775807
def negB (l : List UInt8) : Bool := l.head? == some 45
def bodyL (l : List UInt8) : List UInt8 := if negB l = true then l.drop 1 else l
def valM (l : List UInt8) (a : Nat) : Int := if negB l = true then -(a : Int) else a
def readM (l : List UInt8) (a : Nat) : Option Int :=
  if negB l = false ∧ a = 9223372036854775808 then none else if Lib.itoa (valM l a) = l then some (valM l a) else none
def specL (l : List UInt8) : Option Int :=
  if dgAll (bodyL l) = true ∧ bodyL l ≠ [] ∧ (bodyL l).length ≤ 19 then (accM 0 (bodyL l)).bind (readM l) else none
def implL (l : List UInt8) : Option Int :=
  match Lib.atoiAll l with
  | .ok v => if Lib.itoa v = l then some v else none
  | _ => none

theorem accM_le : ∀ (l : List UInt8) (a b : Nat), a ≤ 9223372036854775808 → accM a l = some b → b ≤ 9223372036854775808
  | [], a, b, ha, h => by rw [accM] at h; injection h with h; omega
  | c :: r, a, b, ha, h => by
    rw [accM] at h
    split at h
    · cases h
    · exact accM_le r _ b (by omega) h

theorem specL_sound {l : List UInt8} {n : Int} (h : specL l = some n) : inRange n ∧ Lib.itoa n = l := by
  unfold specL at h
  split at h
  · obtain ⟨a, ha, hr⟩ := Option.bind_eq_some_iff.1 h
    have hle := accM_le _ 0 a (by omega) ha
    unfold readM at hr
    split at hr
    · cases hr
    · rename_i hno
      split at hr
      · rename_i hit
        injection hr with hr
        rw [hr] at hit
        refine ⟨?_, hit⟩
        rw [← hr]
        unfold inRange valM
        cases hn : negB l
        · simp only [hn, true_and] at hno
          simp only [Bool.false_eq_true, if_false]; omega
        · simp only [if_true]; omega
      · cases hr
  · cases h
theorem implL_sound {l : List UInt8} {n : Int} (h : implL l = some n) : inRange n ∧ Lib.itoa n = l := by
  unfold implL at h
  split at h
  · rename_i v hv
    split at h
    · rename_i hit
      injection h with h
      subst h
      refine ⟨?_, hit⟩
      unfold Lib.atoiAll at hv
      split at hv
      · cases hv
      · rename_i c r
        simp only at hv
        split at hv
        · cases hv
        · cases hv
        · split at hv
          · cases hv
          · split at hv
            · cases hv
            · injection hv with hv
              unfold inRange
              rw [← hv]
              split <;> omega
    · cases h
  · cases h

theorem itoa_neg (n : Int) (h : n < 0) : Lib.itoa n = 45 :: Lib.decDigits n.natAbs := by unfold Lib.itoa; rw [if_pos h]
theorem itoa_pos (n : Int) (h : 0 ≤ n) : Lib.itoa n = Lib.decDigits n.toNat := by unfold Lib.itoa; rw [if_neg (by omega)]
theorem dec_head (u : Nat) : ∃ c r, Lib.decDigits u = c :: r ∧ dgI (c.toNat : Int) = true := by
  obtain ⟨h1, h2⟩ := dec_digits u u (Nat.le_refl _)
  cases h : Lib.decDigits u with
  | nil => exact absurd h h2
  | cons c r =>
    rw [h] at h1
    simp only [dgAll, List.all_cons, Bool.and_eq_true] at h1
    exact ⟨c, r, rfl, h1.1⟩
theorem dg_ne (c : UInt8) (h : dgI (c.toNat : Int) = true) : c.toNat ≠ 45 ∧ c.toNat ≠ 43 := by
  unfold dgI at h
  have := of_decide_eq_true h
  omega

theorem specL_full {l : List UInt8} {n : Int} (hr : inRange n) (h : Lib.itoa n = l) : specL l = some n := by
  obtain ⟨h0, h1⟩ := hr
  by_cases hn : n < 0
  · rw [itoa_neg n hn] at h
    subst h
    have hneg : negB (45 :: Lib.decDigits n.natAbs) = true := rfl
    have hb : bodyL (45 :: Lib.decDigits n.natAbs) = Lib.decDigits n.natAbs := by unfold bodyL; rw [if_pos hneg]; rfl
    obtain ⟨d1, d2⟩ := dec_digits n.natAbs n.natAbs (Nat.le_refl _)
    unfold specL
    rw [hb, if_pos ⟨d1, d2, dec_len _ (by omega)⟩, accM_dec _ _ (Nat.le_refl _) (by omega), Option.bind_some]
    unfold readM valM
    rw [hneg, if_neg (by simp)]
    simp only [if_true]
    have e : -(n.natAbs : Int) = n := by omega
    rw [e, if_pos (itoa_neg n hn)]
  · rw [itoa_pos n (by omega)] at h
    subst h
    obtain ⟨c, r, hc, hdg⟩ := dec_head n.toNat
    have hneg : negB (Lib.decDigits n.toNat) = false := by
      rw [hc]
      unfold negB
      have := (dg_ne c hdg).1
      simp only [List.head?_cons, beq_eq_false_iff_ne, ne_eq, Option.some.injEq]
      intro e; rw [e] at this; exact this rfl
    have hb : bodyL (Lib.decDigits n.toNat) = Lib.decDigits n.toNat := by unfold bodyL; rw [if_neg (by simp [hneg])]
    obtain ⟨d1, d2⟩ := dec_digits n.toNat n.toNat (Nat.le_refl _)
    unfold specL
    rw [hb, if_pos ⟨d1, d2, dec_len _ (by omega)⟩, accM_dec _ _ (Nat.le_refl _) (by omega), Option.bind_some]
    unfold readM valM
    rw [hneg, if_neg (by omega)]
    simp only [Bool.false_eq_true, if_false]
    have e : ((n.toNat : Nat) : Int) = n := by omega
    rw [e, if_pos (itoa_pos n (by omega))]

theorem atoi_itoa (n : Int) (hr : inRange n) : Lib.atoiAll (Lib.itoa n) = .ok n := by
  obtain ⟨h0, h1⟩ := hr
  by_cases hn : n < 0
  · rw [itoa_neg n hn]
    obtain ⟨d1, d2⟩ := dec_digits n.natAbs n.natAbs (Nat.le_refl _)
    have hm : Lib.parseMag (Lib.decDigits n.natAbs) = .ok n.natAbs := by
      unfold Lib.parseMag; rw [if_neg d2]; exact parse_dec _ _ (Nat.le_refl _) (by omega)
    unfold Lib.atoiAll
    have e45 : (45 : UInt8).toNat = 45 := rfl
    simp only [e45, or_true, if_true, hm, not_true, false_and, if_false, true_and]
    rw [if_neg (by omega)]
    congr 1; omega
  · rw [itoa_pos n (by omega)]
    obtain ⟨c, r, hc, hdg⟩ := dec_head n.toNat
    obtain ⟨n1, n2⟩ := dg_ne c hdg
    have hm : Lib.parseMag (c :: r) = .ok n.toNat := by
      unfold Lib.parseMag; rw [if_neg (by simp), ← hc]; exact parse_dec _ _ (Nat.le_refl _) (by omega)
    rw [hc]
    unfold Lib.atoiAll
    simp only [n1, n2, or_self, if_false, hm, not_false_eq_true, true_and, false_and]
    rw [if_neg (by omega)]
    congr 1; omega
theorem implL_full {l : List UInt8} {n : Int} (hr : inRange n) (h : Lib.itoa n = l) : implL l = some n := by
  subst h
  unfold implL
  rw [atoi_itoa n hr]
  simp

theorem spec_impl (l : List UInt8) : specL l = implL l := by
  cases h : implL l with
  | some n =>
    obtain ⟨h1, h2⟩ := implL_sound h
    exact specL_full h1 h2
  | none =>
    cases h2 : specL l with
    | none => rfl
    | some n =>
      obtain ⟨h3, h4⟩ := specL_sound h2
      rw [implL_full h3 h4] at h
      cases h

end Go.Proofs.YtpcmiohnhbaciaaDoor
