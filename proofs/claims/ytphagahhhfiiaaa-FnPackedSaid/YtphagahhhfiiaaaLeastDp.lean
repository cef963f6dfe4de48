
/- Lock chambers: the least number of lockings, selection by selection: plain mathematics. -/
import Derived.Test.YtphagahhhfiiaaaLeastMath
import Derived.Test.YtphagahhhfiiaaaMostMath
namespace Go.Proofs.Ytphagahhhfiiaaa
set_option maxRecDepth 100000

/-- The least number of lockings of a selection. -/
def bestN (k : ChamberD) (l : List Int) (b : Nat) : Nat := leastN k (someL l b)
def packN (k : ChamberD) (l : List Int) (b : Nat) : Bool := (packO k (someL l b)).isSome
theorem short_some {k : ChamberD} {l : List Int} (h : shortB k l = true) (b : Nat) : shortB k (someL l b) = true := by
  unfold shortB at h ⊢
  rw [List.all_eq_true] at h ⊢
  exact fun x hx => h x (someL_sub hx)
theorem bestN_zero (k : ChamberD) (l : List Int) : bestN k l 0 = 0 := by
  have h : lotsB k (someL l 0) 0 = true := by rw [someL_zero]; rfl
  have := leastN_le_of h
  unfold bestN
  omega
section
variable {k : ChamberD} {l : List Int} (h1 : chamB k = true) (h2 : lensB l = true) (h3 : shortB k l = true)
include h1 h2 h3
theorem bestN_len (b : Nat) : bestN k l b ≤ l.length := by
  have := leastN_short h1 (lens_some h2 b) (short_some h3 b)
  have := someL_len l b
  unfold bestN
  omega
theorem bestN_packs (b : Nat) : PacksIn k.length (bestN k l b * k.lanes.toNat) (someL l b) :=
  (lots_iff h1 (lens_some h2 b) _).1 (leastN_lots (leastN_short h1 (lens_some h2 b) (short_some h3 b)))
omit h3 in
theorem bestN_of {b n : Nat} (h : PacksIn k.length (n * k.lanes.toNat) (someL l b)) : bestN k l b ≤ n := leastN_le_of ((lots_iff h1 (lens_some h2 b) n).2 h)
/-- One locking with a part, and the rest. -/
theorem bestN_part {b p : Nat} (h : p &&& b = p) (hp : packN k l p = true) : bestN k l b ≤ 1 + bestN k l (b - p) := by
  have a := bestN_packs h1 h2 h3 (b - p)
  have c := (packO_isSome h1 (lens_some h2 p)).1 hp
  have d := packs_merge h a c
  refine bestN_of h1 h2 ?_
  rw [Nat.add_mul, Nat.one_mul, Nat.add_comm]
  exact d
/-- What is nowhere above a locking and the rest is not above the least number. -/
theorem bestN_least {b v : Nat} (hb : b < 2 ^ l.length) (h0 : b ≠ 0) (hv : ∀ q, q &&& b = q → 0 < q → packN k l q = true → v ≤ 1 + bestN k l (b - q)) : v ≤ bestN k l b := by
  have hp := bestN_packs h1 h2 h3 b
  obtain ⟨n, hn⟩ : ∃ n, bestN k l b = n := ⟨_, rfl⟩
  rw [hn] at hp ⊢
  cases n with
  | zero =>
    rw [Nat.zero_mul] at hp
    exact absurd (someL_pos hb (packs_zero hp)) h0
  | succ n =>
    rw [Nat.add_mul, Nat.one_mul] at hp
    obtain ⟨p, q1, q2, q3⟩ := packs_split (lens_pos h2) hb hp
    have hq : 0 < p := by
      rcases Nat.eq_zero_or_pos p with e | e
      · exfalso
        subst e
        rw [Nat.sub_zero] at q2
        have := bestN_of h1 h2 q2
        omega
      · exact e
    have := hv p q1 hq ((packO_isSome h1 (lens_some h2 p)).2 q3)
    have := bestN_of h1 h2 q2
    omega
end
/-- The parts of b above part have been tried: v is not above what they give, and not below the least number. -/
def TriedTo (k : ChamberD) (l : List Int) (b part v : Nat) : Prop := bestN k l b ≤ v ∧ v ≤ l.length ∧ ∀ q, q &&& b = q → part < q → packN k l q = true → v ≤ 1 + bestN k l (b - q)
theorem TriedTo.zero {k : ChamberD} {l : List Int} (h1 : chamB k = true) (h2 : lensB l = true) (h3 : shortB k l = true) (b : Nat) : TriedTo k l b b l.length := ⟨bestN_len h1 h2 h3 b, Nat.le_refl _, fun q hq hlt _ => by have := (within hq).2.2; omega⟩
theorem TriedTo.no {k : ChamberD} {l : List Int} {b part v : Nat} (h : TriedTo k l b part v) (hp : part &&& b = part) (hf : packN k l part = false) : TriedTo k l b ((part - 1) &&& b) v := ⟨h.1, h.2.1, fun q hq hlt hk => by
  rcases Nat.lt_trichotomy q part with e | e | e
  · have := part_next hp hq e; omega
  · subst e; rw [hf] at hk; cases hk
  · exact h.2.2 q hq e hk⟩
theorem TriedTo.yes {k : ChamberD} {l : List Int} {b part v : Nat} (h1 : chamB k = true) (h2 : lensB l = true) (h3 : shortB k l = true) (h : TriedTo k l b part v) (hp : part &&& b = part) (hf : packN k l part = true) : TriedTo k l b ((part - 1) &&& b) (min v (1 + bestN k l (b - part))) := by
  have := bestN_part h1 h2 h3 hp hf
  refine ⟨by have := h.1; omega, by have := h.2.1; omega, fun q hq hlt hk => ?_⟩
  rcases Nat.lt_trichotomy q part with e | e | e
  · have := part_next hp hq e; omega
  · subst e; omega
  · have := h.2.2 q hq e hk; omega
theorem TriedTo.all {k : ChamberD} {l : List Int} (h1 : chamB k = true) (h2 : lensB l = true) (h3 : shortB k l = true) {b v : Nat} (h : TriedTo k l b 0 v) (hb : b < 2 ^ l.length) (h0 : b ≠ 0) : v = bestN k l b :=
  Nat.le_antisymm (bestN_least h1 h2 h3 hb h0 h.2.2) h.1
theorem leastI_best {k : ChamberD} {l : List Int} (h1 : chamB k = true) (h2 : lensB l = true) (h3 : shortB k l = true) : leastI k l = ((bestN k l (2 ^ l.length - 1) : Nat) : Int) := by
  unfold leastI bestN
  rw [someL_all, if_pos ⟨h1, h2, leastN_short h1 h2 h3⟩]
theorem leastI_no {k : ChamberD} {l : List Int} (h : fitsB k l = false) : leastI k l = -1 := by
  refine if_neg ?_
  rintro ⟨h1, h2, h3⟩
  have := leastN_long h1 h2 h3
  unfold fitsB at h
  rw [h1, h2, this] at h
  cases h
/-- The selections below i have their entries. -/
def FitRow (k : ChamberD) (l : List Int) (i T : Nat) (bs : List Bool) : Prop := bs.length = T ∧ ∀ j, j < i → bs.getD j false = packN k l j
theorem FitRow.next {k : ChamberD} {l : List Int} {i T : Nat} {bs : List Bool} (h : FitRow k l i T bs) (hi : i < T) : FitRow k l (i + 1) T (bs.set i (packN k l i)) := ⟨by simpa using h.1, fun j hj => by
  by_cases e : j = i
  · subst e; simp [List.getD, h.1, hi]
  · have h2 := h.2 j (by omega)
    simp only [List.getD] at h2 ⊢
    rw [List.getElem?_set_ne (fun e' => e e'.symm)]
    exact h2⟩
def BestRow (k : ChamberD) (l : List Int) (i T : Nat) (us : List Int) : Prop := us.length = T ∧ ∀ j, j < i → us.getD j 0 = ((bestN k l j : Nat) : Int)
theorem BestRow.zero (k : ChamberD) (l : List Int) (T : Nat) : BestRow k l 1 T (List.replicate T 0) := ⟨by simp, fun j hj => by
  obtain rfl : j = 0 := by omega
  rw [bestN_zero]
  exact zeros_getD T 0⟩
theorem BestRow.set {k : ChamberD} {l : List Int} {i T : Nat} {us : List Int} (h : BestRow k l i T us) (x : Int) : BestRow k l i T (us.set i x) := ⟨by simpa using h.1, fun j hj => by rw [getD_set_other _ _ (by omega)]; exact h.2 j hj⟩
theorem BestRow.next {k : ChamberD} {l : List Int} {i T : Nat} {us : List Int} (h : BestRow k l i T us) (hx : us.getD i 0 = ((bestN k l i : Nat) : Int)) : BestRow k l (i + 1) T us := ⟨h.1, fun j hj => by
  by_cases e : j = i
  · subst e; exact hx
  · exact h.2 j (by omega)⟩
end Go.Proofs.Ytphagahhhfiiaaa
