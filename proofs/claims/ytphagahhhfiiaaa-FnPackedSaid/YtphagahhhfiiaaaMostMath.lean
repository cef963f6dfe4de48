
/- Lock chambers: the most ships of a selection: plain mathematics. -/
import Derived.Test.YtphagahhhfiiaaaLotMath
namespace Go.Proofs.Ytphagahhhfiiaaa
set_option maxRecDepth 100000

/-- The most ships of the selections below b. -/
def mostTo (k : ChamberD) (l : List Int) : Nat → Nat
  | 0 => 0
  | b + 1 => if mostTo k l b < (someL l b).length ∧ (packO k (someL l b)).isSome = true then (someL l b).length else mostTo k l b
def mostI (k : ChamberD) (l : List Int) : Int := if chamB k = true ∧ lensB l = true then ((mostTo k l (2 ^ l.length) : Nat) : Int) else -1
theorem mostTo_small {k : ChamberD} {l : List Int} {b : Nat} (h : (someL l b).length ≤ mostTo k l b) : mostTo k l (b + 1) = mostTo k l b := by
  show (if _ then _ else _) = _
  rw [if_neg (by omega)]
theorem mostTo_no {k : ChamberD} {l : List Int} {b : Nat} (h : (packO k (someL l b)).isSome = false) : mostTo k l (b + 1) = mostTo k l b := by
  show (if _ then _ else _) = _
  rw [if_neg (by rw [h]; simp)]
theorem mostTo_yes {k : ChamberD} {l : List Int} {b : Nat} (h : ¬ (someL l b).length ≤ mostTo k l b) (h' : (packO k (someL l b)).isSome = true) : mostTo k l (b + 1) = (someL l b).length := by
  show (if _ then _ else _) = _
  rw [if_pos ⟨by omega, h'⟩]
theorem mostTo_le (k : ChamberD) (l : List Int) : ∀ b, mostTo k l b ≤ l.length
  | 0 => Nat.zero_le _
  | b + 1 => by
    have := mostTo_le k l b
    have := someL_len l b
    show (if _ then _ else _) ≤ _
    split <;> omega
theorem mostTo_ge {k : ChamberD} {l : List Int} : ∀ {b c : Nat}, c < b → (packO k (someL l c)).isSome = true → (someL l c).length ≤ mostTo k l b
  | 0, c, h, _ => by omega
  | b + 1, c, h, hp => by
    by_cases e : c = b
    · subst e
      by_cases h2 : (someL l c).length ≤ mostTo k l c
      · rw [mostTo_small h2]; exact h2
      · rw [mostTo_yes h2 hp]; exact Nat.le_refl _
    · have := mostTo_ge (b := b) (by omega) hp
      by_cases h2 : (someL l b).length ≤ mostTo k l b
      · rw [mostTo_small h2]; exact this
      · by_cases h3 : (packO k (someL l b)).isSome = true
        · rw [mostTo_yes h2 h3]; omega
        · rw [mostTo_no (by simpa using h3)]; exact this
theorem mostTo_is {k : ChamberD} {l : List Int} (h0 : (packO k []).isSome = true) : ∀ b, 0 < b → ∃ c, c < b ∧ (packO k (someL l c)).isSome = true ∧ (someL l c).length = mostTo k l b
  | 0, h => by omega
  | b + 1, _ => by
    have z0 : ∃ c, c < b + 1 ∧ (packO k (someL l c)).isSome = true ∧ (someL l c).length = mostTo k l b := by
      by_cases hb : 0 < b
      · obtain ⟨c, h1, h2, h3⟩ := mostTo_is h0 b hb
        exact ⟨c, by omega, h2, h3⟩
      · obtain rfl : b = 0 := by omega
        exact ⟨0, by omega, by rw [someL_zero]; exact h0, by rw [someL_zero]; rfl⟩
    by_cases h2 : (someL l b).length ≤ mostTo k l b
    · rw [mostTo_small h2]; exact z0
    · by_cases h3 : (packO k (someL l b)).isSome = true
      · rw [mostTo_yes h2 h3]; exact ⟨b, by omega, h3, rfl⟩
      · rw [mostTo_no (by simpa using h3)]; exact z0
theorem mostI_bad {k : ChamberD} {l : List Int} (h : ¬ (chamB k = true ∧ lensB l = true)) : mostI k l = -1 := if_neg h
theorem mostI_ok {k : ChamberD} {l : List Int} (h1 : chamB k = true) (h2 : lensB l = true) : mostI k l = ((mostTo k l (2 ^ l.length) : Nat) : Int) := if_pos ⟨h1, h2⟩
theorem lens_some {l : List Int} (h : lensB l = true) (b : Nat) : lensB (someL l b) = true := lensB_part h (by have := someL_len l b; have := lensB_len h; omega) (fun _ hx => someL_sub hx)
end Go.Proofs.Ytphagahhhfiiaaa
