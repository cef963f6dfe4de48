
/- Rules of traffic: the first conflict of a list, against one passage, and between two lists: plain mathematics. -/
import Derived.Test.YtpglaffmmddcdaaRuleMath
import Derived.Test.YtpglaffmmddcdaaFirst
namespace Go.Proofs.Ytpglaffmmddcdaa
set_option maxRecDepth 100000

theorem rowF_zero {g : Nat → Nat → Int} {k : Nat} (h : ∀ i, g i k = 0) : ∀ n, rowF g k n = none
  | 0 => rfl
  | n + 1 => rowF_no (rowF_zero h n) (h n)
theorem allF_zero {g : Nat → Nat → Int} (h : ∀ i k, g i k = 0) : ∀ n, allF g n = none
  | 0 => rfl
  | n + 1 => allF_next (allF_zero h n) (rowF_zero (fun i => h i n) n)
theorem conf_bad {d : ChartD} {r : RegimeD} (h : (chartB d && regB r) = false) (p q : PassageD) : confI d r p q = 0 := confI_bad (by unfold confPre; rw [h]; simp)
theorem firstC_bad {d : ChartD} {r : RegimeD} {l : List PassageD} (h : (chartB d && regB r) = false) : firstC d r l = none :=
  allF_zero (fun i k => by unfold pairI; split; exact conf_bad h _ _; rfl) _
theorem clashB_bad {d : ChartD} {r : RegimeD} {a b : List PassageD} (h : (chartB d && regB r) = false) : clashB d r a b = false := clashB_no fun _ _ _ _ => conf_bad h _ _
/-- The conflict of a list's passage with one passage. -/
def againI (d : ChartD) (r : RegimeD) (l : List PassageD) (q : PassageD) (i : Nat) : Int := match l[i]? with | some p => confI d r p q | none => 0
theorem againI_at {d : ChartD} {r : RegimeD} {l : List PassageD} {q p : PassageD} {i : Nat} (h : l[i]? = some p) : againI d r l q i = confI d r p q := by unfold againI; rw [h]
def againC (d : ChartD) (r : RegimeD) (l : List PassageD) (q : PassageD) : Option (Nat × Nat × Int) := rowF (fun i _ => againI d r l q i) 0 l.length
theorem rowF_same {g g' : Nat → Nat → Int} {k k' : Nat} : ∀ n, (∀ i, i < n → g i k = g' i k') → rowF g k n = (rowF g' k' n).map (fun x => (x.1, k, x.2.2))
  | 0, _ => rfl
  | n + 1, h => by
    unfold rowF
    rw [rowF_same n (fun i hi => h i (by omega))]
    cases rowF g' k' n with
    | some x => rfl
    | none =>
      simp only [Option.map_none]
      rw [h n (by omega)]
      split <;> rfl
theorem row_again {d : ChartD} {r : RegimeD} {l : List PassageD} {k : Nat} {q : PassageD} (hq : l[k]? = some q) : rowF (pairI d r l) k k = (againC d r (l.take k) q).map (fun x => (x.1, k, x.2.2)) := by
  have hk : k < l.length := (List.getElem?_eq_some_iff.1 hq).1
  unfold againC
  rw [List.length_take, Nat.min_eq_left (by omega)]
  refine rowF_same k fun i hi => ?_
  have e1 : (l.take k)[i]? = l[i]? := by rw [List.getElem?_take_of_lt hi]
  obtain ⟨p, hp⟩ : ∃ p, l[i]? = some p := ⟨_, List.getElem?_eq_getElem (by omega)⟩
  rw [pairI_at hp hq, againI_at (e1.trans hp)]
theorem fcN_zero {g : Nat → Nat → Int} {k n : Nat} : (fcN (rowF g k n) = 0) ↔ rowF g k n = none := by
  cases h : rowF g k n with
  | none => simp [fcN]
  | some x =>
    obtain ⟨-, -, a, b, -⟩ := rowF_facts h
    unfold fcN
    simp only
    constructor
    · intro e; rw [← a, e] at b; exact absurd rfl b
    · intro e; cases e
theorem fcN_all {g : Nat → Nat → Int} {n : Nat} : (fcN (allF g n) = 0) ↔ allF g n = none := by
  cases h : allF g n with
  | none => simp [fcN]
  | some x =>
    obtain ⟨-, -, a, b, -⟩ := allF_facts h
    unfold fcN
    simp only
    constructor
    · intro e; rw [← a, e] at b; exact absurd rfl b
    · intro e; cases e
/-- The row of k finds nothing. -/
theorem again_none {d : ChartD} {r : RegimeD} {l : List PassageD} {k : Nat} {q : PassageD} (hq : l[k]? = some q) (h : fcN (againC d r (l.take k) q) = 0) : rowF (pairI d r l) k k = none := by
  rw [row_again hq, show againC d r (l.take k) q = none from fcN_zero.1 h]; rfl
theorem again_some {d : ChartD} {r : RegimeD} {l : List PassageD} {k : Nat} {q : PassageD} (hq : l[k]? = some q) (hA : allF (pairI d r l) k = none) (h : fcN (againC d r (l.take k) q) ≠ 0) :
    fcI (firstC d r l) = fcI (againC d r (l.take k) q) ∧ fcK (firstC d r l) = (k : Int) ∧ fcN (firstC d r l) = fcN (againC d r (l.take k) q) := by
  have hk : k < l.length := (List.getElem?_eq_some_iff.1 hq).1
  cases hr : againC d r (l.take k) q with
  | none => rw [hr] at h; exact absurd rfl h
  | some x =>
    have e := row_again (d := d) (r := r) hq
    rw [hr] at e
    obtain ⟨a, -, b, c, f⟩ := rowF_facts e
    have e2 : firstC d r l = some (x.1, k, pairI d r l x.1 k) := by
      unfold firstC
      refine allF_yes hA ?_ c a hk
      have key : ∀ n, (∀ j, j < n → pairI d r l j k = 0) → rowF (pairI d r l) k n = none := by
        intro n
        induction n with
        | zero => intro _; rfl
        | succ n ih => intro hj; exact rowF_no (ih fun j hjn => hj j (by omega)) (hj n (by omega))
      exact key _ f
    rw [e2]
    refine ⟨rfl, rfl, ?_⟩
    show pairI d r l x.1 k = x.2.2
    exact b.symm
theorem againC_bnd {d : ChartD} {r : RegimeD} {l : List PassageD} {q : PassageD} : (fcI (againC d r l q) = -1 ∨ 0 ≤ fcI (againC d r l q)) := by
  cases againC d r l q with
  | none => exact .inl rfl
  | some x => right; show 0 ≤ ((x.1 : Nat) : Int); omega
/-- Whether a passage of b is in conflict with one of a. -/
def hitB (d : ChartD) (r : RegimeD) (a : List PassageD) (q : PassageD) : Bool := !(fcN (againC d r a q) == 0)
theorem hitB_false {d : ChartD} {r : RegimeD} {a : List PassageD} {q : PassageD} (h : hitB d r a q = false) : ∀ p ∈ a, confI d r p q = 0 := by
  have h0 : fcN (againC d r a q) = 0 := by simpa [hitB] using h
  have h1 := rowF_none (fcN_zero.1 h0)
  intro p hp
  obtain ⟨i, hi, e⟩ := List.getElem_of_mem hp
  have h2 := h1 i hi
  have h3 : a[i]? = some p := by rw [List.getElem?_eq_getElem hi, e]
  rw [← againI_at h3]
  exact h2
theorem hitB_true {d : ChartD} {r : RegimeD} {a : List PassageD} {q : PassageD} (h : hitB d r a q = true) : ∃ p ∈ a, confI d r p q ≠ 0 := by
  have h0 : fcN (againC d r a q) ≠ 0 := by simpa [hitB] using h
  cases hr : againC d r a q with
  | none => rw [hr] at h0; exact absurd rfl h0
  | some x =>
    obtain ⟨hx, -, -, b, -⟩ := rowF_facts hr
    obtain ⟨p, hp⟩ : ∃ p, a[x.1]? = some p := ⟨_, List.getElem?_eq_getElem hx⟩
    refine ⟨p, List.mem_of_getElem? hp, ?_⟩
    rw [← againI_at hp]
    exact b
theorem clash_hit (d : ChartD) (r : RegimeD) (a b : List PassageD) : clashB d r a b = b.any (hitB d r a) := by
  cases h : b.any (hitB d r a) with
  | true =>
    obtain ⟨q, hq, h1⟩ := List.any_eq_true.1 h
    obtain ⟨p, hp, h2⟩ := hitB_true h1
    exact clashB_yes hp hq h2
  | false =>
    rw [List.any_eq_false] at h
    exact clashB_no fun p hp q hq => hitB_false (by simpa using h q hq) p hp
/-- The first index at which a list has what is asked is not negative exactly if it has it anywhere. -/
theorem any_first {α : Type} (f : α → Bool) (l : List α) : decide (0 ≤ firstI f l) = l.any f := by
  cases h : l.any f with
  | true =>
    obtain ⟨x, hx, h1⟩ := List.any_eq_true.1 h
    refine decide_eq_true ?_
    unfold firstI
    split
    · omega
    · rename_i h2
      exact absurd (List.findIdx?_eq_none_iff.1 h2 x hx) (by simp [h1])
  | false =>
    refine decide_eq_false ?_
    rw [List.any_eq_false] at h
    unfold firstI
    rw [List.findIdx?_eq_none_iff.2 (fun x hx => by simpa using h x hx)]
    simp
end Go.Proofs.Ytpglaffmmddcdaa
