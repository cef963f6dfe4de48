
/- Plain mathematics of forecast bands: what a valid forecast is, the surge at a minute. -/
import Derived.Test.YtgjappjlnkdpnaaSurgeOk
namespace Go.Proofs.Ytgjappjlnkdpnaa
open Go.RowKit

/-- The surge k is valid and begins behind the one before it. -/
def okB (s : List SurgeD) (k : Nat) : Bool :=
  match s[k]? with
  | none => false
  | some x => surgeB x && (k == 0 || match s[k - 1]? with | none => false | some y => decide (y.fr < x.fr))
def headB (s : List SurgeD) : Bool := match s[0]? with | none => false | some x => decide (x.fr = 0)
def fcB (m : Int) (l : List PartD) (s : List SurgeD) : Bool := tideB m l && decide (1 ≤ s.length ∧ s.length ≤ 6) && headB s && (List.range s.length).all (okB s)
def FirstFc (s : List SurgeD) (k : Nat) : Prop := ∀ j, j < k → okB s j = true

theorem fcB_true {m : Int} {l : List PartD} {s : List SurgeD} (h : fcB m l s = true) : tideB m l = true ∧ 1 ≤ s.length ∧ s.length ≤ 6 ∧ headB s = true ∧ FirstFc s s.length := by
  unfold fcB at h
  simp only [Bool.and_eq_true, decide_eq_true_eq, List.all_eq_true] at h
  exact ⟨h.1.1.1, h.1.1.2.1, h.1.1.2.2, h.1.2, fun j hj => h.2 j (by simpa using hj)⟩
theorem fcB_mk {m : Int} {l : List PartD} {s : List SurgeD} (h0 : tideB m l = true) (h1 : 1 ≤ s.length) (h2 : s.length ≤ 6) (h3 : headB s = true) (h4 : FirstFc s s.length) : fcB m l s = true := by
  unfold fcB
  simp only [Bool.and_eq_true, decide_eq_true_eq, List.all_eq_true]
  exact ⟨⟨⟨h0, h1, h2⟩, h3⟩, fun j hj => h4 j (by simpa using hj)⟩
theorem fcB_tide {m : Int} {l : List PartD} {s : List SurgeD} (h : tideB m l = false) : fcB m l s = false := by
  cases e : fcB m l s with
  | false => rfl
  | true => rw [(fcB_true e).1] at h; cases h
theorem fcB_len {m : Int} {l : List PartD} {s : List SurgeD} (h : s.length = 0 ∨ 6 < s.length) : fcB m l s = false := by
  cases e : fcB m l s with
  | false => rfl
  | true => have := fcB_true e; omega
theorem fcB_head {m : Int} {l : List PartD} {s : List SurgeD} (h : headB s = false) : fcB m l s = false := by
  cases e : fcB m l s with
  | false => rfl
  | true => rw [(fcB_true e).2.2.2.1] at h; cases h
theorem fcB_bad {m : Int} {l : List PartD} {s : List SurgeD} (k : Nat) (hk : k < s.length) (h : okB s k = false) : fcB m l s = false := by
  cases e : fcB m l s with
  | false => rfl
  | true => rw [(fcB_true e).2.2.2.2 k hk] at h; cases h
theorem headB_of {s : List SurgeD} {x : SurgeD} (h : s[0]? = some x) : headB s = decide (x.fr = 0) := by unfold headB; rw [h]
theorem okB_bad {s : List SurgeD} {k : Nat} {x : SurgeD} (h : s[k]? = some x) (hx : surgeB x = false) : okB s k = false := by unfold okB; rw [h]; simp [hx]
theorem okB_zero {s : List SurgeD} {x : SurgeD} (h : s[0]? = some x) (hx : surgeB x = true) : okB s 0 = true := by unfold okB; rw [h]; simp [hx]
theorem okB_succ {s : List SurgeD} {k : Nat} {x y : SurgeD} (h : s[k + 1]? = some x) (hx : surgeB x = true) (h' : s[k]? = some y) : okB s (k + 1) = decide (y.fr < x.fr) := by
  unfold okB; rw [h]; simp [hx, h']
theorem FirstFc.next {s : List SurgeD} {k : Nat} (h : FirstFc s k) (hk : okB s k = true) : FirstFc s (k + 1) := by
  intro j hj
  by_cases e : j = k
  · subst e; exact hk
  · exact h j (by omega)
theorem FirstFc.zero (s : List SurgeD) : FirstFc s 0 := fun _ hj => absurd hj (by omega)
theorem okB_valid {s : List SurgeD} {k : Nat} {x : SurgeD} (h : okB s k = true) (hx : s[k]? = some x) : surgeB x = true := by
  unfold okB at h; rw [hx] at h; simp at h; exact h.1

/-- Among the first k surges, the place of the last that begins at t or before (0 if there is none). -/
def lastLe (s : List SurgeD) (t : Int) : Nat → Nat
  | 0 => 0
  | k + 1 => match s[k]? with
    | none => lastLe s t k
    | some x => if x.fr ≤ t then k else lastLe s t k
theorem lastLe_yes {s : List SurgeD} {t : Int} {k : Nat} {x : SurgeD} (h : s[k]? = some x) (hx : x.fr ≤ t) : lastLe s t (k + 1) = k := by unfold lastLe; rw [h]; simp [hx]
theorem lastLe_no {s : List SurgeD} {t : Int} {k : Nat} {x : SurgeD} (h : s[k]? = some x) (hx : ¬ x.fr ≤ t) : lastLe s t (k + 1) = lastLe s t k := by
  conv => lhs; unfold lastLe
  rw [h]; simp [hx]
theorem lastLe_lt {s : List SurgeD} {t : Int} (h0 : 0 < s.length) : ∀ k, k ≤ s.length → lastLe s t k < s.length := by
  intro k
  induction k with
  | zero => intro _; exact h0
  | succ k ih =>
    intro hk
    obtain ⟨x, hx⟩ : ∃ x, s[k]? = some x := ⟨_, List.getElem?_eq_getElem (by omega)⟩
    by_cases h : x.fr ≤ t
    · rw [lastLe_yes hx h]; omega
    · rw [lastLe_no hx h]; exact ih (by omega)
def atS (s : List SurgeD) (t : Int) : SurgeD := (s[lastLe s t s.length]?).getD ⟨0, 0, 0⟩
theorem atS_of {s : List SurgeD} {t : Int} (h0 : 0 < s.length) : s[lastLe s t s.length]? = some (atS s t) := by
  unfold atS
  rw [List.getElem?_eq_getElem (lastLe_lt h0 _ (Nat.le_refl _))]; rfl
/-- The surge among the first k. -/
def atK (s : List SurgeD) (t : Int) (k : Nat) : SurgeD := (s[lastLe s t k]?).getD ⟨0, 0, 0⟩
theorem atK_all (s : List SurgeD) (t : Int) : atK s t s.length = atS s t := rfl
theorem atK_zero {s : List SurgeD} {t : Int} {x : SurgeD} (h : s[0]? = some x) : atK s t 0 = x := by unfold atK lastLe; rw [h]; rfl
theorem atK_yes {s : List SurgeD} {t : Int} {k : Nat} {x : SurgeD} (h : s[k]? = some x) (hx : x.fr ≤ t) : atK s t (k + 1) = x := by unfold atK; rw [lastLe_yes h hx, h]; rfl
theorem atK_no {s : List SurgeD} {t : Int} {k : Nat} {x : SurgeD} (h : s[k]? = some x) (hx : ¬ x.fr ≤ t) : atK s t (k + 1) = atK s t k := by unfold atK; rw [lastLe_no h hx]

theorem atS_ok {s : List SurgeD} {t : Int} (h0 : 0 < s.length) (h : FirstFc s s.length) : surgeB (atS s t) = true :=
  okB_valid (h _ (lastLe_lt h0 _ (Nat.le_refl _))) (atS_of h0)

end Go.Proofs.Ytgjappjlnkdpnaa
