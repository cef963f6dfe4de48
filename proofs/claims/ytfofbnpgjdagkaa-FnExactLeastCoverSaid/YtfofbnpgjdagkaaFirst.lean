
/- The first index of a list at which something holds: plain mathematics. -/
import Derived.WalkKit
namespace Go.Proofs.Ytfofbnpgjdagkaa

def firstI {α : Type} (p : α → Bool) (l : List α) : Int := match l.findIdx? p with | some i => (i : Int) | none => -1
def NoOne {α : Type} (p : α → Bool) (l : List α) (k : Nat) : Prop := ∀ j, j < k → ∀ y, l[j]? = some y → p y = false
theorem NoOne.zero {α : Type} (p : α → Bool) (l : List α) : NoOne p l 0 := fun j hj => absurd hj (by omega)
theorem NoOne.next {α : Type} {p : α → Bool} {l : List α} {k : Nat} {x : α} (h : NoOne p l k) (hx : l[k]? = some x) (hn : p x = false) : NoOne p l (k + 1) := fun j hj y hy => by
  by_cases e : j = k
  · subst e; rw [hx] at hy; cases hy; exact hn
  · exact h j (by omega) y hy
theorem firstI_at {α : Type} {p : α → Bool} {l : List α} {k : Nat} {x : α} (h : NoOne p l k) (hx : l[k]? = some x) (hn : p x = true) : firstI p l = k := by
  have : l.findIdx? p = some k := by
    rw [List.findIdx?_eq_some_iff_getElem]
    obtain ⟨hk, rfl⟩ := List.getElem?_eq_some_iff.1 hx
    exact ⟨hk, hn, fun j hj => by rw [h j hj _ (List.getElem?_eq_getElem (by omega))]; simp⟩
  unfold firstI; rw [this]
theorem firstI_none {α : Type} {p : α → Bool} {l : List α} (h : NoOne p l l.length) : firstI p l = -1 := by
  have : l.findIdx? p = none := by
    rw [List.findIdx?_eq_none_iff]
    intro x hx
    obtain ⟨j, hj⟩ := List.getElem?_of_mem hx
    exact h j (List.getElem?_eq_some_iff.1 hj).1 x hj
  unfold firstI; rw [this]
theorem snocInd {α : Type} {P : List α → Prop} (h0 : P []) (h1 : ∀ xs x, P xs → P (xs ++ [x])) (l : List α) : P l := by
  generalize hn : l.length = n
  induction n generalizing l with
  | zero => rw [List.eq_nil_of_length_eq_zero hn]; exact h0
  | succ n ih =>
    rcases List.eq_nil_or_concat l with e | ⟨a, x, e⟩
    · rw [e] at hn; simp at hn
    · rw [List.concat_eq_append] at e
      subst e
      exact h1 a x (ih a (by simp at hn; omega))
end Go.Proofs.Ytfofbnpgjdagkaa
