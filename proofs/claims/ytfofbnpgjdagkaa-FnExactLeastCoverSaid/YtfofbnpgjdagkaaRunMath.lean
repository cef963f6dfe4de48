
/- Every element of a list holds beside those before it: the mathematics. Over any type. -/
import Derived.Test.YtfofbnpgjdagkaaRows2
namespace Go.Proofs.Ytfofbnpgjdagkaa

def runB {α : Type} (p : List α → α → Bool) : List α → List α → Bool
  | _, [] => true
  | done, x :: l => p done x && runB p (done ++ [x]) l
section
variable {α : Type} {p : List α → α → Bool} {l : List α} {i : Nat} {x : α}
theorem runB_app : ∀ (a b d : List α), runB p d (a ++ b) = (runB p d a && runB p (d ++ a) b)
  | [], b, d => by simp [runB]
  | y :: a, b, d => by
    show (p d y && runB p (d ++ [y]) (a ++ b)) = ((p d y && runB p (d ++ [y]) a) && _)
    rw [runB_app a b (d ++ [y]), Bool.and_assoc, List.append_assoc]
    rfl
theorem runB_snoc (l : List α) (x : α) : runB p [] (l ++ [x]) = (runB p [] l && p l x) := by
  rw [runB_app]
  simp [runB]
/-- The first i elements hold. -/
def RunTo (p : List α → α → Bool) (l : List α) (i : Nat) : Prop := runB p [] (l.take i) = true
theorem RunTo.zero (p : List α → α → Bool) (l : List α) : RunTo p l 0 := rfl
theorem runB_part (a b : List α) (h : runB p [] (a ++ b) = true) : runB p [] a = true := by
  rw [runB_app, Bool.and_eq_true] at h
  exact h.1
theorem run_no (hx : l[i]? = some x) (hp : p (l.take i) x = false) : runB p [] l = false := by
  cases h : runB p [] l with
  | false => rfl
  | true =>
    have h2 : runB p [] (l.take (i + 1)) = true := runB_part (l.take (i + 1)) (l.drop (i + 1)) (by rw [List.take_append_drop]; exact h)
    rw [take_snoc' l i x hx, runB_snoc, hp, Bool.and_false] at h2
    cases h2
theorem RunTo.next (h : RunTo p l i) (hx : l[i]? = some x) (hp : p (l.take i) x = true) : RunTo p l (i + 1) := by
  unfold RunTo at h ⊢
  rw [take_snoc' l i x hx, runB_snoc, h, hp]
  rfl
theorem RunTo.all (h : RunTo p l l.length) : runB p [] l = true := by
  unfold RunTo at h
  rwa [List.take_length] at h
theorem run_at (h : runB p [] l = true) (hx : l[i]? = some x) : p (l.take i) x = true := by
  cases hp : p (l.take i) x with
  | true => rfl
  | false => rw [run_no hx hp] at h; cases h
end
/-- None of the first k of a list has the property. -/
def NoneTo {α : Type} (q : α → Bool) (l : List α) (k : Nat) : Prop := (l.take k).any q = false
theorem NoneTo.zero {α : Type} (q : α → Bool) (l : List α) : NoneTo q l 0 := rfl
theorem NoneTo.next {α : Type} {q : α → Bool} {l : List α} {k : Nat} {x : α} (h : NoneTo q l k) (hx : l[k]? = some x) (hq : q x = false) : NoneTo q l (k + 1) := by
  unfold NoneTo at h ⊢
  rw [take_snoc' l k x hx, List.any_append, h]
  simp [hq]
theorem any_at {α : Type} {q : α → Bool} {l : List α} {k n : Nat} {x : α} (hx : l[k]? = some x) (hk : k < n) (hq : q x = true) : (l.take n).any q = true := by
  rw [List.any_eq_true]
  refine ⟨x, ?_, hq⟩
  rw [List.mem_take_iff_getElem]
  obtain ⟨hk2, e⟩ := List.getElem?_eq_some_iff.1 hx
  exact ⟨k, by omega, e⟩
end Go.Proofs.Ytfofbnpgjdagkaa
