
/- One field of one element of a list of one's own is set, or read. Over any program. -/
import Derived.Test.YtfofbnpgjdagkaaRows2
import Derived.Laws.OwnMore
namespace Go.Proofs.Ytfofbnpgjdagkaa
open Go.RowKit
set_option maxRecDepth 100000

/-! ### One field of one element of a list of one's own is set -/
theorem flat_setAt {α : Type} {k : Nat} {cs : α → List Value} (hk : ∀ x, (cs x).length = k) : ∀ (l : List α) (i : Nat) (x : α), l[i]? = some x → ∀ (j : Nat) (u : Value) (x' : α), j < k → cs x' = (cs x).set j u → (l.flatMap cs).set (i * k + j) u = (l.set i x').flatMap cs := by
  intro l
  induction l with
  | nil => intro i x h; simp at h
  | cons y l ih =>
    intro i x h j u x' hj hx
    cases i with
    | zero =>
      simp only [List.getElem?_cons_zero, Option.some.injEq] at h
      subst h
      rw [List.flatMap_cons, List.set_cons_zero, List.flatMap_cons, hx, Nat.zero_mul, Nat.zero_add, List.set_append_left _ _ (by rw [hk]; exact hj)]
    | succ i =>
      rw [List.getElem?_cons_succ] at h
      rw [List.flatMap_cons, List.set_cons_succ, List.flatMap_cons, List.set_append_right _ _ (by rw [hk, Nat.succ_mul]; omega), hk, show (i + 1) * k + j - k = i * k + j by rw [Nat.succ_mul]; omega, ih i x h j u x' hj hx]
theorem own_set {α : Type} {k : Nat} {cs : α → List Value} {t : TypeId} {w : World} {base g c : Nat} {l : List α} (hk : ∀ x, (cs x).length = k) (h : OwnOf k cs t w base (.slice (some ⟨g, 0, none⟩) l.length c) l) {i j : Nat} {x x' : α} {u : Value} (hx : l[i]? = some x) (hj : j < k) (e : cs x' = (cs x).set j u) :
    OwnOf k cs t (w.setCell ⟨g, i * k + j, none⟩ u) base (.slice (some ⟨g, 0, none⟩) (l.set i x').length c) (l.set i x') := by
  have hs := (World.ownsRow.stored h (i * k + j) u).1
  rw [flat_setAt hk l i x hx j u x' hj e] at hs
  unfold OwnOf
  rw [List.length_set]
  exact hs
theorem own_at {α : Type} {k : Nat} {cs : α → List Value} {t : TypeId} {w : World} {base g n c : Nat} {l : List α} (hk : ∀ x, (cs x).length = k) (h : OwnOf k cs t w base (.slice (some ⟨g, 0, none⟩) n c) l) (hn : l.length = n) {i j : Nat} {x : α} {u : Value} (hx : l[i]? = some x) (hj : (cs x)[j]? = some u) : w.cell? ⟨g, i * k + j, none⟩ = some u := by
  have hi := (List.getElem?_eq_some_iff.1 hx).1
  have hjk : j < k := by have := (List.getElem?_eq_some_iff.1 hj).1; rw [hk] at this; exact this
  subst hn
  have hlt : i * k + j < l.length * k := by
    have h1 : (i + 1) * k ≤ l.length * k := Nat.mul_le_mul_right k (by omega)
    rw [Nat.succ_mul] at h1
    omega
  exact (World.ownsRow.cellAt h (i * k + j) hlt).trans (flat_at hk l i x hx j u hj)

end Go.Proofs.Ytfofbnpgjdagkaa
