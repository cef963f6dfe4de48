
/- Parts of a list, in the same cells. -/
import Derived.Test.YtfofbnpgjdagkaaRows2
namespace Go.Proofs.Ytfofbnpgjdagkaa
open Go.RowKit
set_option maxRecDepth 100000

/-- A list from k on, in the same cells. -/
theorem SlOf.dropP {α : Type} {n : Nat} {cs : α → List Value} {w : World} {g o c : Nat} {l : List α} (h : SlOf n cs w (.slice (some ⟨g, o, none⟩) l.length c) l) {k : Nat} (hk : k ≤ l.length) : SlOf n cs w (.slice (some ⟨g, o + k * n, none⟩) (l.length - k) (c - k)) (l.drop k) := by
  obtain ⟨hl, h⟩ := h
  refine ⟨by rw [List.length_drop]; omega, ?_⟩
  rcases Nat.lt_or_ge k l.length with hk | hk'
  rotate_left
  · left
    have : l.length - k = 0 := by omega
    rw [this]
    exact ⟨List.drop_eq_nil_of_le hk', _, _, rfl⟩
  right
  rcases h with ⟨he, _⟩ | ⟨g', o', c', e, hp, hc, hx⟩
  · rw [he] at hk; simp at hk
  · injection e with e1 e2 e3
    injection e1 with e4
    injection e4 with e5 e6 _
    subst e3 e5 e6
    refine ⟨g, o + k * n, c - k, by rw [List.length_drop], by rw [List.length_drop]; omega, by rw [List.length_drop]; omega, fun i x hi j u hu => ?_⟩
    rw [List.getElem?_drop] at hi
    have := hx (k + i) x hi j u hu
    rw [Nat.add_mul] at this
    rw [show o + k * n + i * n + j = o + (k * n + i * n) + j by omega]
    exact this
/-- The first k of a list, in the same cells. -/
theorem SlOf.takeP {α : Type} {n : Nat} {cs : α → List Value} {w : World} {A : Option Addr} {c : Nat} {l : List α} (h : SlOf n cs w (.slice A l.length c) l) {k : Nat} (hk : k ≤ l.length) : SlOf n cs w (.slice A k c) (l.take k) := by
  obtain ⟨hl, h⟩ := h
  have hlen : (l.take k).length = k := by rw [List.length_take]; omega
  refine ⟨by omega, ?_⟩
  by_cases hk0 : k = 0
  · left
    subst hk0
    exact ⟨rfl, _, _, rfl⟩
  · right
    rcases h with ⟨he, _⟩ | ⟨g, o, c', e, hp, hc, hx⟩
    · rw [he] at hk; simp at hk; exact absurd hk hk0
    · injection e with e1 e2 e3
      refine ⟨g, o, c', by rw [hlen, e1, e3], by omega, by omega, fun i x hi => ?_⟩
      have hik : i < k := by have := (List.getElem?_eq_some_iff.1 hi).1; omega
      rw [List.getElem?_take_of_lt hik] at hi
      exact hx i x hi
end Go.Proofs.Ytfofbnpgjdagkaa
