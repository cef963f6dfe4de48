
/- Surges in the order of their minutes. -/
import Derived.Test.YtgjappjlnkdpnaaBand
import Derived.Test.YtgjappjlnkdpnaaSurgeOk
namespace Go.Proofs.Ytgjappjlnkdpnaa
open Go.RowKit

/-- The begins ascend. -/
def Asc (s : List SurgeD) : Prop := ∀ (i j : Nat) (x y : SurgeD), i < j → s[i]? = some x → s[j]? = some y → x.fr < y.fr
theorem asc_pair {s : List SurgeD} : Asc s ↔ s.Pairwise (fun x y => x.fr < y.fr) := by
  constructor
  · intro ha
    rw [List.pairwise_iff_getElem]
    intro i j hi hj hij
    exact ha i j _ _ hij (List.getElem?_eq_getElem hi) (List.getElem?_eq_getElem hj)
  · intro hp i j x y hij hx hy
    rw [List.pairwise_iff_getElem] at hp
    obtain ⟨hi, rfl⟩ := List.getElem?_eq_some_iff.1 hx
    obtain ⟨hj, rfl⟩ := List.getElem?_eq_some_iff.1 hy
    exact hp i j hi hj hij

theorem first_of {s : List SurgeD} (ha : Asc s) (hs : ∀ x ∈ s, surgeB x = true) : FirstFc s s.length := by
  intro k hk
  obtain ⟨x, hx⟩ : ∃ x, s[k]? = some x := ⟨_, List.getElem?_eq_getElem hk⟩
  have hv := hs x (List.mem_of_getElem? hx)
  cases k with
  | zero => exact okB_zero hx hv
  | succ k =>
    obtain ⟨y, hy⟩ : ∃ y, s[k]? = some y := ⟨_, List.getElem?_eq_getElem (by omega)⟩
    rw [okB_succ hx hv hy]
    exact decide_eq_true (ha k (k + 1) y x (by omega) hy hx)
theorem all_of {s : List SurgeD} (h : FirstFc s s.length) : ∀ x ∈ s, surgeB x = true := by
  intro x hx
  obtain ⟨k, hk⟩ := List.getElem?_of_mem hx
  exact okB_valid (h k (List.getElem?_eq_some_iff.1 hk).1) hk
theorem surge_one (x : SurgeD) : ∀ v ∈ x.cells, v.oneCell' = true := fun v hv => by simp at hv; rcases hv with rfl | rfl | rfl <;> rfl
end Go.Proofs.Ytgjappjlnkdpnaa
