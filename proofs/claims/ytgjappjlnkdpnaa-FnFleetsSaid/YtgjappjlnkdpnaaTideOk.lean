
/- TideOk of the program and of the model: contracts. -/
import Derived.Test.YtgjappjlnkdpnaaTide
namespace Go.Proofs.Ytgjappjlnkdpnaa
open Go.RowKit
set_option maxRecDepth 100000

theorem take_all_parts {l : List PartD} {k : Nat} (h : ∀ j x, j < k → l[j]? = some x → partB x = true) (hk : l.length ≤ k) : ∀ x ∈ l, partB x = true := by
  intro x hx
  obtain ⟨j, hj⟩ := List.getElem?_of_mem hx
  exact h j x (Nat.lt_of_lt_of_le (List.getElem?_eq_some_iff.1 hj).1 hk) hj
/-- The first k parts are valid. -/
def FirstOk (l : List PartD) (k : Nat) : Prop := ∀ j x, j < k → l[j]? = some x → partB x = true
theorem FirstOk.next {l : List PartD} {k : Nat} {x : PartD} (h : FirstOk l k) (hx : l[k]? = some x) (hp : partB x = true) : FirstOk l (k + 1) := by
  intro j y hj hy
  by_cases e : j = k
  · subst e; rw [hx] at hy; rw [← Option.some.inj hy]; exact hp
  · exact h j y (by omega) hy

end Go.Proofs.Ytgjappjlnkdpnaa
