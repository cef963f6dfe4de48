
/- How long the lists of routes are. -/
import Derived.Test.YtcofldhjbidjjaaRoutesSpec
namespace Go.Proofs.Ytcofldhjbidjjaa
theorem rtsL_bounds (d : ChartD) (a b : Int) : (rtsL d a b).length ≤ 10000000 ∧ sumLen (rtsL d a b) ≤ 80000000 ∧ ∀ l ∈ rtsL d a b, l.length ≤ 10000000 := by
  have h := rtsL_len d a b
  refine ⟨h.1, by omega, fun l hl => ?_⟩
  unfold rtsL at hl
  split at hl
  · have := walkF_each b 7 [a] [] l hl
    simp at this
    omega
  · simp at hl
end Go.Proofs.Ytcofldhjbidjjaa
