
/- What InOrderLaw rests on, part 5: contracts and mathematics. -/
import Derived.Test.YtooeikimoheecaaIo0
import Derived.Test.YtooeikimoheecaaIo1
import Derived.Laws.CopyOwn
import Derived.Shelf.Spec.SlicesInsertGrow
namespace Go.Proofs.Ytooeikimoheecaa
open Go.RowKit
section
variable {P : Program}
end
theorem oneCell_flat {α : Type} {cs : α → List Value} (h : ∀ x, ∀ v ∈ cs x, v.oneCell' = true) (l : List α) : ∀ v ∈ l.flatMap cs, v.oneCell' = true := by
  intro v hv
  obtain ⟨x, _, hx⟩ := List.mem_flatMap.1 hv
  exact h x v hx
end Go.Proofs.Ytooeikimoheecaa
