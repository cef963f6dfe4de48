
/- How an argument that is a list of ships is opened. -/
import Derived.Test.YtghjfcnboocmjaaShips
namespace Go.Proofs.Ytghjfcnboocmjaa
open Go.ChangeShapes Go.WideShapes Go.ChangeAt Go.Deep Go.RowKit
set_option maxRecDepth 100000
variable {H : Type} {enc : TypeId × Value → H} {w : World}
theorem open_ships_arg {r : Reach} {b0 : Nat} {v : Value} {d : DataW H} {ps : List MemPlace} (hval : Value.okWide Try.prog w r b0 57 v) (hd : DataW.Trod enc Try.prog w 0 (fun _ => true) true 57 v d ps) :
    ∃ A c l, v = .slice A l.length c ∧ l.length ≤ maxLen ∧ (l.length ≤ 1000000000 → SlShip w (.slice A l.length c) l) ∧ ∀ d ∈ l, ShipD.wf d := by
  obtain ⟨A, len, cap, rfl⟩ := okWide_slice Try.underlying57 hval
  obtain ⟨fuel, hf⟩ := hd
  exact open_ships hf
end Go.Proofs.Ytghjfcnboocmjaa
