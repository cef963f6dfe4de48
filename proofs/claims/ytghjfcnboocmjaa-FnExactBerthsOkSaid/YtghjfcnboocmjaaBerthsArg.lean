
/- How an argument that is a list of the struct Berth is opened. -/
import Derived.Test.YtghjfcnboocmjaaBerths
namespace Go.Proofs.Ytghjfcnboocmjaa
open Go.ChangeShapes Go.WideShapes Go.ChangeAt Go.Deep Go.RowKit
set_option maxRecDepth 100000
variable {H : Type} {enc : TypeId × Value → H} {w : World}
theorem open_berths_arg {r : Reach} {b0 : Nat} {v : Value} {d : DataW H} {ps : List MemPlace} (hval : Value.okWide Try.prog w r b0 45 v) (hd : DataW.Trod enc Try.prog w 0 (fun _ => true) true 45 v d ps) :
    ∃ A c l, v = .slice A l.length c ∧ l.length ≤ maxLen ∧ (l.length ≤ 1000000000 → SlBerth w (.slice A l.length c) l) ∧ ∀ d ∈ l, BerthD.wf d := by
  obtain ⟨A, len, cap, rfl⟩ := okWide_slice Try.underlying45 hval
  obtain ⟨fuel, hf⟩ := hd
  exact open_berths hf
end Go.Proofs.Ytghjfcnboocmjaa
