
/- How an argument that is a list of the struct Duty is opened. -/
import Derived.Test.YtfofbnpgjdagkaaDutys
namespace Go.Proofs.Ytfofbnpgjdagkaa
open Go.ChangeShapes Go.WideShapes Go.ChangeAt Go.Deep Go.RowKit
set_option maxRecDepth 100000
variable {H : Type} {enc : TypeId × Value → H} {w : World}
theorem open_dutys_arg {r : Reach} {b0 : Nat} {v : Value} {d : DataW H} {ps : List MemPlace} (hval : Value.okWide Try.prog w r b0 40 v) (hd : DataW.Trod enc Try.prog w 0 (fun _ => true) true 40 v d ps) :
    ∃ A c l, v = .slice A l.length c ∧ l.length ≤ maxLen ∧ (l.length ≤ 1000000000 → SlDuty w (.slice A l.length c) l) ∧ ∀ d ∈ l, DutyD.wf d := by
  obtain ⟨A, len, cap, rfl⟩ := okWide_slice Try.underlying40 hval
  obtain ⟨fuel, hf⟩ := hd
  exact open_dutys hf
end Go.Proofs.Ytfofbnpgjdagkaa
