
/- spec.EmptyLockings: the contract in the form that the law wants. -/
import Derived.Test.YtlddampjbmklkaaLockSpec0
namespace Go.Proofs.Ytlddampjbmklkaa
open Go.RowKit

theorem specEmptyLockings (v : Value) (rows : List LockR) (w : World) (h : RdLocks w v rows) (_ : rows.length ≤ 10000000) :
    Calls Try.prog 37 #[v] w fun e w' => e = .returned (.int .i64 (emptyN (rows.map LockR.d))) ∧ Below w.heap.size w w' := specEmpty v rows w h
end Go.Proofs.Ytlddampjbmklkaa
