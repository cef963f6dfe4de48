
/- SurgeOk of the program and of the model: contracts. -/
import Derived.Test.YtgjappjlnkdpnaaSurges
import Derived.Test.YtgjappjlnkdpnaaLevel
namespace Go.Proofs.Ytgjappjlnkdpnaa
open Go.RowKit
set_option maxRecDepth 100000

def surgeB (d : SurgeD) : Bool := decide (0 ≤ d.fr ∧ d.fr ≤ 2880 ∧ -500 ≤ d.lo ∧ d.lo ≤ d.hi ∧ d.hi ≤ 500)
theorem surgeB_mk {d : SurgeD} (h : 0 ≤ d.fr ∧ d.fr ≤ 2880 ∧ -500 ≤ d.lo ∧ d.lo ≤ d.hi ∧ d.hi ≤ 500) : surgeB d = true := decide_eq_true h
theorem surgeB_no {d : SurgeD} (h : ¬ (0 ≤ d.fr ∧ d.fr ≤ 2880 ∧ -500 ≤ d.lo ∧ d.lo ≤ d.hi ∧ d.hi ≤ 500)) : surgeB d = false := decide_eq_false h
theorem surgeB_true {d : SurgeD} (h : surgeB d = true) : 0 ≤ d.fr ∧ d.fr ≤ 2880 ∧ -500 ≤ d.lo ∧ d.lo ≤ d.hi ∧ d.hi ≤ 500 := of_decide_eq_true h

end Go.Proofs.Ytgjappjlnkdpnaa
