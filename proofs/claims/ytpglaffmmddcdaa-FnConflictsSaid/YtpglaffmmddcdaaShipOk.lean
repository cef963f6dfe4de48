
/- ShipOk: what it tells: contracts of both sides. -/
import Derived.Test.YtpglaffmmddcdaaShips
import Derived.Test.YtpglaffmmddcdaaNames
import Derived.Test.YtpglaffmmddcdaaNamesImpl
import Derived.Test.YtpglaffmmddcdaaSegImpl
import Derived.Test.YtpglaffmmddcdaaBlk0
namespace Go.Proofs.Ytpglaffmmddcdaa
open Go.RowKit
set_option maxRecDepth 100000

def shipB (d : ShipD) : Bool := nameB d.name && inB d.length 10 400 && inB d.draught 100 2000 && inB d.line 0 3 && inB d.tugs 0 4
theorem shipB_of {d : ShipD} {b0 b1 b2 b3 b4 : Bool} (h0 : nameB d.name = b0) (h1 : inB d.length 10 400 = b1) (h2 : inB d.draught 100 2000 = b2) (h3 : inB d.line 0 3 = b3) (h4 : inB d.tugs 0 4 = b4) : shipB d = (b0 && b1 && b2 && b3 && b4) := by unfold shipB; rw [h0, h1, h2, h3, h4]
theorem shipB_true {d : ShipD} (h : shipB d = true) : nameB d.name = true ∧ 10 ≤ d.length ∧ d.length ≤ 400 ∧ 100 ≤ d.draught ∧ d.draught ≤ 2000 ∧ 0 ≤ d.line ∧ d.line ≤ 3 ∧ 0 ≤ d.tugs ∧ d.tugs ≤ 4 := by
  unfold shipB inB at h
  simp only [Bool.and_eq_true, decide_eq_true_iff] at h
  obtain ⟨⟨⟨⟨h0, h1⟩, h2⟩, h3⟩, h4⟩ := h
  exact ⟨h0, h1.1, h1.2, h2.1, h2.2, h3.1, h3.2, h4.1, h4.2⟩

end Go.Proofs.Ytpglaffmmddcdaa
