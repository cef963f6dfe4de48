
/- impl.isSpan: contract. -/
import Derived.Test.YtfofbnpgjdagkaaPart
import Derived.Test.YtfofbnpgjdagkaaText
namespace Go.Proofs.Ytfofbnpgjdagkaa
open Go.RowKit
set_option maxRecDepth 100000

def spanB (fr tt : Int) : Bool := decide (0 ≤ fr) && decide (fr < tt) && decide (tt ≤ 2880)
set_option maxHeartbeats 2000000 in
theorem isSpan_any (fr tt : Int) (w : World) : Calls Try.prog 64 #[.int .i64 fr, .int .i64 tt] w fun e w' => e = .returned (.bool (spanB fr tt)) ∧ w = w' := by
  obtain ⟨b1, h1⟩ : ∃ b, decide (0 ≤ fr) = b := ⟨_, rfl⟩
  obtain ⟨b2, h2⟩ : ∃ b, decide (fr < tt) = b := ⟨_, rfl⟩
  obtain ⟨b3, h3⟩ : ∃ b, decide (tt ≤ 2880) = b := ⟨_, rfl⟩
  have E := Lib.hid (show spanB fr tt = (b1 && b2 && b3) by unfold spanB; rw [h1, h2, h3])
  cases b1 <;> cases b2 <;> cases b3
  all_goals
    go_enter Try.func64, Try.ntmps64
    go_wp2
    go_ret
    exact ⟨ret_bool (by rw [E.out]; rfl), rfl⟩
end Go.Proofs.Ytfofbnpgjdagkaa
