
/- impl.isIndex: contract. -/
import Derived.Test.YtfofbnpgjdagkaaPart
import Derived.Test.YtfofbnpgjdagkaaText
namespace Go.Proofs.Ytfofbnpgjdagkaa
open Go.RowKit
set_option maxRecDepth 100000

theorem isIndex_any (i : Int) (n : Nat) (w : World) : Calls Try.prog 48 #[.int .i64 i, .int .i64 (n : Int)] w fun e w' => e = .returned (.bool (inB i 0 ((n : Int) - 1))) ∧ w = w' := by
  by_cases h1 : 0 ≤ i
  · by_cases h2 : i < (n : Int)
    · have H := Lib.hid (inB_mk h1 (show i ≤ (n : Int) - 1 by omega))
      go_enter Try.func48, Try.ntmps48
      go_wp2
      go_ret
      exact ⟨ret_bool H.out.symm, rfl⟩
    · have H := Lib.hid (inB_no (x := i) (lo := 0) (hi := (n : Int) - 1) (.inr (by omega)))
      have h3 : decide (i < (n : Int)) = false := decide_eq_false h2
      go_enter Try.func48, Try.ntmps48
      go_wp2
      go_ret
      exact ⟨ret_bool H.out.symm, rfl⟩
  · have H := Lib.hid (inB_no (x := i) (lo := 0) (hi := (n : Int) - 1) (.inl (by omega)))
    have h3 : decide (0 ≤ i) = false := decide_eq_false h1
    go_enter Try.func48, Try.ntmps48
    go_wp2
    go_ret
    exact ⟨ret_bool H.out.symm, rfl⟩
end Go.Proofs.Ytfofbnpgjdagkaa
