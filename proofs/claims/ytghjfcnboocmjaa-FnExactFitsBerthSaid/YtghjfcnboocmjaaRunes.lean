
/- impl.isDigit: a contract, without a condition. -/
import Derived.Test.YtghjfcnboocmjaaText
namespace Go.Proofs.Ytghjfcnboocmjaa
open Go.RowKit

theorem isDigit_any (r : Int) (w : World) :
    Calls Try.prog 101 #[.int .i32 r] w fun e w' => e = .returned (.bool (dgI r)) ∧ w = w' := by
  by_cases h1 : 48 ≤ r
  · by_cases h2 : r ≤ 57
    · have hn := Lib.hid (dgI_true h1 h2)
      go_enter Try.func101, Try.ntmps101
      go_wp2
      go_ret
      exact ⟨ret_bool hn.out.symm, rfl⟩
    · have hn := Lib.hid (dgI_false (.inr (by omega : 57 < r)))
      go_enter Try.func101, Try.ntmps101
      go_wp2
      go_ret
      exact ⟨ret_bool hn.out.symm, rfl⟩
  · have hn := Lib.hid (dgI_false (.inl (by omega : r < 48)))
    go_enter Try.func101, Try.ntmps101
    go_wp2
    go_ret
    exact ⟨ret_bool hn.out.symm, rfl⟩

end Go.Proofs.Ytghjfcnboocmjaa
