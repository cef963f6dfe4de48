/- For every string, spec.IsDigits tells whether it has a byte and all its bytes are digits: a contract, without a condition but the string's own length bound. -/
import Derived.Test.YtpcmiohnhbaciaaText
namespace Go.Proofs.Ytpcmiohnhbaciaa
open Go.RowKit

set_option maxHeartbeats 400000 in
theorem specIsDigits (s : ByteArray) (w : World) (hs : s.size ≤ maxLen) :
    Calls Try.prog 9 #[.string s] w fun e w' => e = .returned (.bool (digitsB s)) ∧ w = w' := by
  unfold maxLen at hs
  go_enter Try.func9, Try.ntmps9
  go_wp2
  go_loop [3] (fun i => ∃ k : Nat, k ≤ s.size ∧ i = .int .i64 k ∧ Hid (dgAll (s.data.toList.take k) = true)) (fun i => s.size - (intOf i).toNat)
  case atStart => exact ⟨0, Nat.zero_le _, rfl, rfl⟩
  case round =>
    obtain ⟨k, hk, rfl, hd⟩ := hrel
    by_cases hlt : k < s.size
    · by_cases h1 : (s[k].toNat : Int) < 48
      · have hn := Lib.hid (digitsB_not s k hlt (dgI_false (.inl h1)))
        go_wp2
        go_ret
        exact ⟨ret_bool hn.out.symm, rfl⟩
      · by_cases h2 : 57 < (s[k].toNat : Int)
        · have hn := Lib.hid (digitsB_not s k hlt (dgI_false (.inr h2)))
          go_wp2
          go_ret
          exact ⟨ret_bool hn.out.symm, rfl⟩
        · have hy : Hid (dgAll (s.data.toList.take (k + 1)) = true) := by
            show _ = _
            rw [take_snoc s k hlt]
            exact dgAll_snoc _ _ hd.out (dgI_true (by omega) (by omega))
          go_wp2
          go_round
          case rel => exact ⟨k + 1, by omega, by go_num, hy⟩
          case measure => simp [intOf]; omega
    · have hn := Lib.hid (digitsB_end s k (by omega) hd.out)
      go_wp2
      go_ret
      exact ⟨ret_bool hn.out.symm, rfl⟩

end Go.Proofs.Ytpcmiohnhbaciaa
