/- For every string, impl.IsDigits tells whether it has a byte and all its bytes are digits: a contract, without a condition. -/
import Derived.Test.YtpcmiohnhbaciaaRunes
namespace Go.Proofs.Ytpcmiohnhbaciaa
open Go.RowKit

set_option maxHeartbeats 400000 in
theorem implIsDigits (s : ByteArray) (w : World) :
    Calls Try.prog 10 #[.string s] w fun e w' => e = .returned (.bool (digitsB s)) ∧ Below w.heap.size w w' := by
  go_enter Try.func10, Try.ntmps10
  go_wp2
  go_loopw [4] (fun _ w' => ∃ pos : Nat, w' = w.iter s pos ∧ pos ≤ s.size ∧ Hid (dgAll (s.data.toList.take pos) = true)) (fun _ w' => s.size - w'.iterPos w.heap.size)
  case atStart => exact ⟨0, rfl, Nat.zero_le _, rfl⟩
  case round =>
    obtain ⟨pos, rfl, hk, hd⟩ := hrel
    by_cases hp : pos < s.size
    · have hnx : ∀ ty, (Instr.next (.pointer (some ⟨w.heap.size, 0, none⟩)) true ty).run Try.prog (w.iter s pos) = _ := fun ty => run_next_any w s pos ty hp
      cases hc : dgI ((Utf8.decode s pos).1 : Int)
      · have hn := Lib.hid (digitsB_not s pos hp (rune_not_dg s pos hp hc))
        go_wp2_with (go_at_call 26; refine (isDigit_any _ _).mono ?_; rintro e w' ⟨rfl, rfl⟩)
        go_ret
        exact ⟨ret_bool hn.out.symm, (Below.refl _ _).alloc (Nat.le_refl _) _⟩
      · have hw := Lib.hid (rune_dg s pos hp hc)
        go_wp2_with (go_at_call 26; refine (isDigit_any _ _).mono ?_; rintro e w' ⟨rfl, rfl⟩)
        go_roundw
        case rel =>
          rw [hw.out.2]
          exact ⟨pos + 1, rfl, by omega, by
            show _ = _
            rw [take_snoc s pos hp]
            exact dgAll_snoc _ _ hd.out hw.out.1⟩
        case measure => have := hw.out.2; simp; omega
    · have hnx : ∀ ty, (Instr.next (.pointer (some ⟨w.heap.size, 0, none⟩)) true ty).run Try.prog (w.iter s pos) = _ := fun ty => run_next_end w s pos ty hp
      have hn := Lib.hid (digitsB_end s pos (by omega) hd.out)
      go_wp2
      go_ret
      exact ⟨ret_bool ((notEmpty s).trans hn.out.symm), (Below.refl _ _).alloc (Nat.le_refl _) _⟩

end Go.Proofs.Ytpcmiohnhbaciaa
