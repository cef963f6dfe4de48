/- For every string, spec.IsDigits and impl.IsDigits return the same bool, 'the string has a byte and all its bytes are digits': two contracts, without a condition but the string's own length bound. -/
import Derived.Test.YtpcmiohnhbaciaaRows
import Derived.WalkKit
import Derived.Lib.Hide
namespace Go.Proofs.Ytpcmiohnhbaciaa
open Go.RowKit

def dgI (r : Int) : Bool := decide (48 ≤ r ∧ r ≤ 57)
def dgAll (l : List UInt8) : Bool := l.all fun c => dgI (c.toNat : Int)
def digitsB (s : ByteArray) : Bool := dgAll s.data.toList && decide (0 < s.size)

theorem take_snoc (s : ByteArray) (k : Nat) (h : k < s.size) : s.data.toList.take (k + 1) = s.data.toList.take k ++ [s[k]] := by
  rw [List.take_succ_eq_append_getElem (by simpa using h)]; rfl
theorem take_all (s : ByteArray) (k : Nat) (h : s.size ≤ k) : s.data.toList.take k = s.data.toList :=
  List.take_of_length_le (by simpa using h)
theorem mem_at (s : ByteArray) (k : Nat) (h : k < s.size) : s[k] ∈ s.data.toList := by
  show s.data[k] ∈ s.data.toList
  simp

theorem dgAll_snoc (l : List UInt8) (c : UInt8) (h : dgAll l = true) (hc : dgI (c.toNat : Int) = true) : dgAll (l ++ [c]) = true := by
  unfold dgAll at *
  simp [List.all_append, h, hc]
theorem digitsB_not (s : ByteArray) (k : Nat) (h : k < s.size) (hc : dgI (s[k].toNat : Int) = false) : digitsB s = false := by
  unfold digitsB dgAll
  have : (s.data.toList.all fun c => dgI (c.toNat : Int)) = false := by
    rw [List.all_eq_false]
    exact ⟨s[k], mem_at s k h, by simp [hc]⟩
  simp [this]
theorem digitsB_end (s : ByteArray) (k : Nat) (h : s.size ≤ k) (hc : dgAll (s.data.toList.take k) = true) : digitsB s = decide (0 < s.size) := by
  unfold digitsB
  rw [take_all s k h] at hc
  simp [hc]
theorem dgI_false {r : Int} (h : r < 48 ∨ 57 < r) : dgI r = false := by
  unfold dgI; exact decide_eq_false (by omega)
theorem dgI_true {r : Int} (h : 48 ≤ r) (h' : r ≤ 57) : dgI r = true := by
  unfold dgI; exact decide_eq_true ⟨h, h'⟩
theorem ret_bool {a b : Bool} (h : a = b) : Ending.returned (.bool a) = .returned (.bool b) := by rw [h]

set_option maxHeartbeats 400000 in
theorem specIsDigits (s : ByteArray) (w : World) (hs : s.size ≤ maxLen) :
    Calls Try.prog 9 #[.string s] w fun e w' => e = .returned (.bool (digitsB s)) ∧ w = w' := by
  unfold maxLen at hs
  go_enter Try.func9, Try.ntmps9
  go_wp2
  go_loop [3] (fun i => ∃ k : Nat, k ≤ s.size ∧ i = .int .i64 k ∧ Hid (dgAll (s.data.toList.take k) = true)) (fun i => s.size - (intOf i).toNat)
  case atStart => exact ⟨0, Nat.zero_le _, rfl, rfl⟩
  case round =>
    obtain ⟨k, hk, rfl, hd⟩ := hrel
    by_cases hlt : k < s.size
    · by_cases h1 : (s[k].toNat : Int) < 48
      · have hn := Lib.hid (digitsB_not s k hlt (dgI_false (.inl h1)))
        go_wp2
        go_ret
        exact ⟨ret_bool hn.out.symm, rfl⟩
      · by_cases h2 : 57 < (s[k].toNat : Int)
        · have hn := Lib.hid (digitsB_not s k hlt (dgI_false (.inr h2)))
          go_wp2
          go_ret
          exact ⟨ret_bool hn.out.symm, rfl⟩
        · have hy : Hid (dgAll (s.data.toList.take (k + 1)) = true) := by
            show _ = _
            rw [take_snoc s k hlt]
            exact dgAll_snoc _ _ hd.out (dgI_true (by omega) (by omega))
          go_wp2
          go_round
          case rel => exact ⟨k + 1, by omega, by go_num, hy⟩
          case measure => simp [intOf]; omega
    · have hn := Lib.hid (digitsB_end s k (by omega) hd.out)
      go_wp2
      go_ret
      exact ⟨ret_bool hn.out.symm, rfl⟩

theorem isDigit_any (r : Int) (w : World) :
    Calls Try.prog 26 #[.int .i32 r] w fun e w' => e = .returned (.bool (dgI r)) ∧ w = w' := by
  by_cases h1 : 48 ≤ r
  · by_cases h2 : r ≤ 57
    · have hn := Lib.hid (dgI_true h1 h2)
      go_enter Try.func26, Try.ntmps26
      go_wp2
      go_ret
      exact ⟨ret_bool hn.out.symm, rfl⟩
    · have hn := Lib.hid (dgI_false (.inr (by omega : 57 < r)))
      go_enter Try.func26, Try.ntmps26
      go_wp2
      go_ret
      exact ⟨ret_bool hn.out.symm, rfl⟩
  · have hn := Lib.hid (dgI_false (.inl (by omega : r < 48)))
    go_enter Try.func26, Try.ntmps26
    go_wp2
    go_ret
    exact ⟨ret_bool hn.out.symm, rfl⟩

theorem width_pos (s : ByteArray) (pos : Nat) (h : pos < s.size) : 1 ≤ (Utf8.decode s pos).2 := by
  by_cases ha : (s[pos]'h).toNat < 128
  · rw [decode_ascii s pos h ha]
    exact Nat.le_refl _
  · exact (decode_high s pos h (by omega)).2
/-- A rune below 128 is the byte itself; any other byte begins a rune from 128 on. -/
theorem rune_low (s : ByteArray) (pos : Nat) (h : pos < s.size) (hr : (Utf8.decode s pos).1 < 128) : (s[pos]'h).toNat = (Utf8.decode s pos).1 ∧ (Utf8.decode s pos).2 = 1 := by
  by_cases ha : (s[pos]'h).toNat < 128
  · rw [decode_ascii s pos h ha]; exact ⟨rfl, rfl⟩
  · have := (decode_high s pos h (by omega)).1; omega
theorem rune_dg (s : ByteArray) (pos : Nat) (h : pos < s.size) (hr : dgI ((Utf8.decode s pos).1 : Int) = true) : dgI (s[pos].toNat : Int) = true ∧ (Utf8.decode s pos).2 = 1 := by
  have hr' := hr
  unfold dgI at hr
  have := of_decide_eq_true hr
  obtain ⟨e, e'⟩ := rune_low s pos h (by omega)
  rw [e]; exact ⟨hr', e'⟩
theorem rune_not_dg (s : ByteArray) (pos : Nat) (h : pos < s.size) (hr : dgI ((Utf8.decode s pos).1 : Int) = false) : dgI (s[pos].toNat : Int) = false := by
  by_cases ha : (s[pos]'h).toNat < 128
  · rw [decode_ascii s pos h ha] at hr; exact hr
  · exact dgI_false (.inr (by omega))

theorem notEmpty (s : ByteArray) : (!s.toList.isEmpty) = decide (0 < s.size) := by
  have h : s.size = s.data.toList.length := rfl
  rw [ByteArray.toList_eq, h]
  cases s.data.toList <;> simp

set_option maxHeartbeats 400000 in
theorem implIsDigits (s : ByteArray) (w : World) :
    Calls Try.prog 10 #[.string s] w fun e w' => e = .returned (.bool (digitsB s)) ∧ Below w.heap.size w w' := by
  go_enter Try.func10, Try.ntmps10
  go_wp2
  go_loopw [4] (fun _ w' => ∃ pos : Nat, w' = w.iter s pos ∧ pos ≤ s.size ∧ Hid (dgAll (s.data.toList.take pos) = true)) (fun _ w' => s.size - w'.iterPos w.heap.size)
  case atStart => exact ⟨0, rfl, Nat.zero_le _, rfl⟩
  case round =>
    obtain ⟨pos, rfl, hk, hd⟩ := hrel
    by_cases hp : pos < s.size
    · have hnx : ∀ ty, (Instr.next (.pointer (some ⟨w.heap.size, 0, none⟩)) true ty).run Try.prog (w.iter s pos) = _ := fun ty => run_next_any w s pos ty hp
      cases hc : dgI ((Utf8.decode s pos).1 : Int)
      · have hn := Lib.hid (digitsB_not s pos hp (rune_not_dg s pos hp hc))
        go_wp2_with (go_at_call 26; refine (isDigit_any _ _).mono ?_; rintro e w' ⟨rfl, rfl⟩)
        go_ret
        exact ⟨ret_bool hn.out.symm, (Below.refl _ _).alloc (Nat.le_refl _) _⟩
      · have hw := Lib.hid (rune_dg s pos hp hc)
        go_wp2_with (go_at_call 26; refine (isDigit_any _ _).mono ?_; rintro e w' ⟨rfl, rfl⟩)
        go_roundw
        case rel =>
          rw [hw.out.2]
          exact ⟨pos + 1, rfl, by omega, by
            show _ = _
            rw [take_snoc s pos hp]
            exact dgAll_snoc _ _ hd.out hw.out.1⟩
        case measure => have := hw.out.2; simp; omega
    · have hnx : ∀ ty, (Instr.next (.pointer (some ⟨w.heap.size, 0, none⟩)) true ty).run Try.prog (w.iter s pos) = _ := fun ty => run_next_end w s pos ty hp
      have hn := Lib.hid (digitsB_end s pos (by omega) hd.out)
      go_wp2
      go_ret
      exact ⟨ret_bool ((notEmpty s).trans hn.out.symm), (Below.refl _ _).alloc (Nat.le_refl _) _⟩

end Go.Proofs.Ytpcmiohnhbaciaa
