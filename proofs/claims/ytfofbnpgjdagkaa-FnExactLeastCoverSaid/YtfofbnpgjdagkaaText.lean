
/- Plain facts on bytes, digits and runes, and on a slice of one byte that is made a string. -/
import Derived.Test.YtfofbnpgjdagkaaRows
import Derived.WalkKit
import Derived.Deep.QuietTactic
import Derived.BigQuiet
import Derived.Lib.Hide
namespace Go.Proofs.Ytfofbnpgjdagkaa
open Go.RowKit

def dgI (r : Int) : Bool := decide (48 ≤ r ∧ r ≤ 57)
def dgAll (l : List UInt8) : Bool := l.all fun c => dgI (c.toNat : Int)
def digitsB (s : ByteArray) : Bool := dgAll s.data.toList && decide (0 < s.size)

theorem take_snoc (s : ByteArray) (k : Nat) (h : k < s.size) : s.data.toList.take (k + 1) = s.data.toList.take k ++ [s[k]] := by
  rw [List.take_succ_eq_append_getElem (by simpa using h)]; rfl
theorem take_all (s : ByteArray) (k : Nat) (h : s.size ≤ k) : s.data.toList.take k = s.data.toList :=
  List.take_of_length_le (by simpa using h)
theorem mem_at (s : ByteArray) (k : Nat) (h : k < s.size) : s[k] ∈ s.data.toList := by
  show s.data[k] ∈ s.data.toList
  simp

theorem dgAll_snoc (l : List UInt8) (c : UInt8) (h : dgAll l = true) (hc : dgI (c.toNat : Int) = true) : dgAll (l ++ [c]) = true := by
  unfold dgAll at *
  simp [List.all_append, h, hc]
theorem digitsB_not (s : ByteArray) (k : Nat) (h : k < s.size) (hc : dgI (s[k].toNat : Int) = false) : digitsB s = false := by
  unfold digitsB dgAll
  have : (s.data.toList.all fun c => dgI (c.toNat : Int)) = false := by
    rw [List.all_eq_false]
    exact ⟨s[k], mem_at s k h, by simp [hc]⟩
  simp [this]
theorem digitsB_end (s : ByteArray) (k : Nat) (h : s.size ≤ k) (hc : dgAll (s.data.toList.take k) = true) : digitsB s = decide (0 < s.size) := by
  unfold digitsB
  rw [take_all s k h] at hc
  simp [hc]
theorem dgI_false {r : Int} (h : r < 48 ∨ 57 < r) : dgI r = false := by
  unfold dgI; exact decide_eq_false (by omega)
theorem dgI_true {r : Int} (h : 48 ≤ r) (h' : r ≤ 57) : dgI r = true := by
  unfold dgI; exact decide_eq_true ⟨h, h'⟩
theorem ret_bool {a b : Bool} (h : a = b) : Ending.returned (.bool a) = .returned (.bool b) := by rw [h]

theorem ba_ext {a b : ByteArray} (h : a.data.toList = b.data.toList) : a = b := by
  obtain ⟨⟨a⟩⟩ := a
  obtain ⟨⟨b⟩⟩ := b
  simp at h; rw [h]
theorem empty_iff (x : ByteArray) : x.toList = [] ↔ x.size = 0 := by
  have h : x.size = x.data.toList.length := rfl
  rw [ByteArray.toList_eq, h, List.length_eq_zero_iff]

theorem below_drewN {B : Nat} {a w : World} (h : Below B a w) (n : Nat) : Below B a (w.drewN n) := ⟨h.os, h.tape, h.output, h.size, h.block⟩

theorem width_pos (s : ByteArray) (pos : Nat) (h : pos < s.size) : 1 ≤ (Utf8.decode s pos).2 := by
  by_cases ha : (s[pos]'h).toNat < 128
  · rw [decode_ascii s pos h ha]
    exact Nat.le_refl _
  · exact (decode_high s pos h (by omega)).2
/-- A rune below 128 is the byte itself; any other byte begins a rune from 128 on. -/
theorem rune_low (s : ByteArray) (pos : Nat) (h : pos < s.size) (hr : (Utf8.decode s pos).1 < 128) : (s[pos]'h).toNat = (Utf8.decode s pos).1 ∧ (Utf8.decode s pos).2 = 1 := by
  by_cases ha : (s[pos]'h).toNat < 128
  · rw [decode_ascii s pos h ha]; exact ⟨rfl, rfl⟩
  · have := (decode_high s pos h (by omega)).1; omega
theorem rune_dg (s : ByteArray) (pos : Nat) (h : pos < s.size) (hr : dgI ((Utf8.decode s pos).1 : Int) = true) : dgI (s[pos].toNat : Int) = true ∧ (Utf8.decode s pos).2 = 1 := by
  have hr' := hr
  unfold dgI at hr
  have := of_decide_eq_true hr
  obtain ⟨e, e'⟩ := rune_low s pos h (by omega)
  rw [e]; exact ⟨hr', e'⟩
theorem rune_not_dg (s : ByteArray) (pos : Nat) (h : pos < s.size) (hr : dgI ((Utf8.decode s pos).1 : Int) = false) : dgI (s[pos].toNat : Int) = false := by
  by_cases ha : (s[pos]'h).toNat < 128
  · rw [decode_ascii s pos h ha] at hr; exact hr
  · exact dgI_false (.inr (by omega))

theorem notEmpty (s : ByteArray) : (!s.toList.isEmpty) = decide (0 < s.size) := by
  have h : s.size = s.data.toList.length := rfl
  rw [ByteArray.toList_eq, h]
  cases s.data.toList <;> simp

theorem one_cell (W : World) (x : Value) (t : TypeId) : (W.alloc (.cells #[x] t)).cell? ⟨W.heap.size, 0, none⟩ = some x := by
  rw [World.cell?_alloc_at _ _ _ _ rfl]; rfl
theorem ret_str {a b : ByteArray} (h : a = b) : Ending.returned (.string a) = .returned (.string b) := by rw [h]
theorem ret_int {k : IntKind} {a b : Int} (h : a = b) : Ending.returned (.int k a) = .returned (.int k b) := by rw [h]

theorem conv_one (W : World) (n : Int) : (convert 22 9 (.slice (some ⟨W.heap.size, 0, none⟩) 1 1)).run Try.prog (W.alloc (.cells #[.int .u8 n] 5)) =
    .ok (.string (strOfNums [n])) (W.alloc (.cells #[.int .u8 n] 5)) :=
  run_convert_bytes_arg _ 22 5 Try.underlying22 Try.underlying5 _ 0 1 1 [n] rfl (fun i hi => by
    obtain rfl : i = 0 := by omega
    rw [World.cell?_alloc_at _ _ _ _ rfl]; rfl) 9 Try.underlying9

end Go.Proofs.Ytfofbnpgjdagkaa
