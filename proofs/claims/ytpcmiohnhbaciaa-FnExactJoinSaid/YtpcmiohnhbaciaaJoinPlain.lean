/- Strings joined by a separator: plain facts. -/
import Derived.Test.YtpcmiohnhbaciaaText
import Derived.Lib.Join
namespace Go.Proofs.Ytpcmiohnhbaciaa
open Go.RowKit

def totS (l : List ByteArray) : Nat := (l.map ByteArray.size).sum
theorem totS_take (l : List ByteArray) (k : Nat) (x : ByteArray) (h : l[k]? = some x) : totS (l.take (k + 1)) = totS (l.take k) + x.size := by
  rw [List.take_add_one, h]; simp [totS]
def joinOf (l : List ByteArray) (sep : ByteArray) : ByteArray := ⟨(Lib.join (l.map (·.data.toList)) sep.data.toList).toArray⟩

theorem joinOf_nil (sep : ByteArray) : joinOf [] sep = ⟨#[]⟩ := rfl
theorem joinOf_data (l : List ByteArray) (sep : ByteArray) : (joinOf l sep).data.toList = Lib.join (l.map (·.data.toList)) sep.data.toList := rfl
theorem joinOf_one (x sep : ByteArray) : joinOf [x] sep = x := by
  apply ba_ext; rw [joinOf_data]; exact Lib.join_one _ _
theorem joinOf_snoc (l : List ByteArray) (x sep : ByteArray) (hl : l ≠ []) : joinOf (l ++ [x]) sep = (joinOf l sep ++ sep) ++ x := by
  apply ba_ext
  rw [joinOf_data]
  cases l with
  | nil => exact absurd rfl hl
  | cons a t =>
    have e : ((joinOf (a :: t) sep ++ sep) ++ x).data.toList = ((joinOf (a :: t) sep).data.toList ++ sep.data.toList) ++ x.data.toList := by simp [ByteArray.data_append]
    rw [e, joinOf_data]
    simp only [List.cons_append, List.map_cons, List.map_append, List.map_nil]
    rw [Lib.join_cons, Lib.join_cons]
    simp [Lib.joinTail]
theorem joinOf_size (l : List ByteArray) (sep : ByteArray) : ∀ k, k ≤ l.length → (joinOf (l.take k) sep).size ≤ totS (l.take k) + k * sep.size
  | 0, _ => by rw [List.take_zero, joinOf_nil]; exact Nat.zero_le _
  | k + 1, hk => by
    have ih := joinOf_size l sep k (by omega)
    obtain ⟨x, hx⟩ : ∃ x, l[k]? = some x := ⟨_, List.getElem?_eq_getElem (by omega)⟩
    have e : l.take (k + 1) = l.take k ++ [x] := by rw [List.take_add_one, hx]; rfl
    rw [totS_take l k x hx, Nat.succ_mul, e]
    by_cases h0 : l.take k = []
    · rw [h0, List.nil_append, joinOf_one]; omega
    · rw [joinOf_snoc _ x sep h0, ByteArray.size_append, ByteArray.size_append]; omega
theorem totS_le (l : List ByteArray) (k : Nat) : totS (l.take k) ≤ totS l := by
  have h : totS l = totS (l.take k) + totS (l.drop k) := by
    have e : l = l.take k ++ l.drop k := (List.take_append_drop k l).symm
    have : totS (l.take k ++ l.drop k) = totS (l.take k) + totS (l.drop k) := by unfold totS; rw [List.map_append, List.sum_append]
    rw [← this, ← e]
  omega
theorem joinOf_take_size (l : List ByteArray) (sep : ByteArray) (k : Nat) (ht : l.length + totS l ≤ 1048576) (hs : sep.size ≤ 1048576) : (joinOf (l.take k) sep).size ≤ 1099512676352 := by
  have h1 : (joinOf (l.take k) sep).size ≤ totS (l.take k) + min k l.length * sep.size := by
    have h := joinOf_size l sep (min k l.length) (Nat.min_le_right _ _)
    rw [← List.take_eq_take_min] at h
    exact h
  have h2 := totS_le l k
  have h3 : min k l.length ≤ 1048576 := by omega
  have h4 := Nat.mul_le_mul h3 hs
  omega

end Go.Proofs.Ytpcmiohnhbaciaa
