
/- The helpers of the exact laws over lists of strings: markText, eqStringS, markStringS: contracts. -/
import Derived.Test.YtghjfcnboocmjaaStrs
namespace Go.Proofs.Ytghjfcnboocmjaa
open Go.RowKit

/-! ### markText -/
def mkOut : Nat → Int → ByteArray → ByteArray
  | 0, _, out => out
  | f + 1, n, out => if 0 < n then mkOut f (n / 10) (strOfNums [48 + n % 10] ++ out) else out
def markT (k : Int) : ByteArray := if k ≤ 0 then ⟨#[109, 48]⟩ else ⟨#[109]⟩ ++ mkOut k.toNat k ⟨#[]⟩

theorem mkOut_step (f : Nat) (n : Int) (out : ByteArray) (hn : 0 < n) (hf : n.toNat ≤ f) : ∃ f', (n / 10).toNat ≤ f' ∧ mkOut f' (n / 10) (strOfNums [48 + n % 10] ++ out) = mkOut f n out := by
  cases f with
  | zero => omega
  | succ f => exact ⟨f, by omega, by simp [mkOut, hn]⟩
theorem mkOut_end (f : Nat) (n : Int) (out : ByteArray) (hn : ¬ 0 < n) : mkOut f n out = out := by
  cases f with
  | zero => rfl
  | succ f => simp [mkOut, hn]

set_option maxHeartbeats 1000000 in
theorem markText_any (k : Int) (w : World) (h1 : k ≤ 1000000000000) :
    Calls Try.prog 76 #[.int .i64 k] w fun e w' => e = .returned (.string (markT k)) ∧ Below w.heap.size w w' := by
  by_cases hk : k ≤ 0
  · have hm := Lib.hid (show markT k = ⟨#[109, 48]⟩ from if_pos hk)
    go_enter Try.func76, Try.ntmps76
    go_wp2
    go_ret
    exact ⟨ret_str hm.out.symm, Below.refl _ _⟩
  · have hm := Lib.hid (show markT k = ⟨#[109]⟩ ++ mkOut k.toNat k ⟨#[]⟩ from if_neg hk)
    go_enter Try.func76, Try.ntmps76
    go_wp2
    go_loopw [0, 3] (fun i o wr => ∃ (f : Nat) (n : Int) (out : ByteArray), 0 ≤ n ∧ (out.size : Int) + n ≤ k ∧ i = .int .i64 n ∧ o = .string out ∧ n.toNat ≤ f ∧ Hid (mkOut f n out = mkOut k.toNat k ⟨#[]⟩) ∧ Below w.heap.size w wr) (fun i _ _ => (intOf i).toNat)
    case atStart => exact ⟨k.toNat, k, _, by omega, by show ((0 : Nat) : Int) + k ≤ k; omega, rfl, rfl, by omega, rfl, Below.refl _ _⟩
    case round =>
      obtain ⟨f, n, out, hn, hnk, rfl, rfl, hf, hd, hb⟩ := hrel
      by_cases hz : 0 < n
      · have hcv := conv_one wr (48 + n % 10)
        have hs1 := strOfNums_size [48 + n % 10]
        simp only [List.length_cons, List.length_nil] at hs1
        have hsz := hb.size
        go_wp2
        go_roundw
        case rel =>
          obtain ⟨f', hf', he⟩ := mkOut_step f n out hz hf
          exact ⟨f', n / 10, _, by omega, by rw [ByteArray.size_append]; omega, rfl, rfl, hf', he.trans hd.out, hb.alloc hsz _⟩
        case measure => simp [intOf]; omega
      · have he := Lib.hid (mkOut_end f n out hz)
        go_wp2
        go_ret
        exact ⟨ret_str (by rw [hm.out, ← hd.out, he.out]), hb⟩

/-! ### eqStringS, at two slices that read alike -/
end Go.Proofs.Ytghjfcnboocmjaa
