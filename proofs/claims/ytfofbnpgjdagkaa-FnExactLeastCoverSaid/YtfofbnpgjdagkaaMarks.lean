
/- The helpers of the exact laws over lists of strings: markText, eqStringS, markStringS: contracts. -/
import Derived.Test.YtfofbnpgjdagkaaStrs
namespace Go.Proofs.Ytfofbnpgjdagkaa
open Go.RowKit

/-! ### markText -/
def mkOut : Nat → Int → ByteArray → ByteArray
  | 0, _, out => out
  | f + 1, n, out => if 0 < n then mkOut f (n / 10) (strOfNums [48 + n % 10] ++ out) else out
def markT (k : Int) : ByteArray := if k ≤ 0 then ⟨#[109, 48]⟩ else ⟨#[109]⟩ ++ mkOut k.toNat k ⟨#[]⟩

theorem mkOut_step (f : Nat) (n : Int) (out : ByteArray) (hn : 0 < n) (hf : n.toNat ≤ f) : ∃ f', (n / 10).toNat ≤ f' ∧ mkOut f' (n / 10) (strOfNums [48 + n % 10] ++ out) = mkOut f n out := by
  cases f with
  | zero => omega
  | succ f => exact ⟨f, by omega, by simp [mkOut, hn]⟩
theorem mkOut_end (f : Nat) (n : Int) (out : ByteArray) (hn : ¬ 0 < n) : mkOut f n out = out := by
  cases f with
  | zero => rfl
  | succ f => simp [mkOut, hn]

/-! ### eqStringS, at two slices that read alike -/
end Go.Proofs.Ytfofbnpgjdagkaa
