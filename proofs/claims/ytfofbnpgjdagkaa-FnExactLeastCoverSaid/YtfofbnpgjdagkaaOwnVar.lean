
/- Lists of one's own beside blocks that are written. Over any program. -/
import Derived.Test.YtfofbnpgjdagkaaRows2
namespace Go.Proofs.Ytfofbnpgjdagkaa
open Go.RowKit
set_option maxRecDepth 100000

section
variable {α : Type} {k : Nat} {cs : α → List Value} {t : TypeId}
theorem own_kept {W w3 : World} {base : Nat} {v : Value} {l : List α} {row : Option Nat} (h : OwnOf k cs t W base v l) (hg : W.grownBy w3 row) (hne : ∀ b, v.ownBlock = some b → row ≠ some b) : OwnOf k cs t w3 base v l := by
  refine World.ownsRow.kept h hg ?_
  cases hv : v.ownBlock with
  | none => exact .inl rfl
  | some g => right; intro e; exact hne g hv e.symm
theorem own_blk (g n c : Nat) : (Value.slice (some ⟨g, 0, none⟩) n c).ownBlock = some g := by simp [Value.ownBlock]
theorem own_blk_ne {g n c b : Nat} (h : g ≠ b) : (Value.slice (some ⟨g, 0, none⟩) n c).ownBlock ≠ some b := by rw [own_blk]; exact fun e => h (Option.some.inj e)
theorem own_ge {W : World} {base : Nat} {v : Value} {l : List α} (h : OwnOf k cs t W base v l) {b : Nat} (hv : v.ownBlock = some b) : base ≤ b ∧ b < W.heap.size := World.ownsRow.lt h b hv
end
/-- A growth into a block that is younger than the first world. -/
theorem grown_young {a w w' : World} {row row' : Option Nat} (h : a.grownBy w row) (hg : w.grownBy w' row') (hy : ∀ b, row' = some b → a.heap.size ≤ b) : a.grownBy w' row :=
  ⟨hg.os.trans h.os, hg.tape.trans h.tape, hg.output.trans h.output, Nat.le_trans h.size hg.size, fun i hi hne => (hg.block i (Nat.lt_of_lt_of_le hi h.size) (fun e => Nat.lt_irrefl _ (Nat.lt_of_lt_of_le hi (hy i e.symm)))).trans (h.block i hi hne)⟩

end Go.Proofs.Ytfofbnpgjdagkaa
