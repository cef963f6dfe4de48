
/- A table of moves, the program's side: StayingMoves: contract. -/
import Derived.Test.YtfofbnpgjdagkaaInts
namespace Go.Proofs.Ytfofbnpgjdagkaa
open Go.RowKit
set_option maxRecDepth 100000

theorem implStayingMoves (w : World) : Calls Try.prog 19 #[] w (NewInt (List.replicate 64 0) w) := by
  have hmk : ∀ W : World, (Instr.makeSlice 23 (.int .i64 64) (.int .i64 64)).run Try.prog W = .ok (.slice (some ⟨W.heap.size, 0, none⟩) 64 64) (W.alloc (.cells (madeCells #[.int .i64 0] (64 * 1)) 3)) := make_ints 64 (by omega)
  go_enter Try.func19, Try.ntmps19
  go_wp2
  go_ret
  refine ⟨_, rfl, ?_, (Below.refl _ _).alloc (Nat.le_refl _) _⟩
  have h := World.ownsRow_lit (base := w.heap.size) (e := 3) (size := 1) w (madeCells #[.int .i64 0] (64 * 1)) 64 (Nat.le_refl _) (by unfold maxLen; omega) (by rw [size_madeCells])
  have e : (madeCells #[Value.int .i64 0] (64 * 1)).toList = (List.replicate 64 (0 : Int)).flatMap intCells := (made_flat #[Value.int .i64 0] 64).trans (by rw [List.flatMap_def, List.map_replicate]; rfl)
  unfold OwnOf
  rw [← e, List.length_replicate]
  exact h
end Go.Proofs.Ytfofbnpgjdagkaa
