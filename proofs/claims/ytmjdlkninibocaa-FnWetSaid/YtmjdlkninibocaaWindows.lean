
/- Window by value and in lists: the laws' helpers over it: contracts; how an argument is opened. -/
import Derived.Test.YtmjdlkninibocaaText
import Derived.Test.YtmjdlkninibocaaOpen
import Derived.Test.YtmjdlkninibocaaFlat
import Derived.StillTailTactics
namespace Go.Proofs.Ytmjdlkninibocaa
open Go.ChangeShapes Go.WideShapes Go.ChangeAt Go.Deep Go.RowKit
set_option maxRecDepth 100000

structure WindowD where
  fr : Int
  tt : Int
@[reducible] def WindowD.val (d : WindowD) : Value := .agg #[.int .i64 d.fr, .int .i64 d.tt]
@[reducible] def WindowD.cells (d : WindowD) : List Value := [.int .i64 d.fr, .int .i64 d.tt]
theorem windowLen (d : WindowD) : d.cells.length = 2 := rfl
def SlWindow : World → Value → List WindowD → Prop := SlOf 2 WindowD.cells
def OwnWindow : World → Nat → Value → List WindowD → Prop := OwnOf 2 WindowD.cells 36
def NewWindow : List WindowD → World → Ending → World → Prop := NewOf 2 WindowD.cells 36
theorem SlWindow.at {w : World} {v : Value} {l : List WindowD} (h : SlWindow w v l) : ∃ A c, v = .slice A l.length c := SlOf.form h
theorem SlWindow.below {w w' : World} {v : Value} {l : List WindowD} (h : SlWindow w v l) (hb : Below w.heap.size w w') : SlWindow w' v l := SlOf.below h hb
theorem OwnWindow.sl {w : World} {base : Nat} {v : Value} {l : List WindowD} (h : OwnWindow w base v l) (hl : l.length ≤ 1000000000) : SlWindow w v l := own_sl windowLen h hl
theorem SlWindow.cells {w : World} {l : List WindowD} {g o : Nat} (hc : ∀ i x, l[i]? = some x → ∀ j u, (WindowD.cells x)[j]? = some u → w.cell? ⟨g, o + i * 2 + j, none⟩ = some u) (i : Nat) (x : WindowD) (hx : l[i]? = some x) :
    w.cell? ⟨g, o + i * 2, none⟩ = some (.int .i64 x.fr) ∧ w.cell? ⟨g, o + i * 2 + 1, none⟩ = some (.int .i64 x.tt) :=
  ⟨hc i x hx 0 _ rfl, hc i x hx 1 _ rfl⟩
def zeroWindow : List Value := [.int .i64 0, .int .i64 0]
theorem info_window : (Try.prog.info? 36).map (fun i => (i.zero, i.size, i.bytes)) = some (some (.agg #[.int .i64 0, .int .i64 0]), 2, 16) := by kernel_rfl
theorem make_windows (n : Nat) (hn : n ≤ 1000000000) (W : World) :
    (Instr.makeSlice 23 (.int .i64 (n : Int)) (.int .i64 (n : Int))).run Try.prog W = .ok (.slice (some ⟨W.heap.size, 0, none⟩) n n) (W.alloc (.cells (madeCells #[.int .i64 0, .int .i64 0] (n * 2)) 36)) := by
  obtain ⟨i0, hi, hz0, hz1, hz2⟩ := info_parts info_window
  have hr := run_make (P := Try.prog) W 23 36 i0 _ Try.underlying23 hi hz0 .i64 .i64 n n (by omega) (Int.le_refl _) (by rw [hz2]; omega) (by omega)
  simp only [Int.toNat_natCast, hz1] at hr
  exact hr

section
variable {H : Type} {enc : TypeId × Value → H} {w : World} {base : Nat} {spare : Nat → Bool} {held : Bool}
def WindowD.wf (d : WindowD) : Prop := (Lit.int .i64 d.fr).wf = true ∧ (Lit.int .i64 d.tt).wf = true

end

end Go.Proofs.Ytmjdlkninibocaa
