
/- The model's windows of marked minutes: contract of l04Of. -/
import Derived.Test.YtmjdlkninibocaaWinMerge
namespace Go.Proofs.Ytmjdlkninibocaa
open Go.RowKit
set_option maxRecDepth 100000

@[reducible] def boolCells (b : Bool) : List Value := [.bool b]
theorem boolLen (b : Bool) : (boolCells b).length = 1 := rfl
def SlBool : World → Value → List Bool → Prop := SlOf 1 boolCells
def markF (l : List Bool) (j : Nat) : Bool := l[j]?.getD false
theorem markF_at {l : List Bool} {k : Nat} {b : Bool} (h : l[k]? = some b) : markF l k = b := by unfold markF; rw [h]; rfl

theorem GathW.set {w wr : World} {acc : List WindowD} {y : WindowD} {g cap : Nat} (t : Int) (h : GathW w (.slice (some ⟨g, 0, none⟩) (acc.length + 1) cap) (acc ++ [y]) wr) :
    GathW w (.slice (some ⟨g, 0, none⟩) (acc.length + 1) cap) (acc ++ [⟨y.fr, t⟩]) (wr.setCell ⟨g, acc.length * 2 + 1, none⟩ (.int .i64 t)) := by
  have hrow : wr.ownsRow w.heap.size 36 2 (.slice (some ⟨g, 0, none⟩) (acc.length + 1) cap) (acc.length + 1) ((acc ++ [y]).flatMap WindowD.cells) := by
    have := h.1
    unfold OwnWindow OwnOf at this
    rw [show (acc ++ [y]).length = acc.length + 1 by simp] at this
    exact this
  have hst := (World.ownsRow.stored hrow (acc.length * 2 + 1) (.int .i64 t)).1
  rw [flat_set] at hst
  refine ⟨?_, h.2.setCell (p := ⟨g, acc.length * 2 + 1, none⟩) (World.ownsRow.lt hrow g rfl).1 _⟩
  show World.ownsRow _ _ _ _ _ _ _
  rw [show (acc ++ [(⟨y.fr, t⟩ : WindowD)]).length = acc.length + 1 by simp]
  exact hst
theorem GathW.last {w wr : World} {acc : List WindowD} {y : WindowD} {v : Value} (h : GathW w v (acc ++ [y]) wr) :
    ∃ g cap, v = .slice (some ⟨g, 0, none⟩) (acc.length + 1) cap ∧ wr.cell? ⟨g, acc.length * 2 + 1, none⟩ = some (.int .i64 y.tt) ∧ wr.frozen? ⟨g, acc.length * 2 + 1, none⟩ = false := by
  have hrow : wr.ownsRow w.heap.size 36 2 v (acc.length + 1) ((acc ++ [y]).flatMap WindowD.cells) := by
    have := h.1
    unfold OwnWindow OwnOf at this
    rw [show (acc ++ [y]).length = acc.length + 1 by simp] at this
    exact this
  obtain ⟨g, cap, rfl⟩ := ownsRow_succ hrow
  exact ⟨g, cap, rfl, (World.ownsRow.cellAt hrow (acc.length * 2 + 1) (by omega)).trans (flat_last acc y).2, World.ownsRow.frozenAt hrow _⟩

theorem GathW.nextN {w W w4 : World} {v : Value} {acc : List WindowD} {x : WindowD} {g4 cap4 n : Nat} (e : n = acc.length) (h : GathW w v acc W)
    (hown : w4.ownsRow w.heap.size 36 2 (.slice (some ⟨g4, 0, none⟩) (n + 1) cap4) (n + 1) (acc.flatMap WindowD.cells ++ x.cells)) (hgr : W.grownBy w4 v.ownBlock) :
    GathW w (.slice (some ⟨g4, 0, none⟩) (n + 1) cap4) (acc ++ [x]) w4 := by subst e; exact h.next hown hgr
theorem GathW.row {w W : World} {v : Value} {acc : List WindowD} {n : Nat} (e : n = acc.length) (h : GathW w v acc W) : W.ownsRow w.heap.size 36 2 v n (acc.flatMap WindowD.cells) := by subst e; exact h.1

end Go.Proofs.Ytmjdlkninibocaa
