
/- A list of windows that grows in a slot. -/
import Derived.Test.YtmjdlkninibocaaWinOkSpec
import Derived.Deep.AppendLies
namespace Go.Proofs.Ytmjdlkninibocaa
open Go.RowKit
set_option maxRecDepth 100000

theorem window_one (x : WindowD) : ∀ v ∈ x.cells, v.oneCell' = true := fun v hv => by simp at hv; rcases hv with rfl | rfl <;> rfl
/-- The value v is a list of windows over memory that is new since w; what w held is as it was. -/
def GathW (w : World) (v : Value) (acc : List WindowD) (wr : World) : Prop := OwnWindow wr w.heap.size v acc ∧ Below w.heap.size w wr
theorem GathW.size {w wr : World} {v : Value} {acc : List WindowD} (h : GathW w v acc wr) : w.heap.size ≤ wr.heap.size := h.2.size
theorem GathW.empty {w wr : World} (hb : Below w.heap.size w wr) : GathW w (.slice none 0 0) [] wr := ⟨⟨by simp, .inl ⟨rfl, rfl⟩⟩, hb⟩
/-- An empty list over a new block of no cells. -/
theorem GathW.made {w wr : World} (hb : Below w.heap.size w wr) : GathW w (.slice (some ⟨wr.heap.size, 0, none⟩) 0 0) [] (wr.alloc (.cells #[] 36)) :=
  ⟨⟨by simp, .inr ⟨wr.heap.size, 0, #[], rfl, hb.size, heap_alloc_new wr _, Nat.le_refl _, by omega, by simp, by simp⟩⟩, hb.alloc hb.size _⟩
theorem GathW.below {w wr W : World} {v : Value} {acc : List WindowD} (h : GathW w v acc wr) (hb : Below wr.heap.size wr W) : GathW w v acc W :=
  ⟨own_below h.1 hb, h.2.trans (hb.mono h.size)⟩
theorem GathW.next {w W w4 : World} {v : Value} {acc : List WindowD} {x : WindowD} {g4 cap4 : Nat} (h : GathW w v acc W)
    (hown : w4.ownsRow w.heap.size 36 2 (.slice (some ⟨g4, 0, none⟩) (acc.length + 1) cap4) (acc.length + 1) (acc.flatMap WindowD.cells ++ x.cells)) (hgr : W.grownBy w4 v.ownBlock) :
    GathW w (.slice (some ⟨g4, 0, none⟩) (acc.length + 1) cap4) (acc ++ [x]) w4 := by
  refine ⟨?_, h.2.grown hgr h.size (fun k hk => (World.ownsRow.lt h.1 k hk).1)⟩
  simpa [OwnWindow, OwnOf] using hown
theorem GathW.new {w wr : World} {v : Value} {acc R : List WindowD} (h : GathW w v acc wr) (e : R = acc) : NewWindow R w (.returned v) wr := by
  subst e
  exact ⟨v, rfl, h.1, h.2⟩
theorem GathW.form {w wr : World} {v : Value} {acc : List WindowD} (h : GathW w v acc wr) : ∃ A c, v = .slice A acc.length c := own_form h.1
theorem NewWindow.empty {w w' : World} {R : List WindowD} (hb : Below w.heap.size w w') (e : R = []) : NewWindow R w (.returned (.slice none 0 0)) w' := (GathW.empty hb).new e
end Go.Proofs.Ytmjdlkninibocaa
