/- Blocks that are known whole, and what stays of them and of a cursor beside them. -/
import Derived.Test.YtbcbbolakjjglaaDraw
import Derived.Test.YtbcbbolakjjglaaRows2
namespace Go.Proofs.Ytbcbbolakjjglaa
open Go.RowKit
set_option maxRecDepth 100000

theorem grown_alloc (w : World) (o : Obj) (row : Option Nat) : w.grownBy (w.alloc o) row := grown_of_below ((Below.refl _ _).alloc (Nat.le_refl _) o) row
theorem Cursor.lt {w : World} {p : Nat} (h : Cursor w p) : p < w.heap.size := by
  obtain ⟨A, n, c, i, q, hc, _⟩ := h
  exact hc.lt

/-- A block that is known whole, and may be written. -/
def Blk (w : World) (b : Nat) (cs : Array Value) (t : TypeId) : Prop := w.heap[b]? = some (.cells cs t (0, 0))
theorem Blk.new (w : World) (cs : Array Value) (t : TypeId) : Blk (w.alloc (.cells cs t)) w.heap.size cs t := heap_alloc_new w _
theorem Blk.lt {w : World} {b : Nat} {cs : Array Value} {t : TypeId} (h : Blk w b cs t) : b < w.heap.size := by
  rcases Nat.lt_or_ge b w.heap.size with hlt | hge
  · exact hlt
  · unfold Blk at h; rw [Array.getElem?_eq_none hge] at h; cases h
theorem Blk.grown {w w' : World} {b : Nat} {cs : Array Value} {t : TypeId} {row : Option Nat} (h : Blk w b cs t) (hg : w.grownBy w' row) (hne : some b ≠ row) : Blk w' b cs t := (hg.block b h.lt hne).trans h
theorem Blk.below {w w' : World} {b : Nat} {cs : Array Value} {t : TypeId} (h : Blk w b cs t) (hb : Below w.heap.size w w') : Blk w' b cs t := (hb.block b h.lt).trans h
theorem Blk.cell {w : World} {b : Nat} {cs : Array Value} {t : TypeId} (h : Blk w b cs t) (i : Nat) : w.cell? ⟨b, i, none⟩ = cs[i]? := Joins.cell_of_block h i
theorem Blk.free {w : World} {b : Nat} {cs : Array Value} {t : TypeId} (h : Blk w b cs t) (i : Nat) : w.frozen? ⟨b, i, none⟩ = false := Joins.unfrozen_of_block h i

theorem Blk.set {w : World} {b : Nat} {cs : Array Value} {t : TypeId} (h : Blk w b cs t) (j : Nat) (u : Value) : Blk (w.setCell ⟨b, j, none⟩ u) b (cs.setIfInBounds j u) t := Joins.block_setCell h u
theorem Blk.other {w : World} {b : Nat} {cs : Array Value} {t : TypeId} (h : Blk w b cs t) {b' : Nat} (hne : b ≠ b') (j : Nat) (u : Value) : Blk (w.setCell ⟨b', j, none⟩ u) b cs t := (Below.heap_setCell w ⟨b', j, none⟩ u b hne).trans h
theorem grown_setNew {a w : World} {row : Option Nat} {b j : Nat} (h : a.grownBy w row) (hb : a.heap.size ≤ b) (u : Value) : a.grownBy (w.setCell ⟨b, j, none⟩ u) row :=
  ⟨h.os, h.tape, h.output, by simpa [World.setCell] using h.size, fun i hi hne => (Below.heap_setCell w ⟨b, j, none⟩ u i (by show i ≠ b; omega)).trans (h.block i hi hne)⟩
/-- A cursor stays one when only blocks are written that are younger than it. -/
theorem Cursor.grown {w w' : World} {p : Nat} {row : Option Nat} (h : Cursor w p) (hg : w.grownBy w' row) (hne : ∀ b, row = some b → p < b) : Cursor w' p := by
  have hp := h.lt
  obtain ⟨A, n, c, i, q, hc, h0, h1, hB⟩ := h
  refine ⟨A, n, c, i, q, (hg.block p hp (fun e => Nat.lt_irrefl _ (hne p e.symm))).trans hc, h0, h1, hB.1, fun hn => ?_⟩
  obtain ⟨g, o, rfl, hgp, hx⟩ := hB.2 hn
  refine ⟨g, o, rfl, hgp, fun k hk => ?_⟩
  obtain ⟨x, x0, x1, hcell⟩ := hx k hk
  exact ⟨x, x0, x1, hg.cell hcell (fun e => Nat.lt_asymm hgp (hne g e.symm))⟩
theorem grown_set1 (w : World) (b j : Nat) (u : Value) : w.grownBy (w.setCell ⟨b, j, none⟩ u) (some b) :=
  ⟨rfl, rfl, rfl, by simp [World.setCell], fun i _ hne => Below.heap_setCell w ⟨b, j, none⟩ u i (fun e => hne (by rw [e]))⟩
theorem Cursor.set {w : World} {p b : Nat} (h : Cursor w p) (hne : p < b) (j : Nat) (u : Value) : Cursor (w.setCell ⟨b, j, none⟩ u) p :=
  h.grown (grown_set1 w b j u) (fun k e => by rw [← Option.some.inj e]; exact hne)
theorem Blk.drewN {w : World} {b : Nat} {cs : Array Value} {t : TypeId} (h : Blk w b cs t) (n : Nat) : Blk (w.drewN n) b cs t := h
theorem Blk.drew {w : World} {b : Nat} {cs : Array Value} {t : TypeId} (h : Blk w b cs t) : Blk w.drew b cs t := h
theorem Cursor.drew {w : World} {p : Nat} (h : Cursor w p) : Cursor w.drew p := h

end Go.Proofs.Ytbcbbolakjjglaa
