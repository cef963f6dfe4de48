
/- Blocks that are known whole, and what stays of them and of a cursor beside them. -/
import Derived.Test.YtfofbnpgjdagkaaDraw
import Derived.Test.YtfofbnpgjdagkaaBlk0
namespace Go.Proofs.Ytfofbnpgjdagkaa
open Go.RowKit
set_option maxRecDepth 100000

theorem grown_alloc (w : World) (o : Obj) (row : Option Nat) : w.grownBy (w.alloc o) row := grown_of_below ((Below.refl _ _).alloc (Nat.le_refl _) o) row
theorem Cursor.lt {w : World} {p : Nat} (h : Cursor w p) : p < w.heap.size := by
  obtain ⟨A, n, c, i, q, hc, _⟩ := h
  exact hc.lt

theorem grown_setNew {a w : World} {row : Option Nat} {b j : Nat} (h : a.grownBy w row) (hb : a.heap.size ≤ b) (u : Value) : a.grownBy (w.setCell ⟨b, j, none⟩ u) row :=
  ⟨h.os, h.tape, h.output, by simpa [World.setCell] using h.size, fun i hi hne => (Below.heap_setCell w ⟨b, j, none⟩ u i (by show i ≠ b; omega)).trans (h.block i hi hne)⟩
/-- A cursor stays one when only blocks are written that are younger than it. -/
theorem Cursor.grown {w w' : World} {p : Nat} {row : Option Nat} (h : Cursor w p) (hg : w.grownBy w' row) (hne : ∀ b, row = some b → p < b) : Cursor w' p := by
  have hp := h.lt
  obtain ⟨A, n, c, i, q, hc, h0, h1, hB⟩ := h
  refine ⟨A, n, c, i, q, (hg.block p hp (fun e => Nat.lt_irrefl _ (hne p e.symm))).trans hc, h0, h1, hB.1, fun hn => ?_⟩
  obtain ⟨g, o, rfl, hgp, hx⟩ := hB.2 hn
  refine ⟨g, o, rfl, hgp, fun k hk => ?_⟩
  obtain ⟨x, x0, x1, hcell⟩ := hx k hk
  exact ⟨x, x0, x1, hg.cell hcell (fun e => Nat.lt_asymm hgp (hne g e.symm))⟩
theorem grown_set1 (w : World) (b j : Nat) (u : Value) : w.grownBy (w.setCell ⟨b, j, none⟩ u) (some b) :=
  ⟨rfl, rfl, rfl, by simp [World.setCell], fun i _ hne => Below.heap_setCell w ⟨b, j, none⟩ u i (fun e => hne (by rw [e]))⟩
theorem Cursor.set {w : World} {p b : Nat} (h : Cursor w p) (hne : p < b) (j : Nat) (u : Value) : Cursor (w.setCell ⟨b, j, none⟩ u) p :=
  h.grown (grown_set1 w b j u) (fun k e => by rw [← Option.some.inj e]; exact hne)
theorem Cursor.drew {w : World} {p : Nat} (h : Cursor w p) : Cursor w.drew p := h

end Go.Proofs.Ytfofbnpgjdagkaa
