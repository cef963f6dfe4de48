
/- Rows of any values that a law marks and finds again. Over any program. -/
import Derived.Test.YtfofbnpgjdagkaaFlat
namespace Go.Proofs.Ytfofbnpgjdagkaa
open Go.RowKit

/-- A slice (of any elements that are rows of one-cell values) whose N cells hold mv 0, mv 1 and so on. -/
def MarkedV (w : World) (v : Value) (N : Nat) (mv : Nat → Value) : Prop :=
  N = 0 ∨ ∃ g o len c, v = .slice (some ⟨g, o, none⟩) len c ∧ ∀ j, j < N → w.cell? ⟨g, o + j, none⟩ = some (mv j)
theorem MarkedV.grown {w w' : World} {v : Value} {N : Nat} {mv : Nat → Value} {row : Option Nat} (h : MarkedV w v N mv) (hg : w.grownBy w' row) (hne : v.ownBlock = none ∨ v.ownBlock ≠ row) : MarkedV w' v N mv := by
  rcases h with h | ⟨g, o, len, c, rfl, hc⟩
  · exact .inl h
  · refine .inr ⟨g, o, len, c, rfl, fun j hj => hg.cell (hc j hj) ?_⟩
    rcases hne with hne | hne
    · simp [Value.ownBlock] at hne
    · exact hne
theorem MarkedV.below {w w' : World} {v : Value} {N : Nat} {mv : Nat → Value} (h : MarkedV w v N mv) (hb : Below w.heap.size w w') : MarkedV w' v N mv := by
  rcases h with h | ⟨g, o, len, c, rfl, hc⟩
  · exact .inl h
  · exact .inr ⟨g, o, len, c, rfl, fun j hj => (hb.cell (World.block_lt_of_cell? w _ (hc j hj))).trans (hc j hj)⟩

/-- What a marking loop has done when i of the N cells are marked. -/
def MarkRowV (w : World) (g o N : Nat) (mv : Nat → Value) (i : Nat) (wr : World) : Prop :=
  w.grownBy wr (some g) ∧ (∀ j, j < i → wr.cell? ⟨g, o + j, none⟩ = some (mv j)) ∧ (∀ j, i ≤ j → j < N → ∃ x, wr.cell? ⟨g, o + j, none⟩ = some x) ∧ (∀ j, wr.frozen? ⟨g, j, none⟩ = false) ∧ g < wr.heap.size
theorem MarkRowV.start {w : World} {g o N : Nat} {mv : Nat → Value} (h : ∀ j, j < N → ∃ x, w.cell? ⟨g, o + j, none⟩ = some x) (hN : 0 < N) (hf : ∀ j, w.frozen? ⟨g, j, none⟩ = false) {z : Nat} (hz : z = 0 := by simp) : MarkRowV w g o N mv z w := by
  subst hz
  obtain ⟨x, hx⟩ := h 0 hN
  exact ⟨World.grownBy.refl _ _, fun j hj => absurd hj (by omega), fun j _ hj => h j hj, hf, World.block_lt_of_cell? w ⟨g, o + 0, none⟩ hx⟩
theorem MarkRowV.next {w : World} {g o N : Nat} {mv : Nat → Value} {i : Nat} {wr : World} (h : MarkRowV w g o N mv i wr) (hi : i < N) (p : Nat) (hp : p = o + i) (u : Value) (hu : u = mv i) (i' : Nat) (hi' : i' = i + 1) : MarkRowV w g o N mv i' (wr.setCell ⟨g, p, none⟩ u) := by
  subst hp hu hi'
  obtain ⟨hg, hd, hr, hf, hlt⟩ := h
  obtain ⟨x, hx⟩ := hr i (Nat.le_refl _) hi
  refine ⟨grown_set hg _, fun j hj => ?_, fun j hj hjn => ?_, fun j => setCell_frozen _ _ _ _ (hf j), by simpa [World.setCell] using hlt⟩
  · by_cases e : j = i
    · subst e
      exact World.cell?_setCell_same _ _ _ hx
    · rw [World.cell?_setCell_other _ _ _ _ (by intro he; injection he with _ h2; omega)]
      exact hd j (by omega)
  · rw [World.cell?_setCell_other _ _ _ _ (by intro he; injection he with _ h2; omega)]
    exact hr j (by omega) hjn
theorem MarkRowV.below {w : World} {g o N : Nat} {mv : Nat → Value} {i : Nat} {wr w' : World} (h : MarkRowV w g o N mv i wr) (hb : Below wr.heap.size wr w') : MarkRowV w g o N mv i w' := by
  obtain ⟨hg, hd, hr, hf, hlt⟩ := h
  have key : ∀ {p : Nat} {x : Value}, wr.cell? ⟨g, p, none⟩ = some x → w'.cell? ⟨g, p, none⟩ = some x := fun {p x} hx => (hb.cell (p := ⟨g, p, none⟩) hlt).trans hx
  exact ⟨grown_below hg hb, fun j hj => key (hd j hj), fun j hj hjn => (hr j hj hjn).imp fun x hx => key hx, fun j => (hb.frozen (p := ⟨g, j, none⟩) hlt).trans (hf j), Nat.lt_of_lt_of_le hlt hb.size⟩
theorem MarkRowV.read {w : World} {g o N : Nat} {mv : Nat → Value} {i : Nat} {wr : World} (h : MarkRowV w g o N mv i wr) (j : Nat) (hj : i ≤ j) (hN : j < N) (p : Nat) (hp : p = o + j) : ∃ x, wr.cell? ⟨g, p, none⟩ = some x := by
  subst hp
  exact h.2.2.1 j hj hN

/-- The cells of a list of rows of n values, one by one. -/
theorem vals_of {α : Type} {n : Nat} {cs : α → List Value} (hn : 0 < n) (hk : ∀ x, (cs x).length = n) {w : World} {l : List α} {g o : Nat}
    (hc : ∀ i x, l[i]? = some x → ∀ j u, (cs x)[j]? = some u → w.cell? ⟨g, o + i * n + j, none⟩ = some u) : ∀ j, j < l.length * n → ∃ x, w.cell? ⟨g, o + j, none⟩ = some x := by
  intro j hj
  have hi : j / n < l.length := by rw [Nat.div_lt_iff_lt_mul hn]; exact hj
  have hm : j % n < n := Nat.mod_lt _ hn
  obtain ⟨x, hx⟩ : ∃ x, l[j / n]? = some x := ⟨_, List.getElem?_eq_getElem hi⟩
  obtain ⟨u, hu⟩ : ∃ u, (cs x)[j % n]? = some u := ⟨_, List.getElem?_eq_getElem (by rw [hk]; exact hm)⟩
  refine ⟨u, ?_⟩
  have e : o + j / n * n + j % n = o + j := by have := Nat.div_add_mod' j n; omega
  have := hc (j / n) x hx (j % n) u hu
  rwa [e] at this
/-- What is left of a bound. -/
def leftOf (lim t : Int) : Int := if lim < t then -1 else lim - t
theorem leftOf_no {lim t : Int} (h : lim < t) : leftOf lim t = -1 := if_pos h
theorem leftOf_yes {lim t : Int} (h : ¬ lim < t) : leftOf lim t = lim - t := if_neg h
end Go.Proofs.Ytfofbnpgjdagkaa
