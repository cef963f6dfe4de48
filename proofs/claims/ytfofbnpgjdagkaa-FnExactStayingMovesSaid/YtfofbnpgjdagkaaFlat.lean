
/- Rows of integers that a law marks and finds again; small lemmas on owned slices. Over any program. -/
import Derived.Test.YtfofbnpgjdagkaaRows2
import Derived.Test.YtfofbnpgjdagkaaText
namespace Go.Proofs.Ytfofbnpgjdagkaa
open Go.RowKit

theorem grown_below {a b c : World} {row : Option Nat} (h : a.grownBy b row) (hb : Below b.heap.size b c) : a.grownBy c row :=
  ⟨hb.os.trans h.os, hb.tape.trans h.tape, hb.output.trans h.output, Nat.le_trans h.size hb.size, fun i hi hn => (hb.block i (Nat.lt_of_lt_of_le hi h.size)).trans (h.block i hi hn)⟩
theorem grown_set {a w : World} {g o : Nat} (h : a.grownBy w (some g)) (u : Value) : a.grownBy (w.setCell ⟨g, o, none⟩ u) (some g) :=
  ⟨h.os, h.tape, h.output, by simpa [World.setCell] using h.size, fun i hi hne => (Below.heap_setCell w _ u i (by rintro rfl; exact hne rfl)).trans (h.block i hi hne)⟩
theorem setCell_frozen (w : World) (a b : Addr) (u : Value) (h : w.frozen? b = false) : (w.setCell a u).frozen? b = false := by
  rw [World.frozen?_setCell]; exact h

/-- A slice (of any elements that are rows of integers) whose N cells hold k, k + 1 and so on. -/
def Marked (w : World) (v : Value) (N : Nat) (k : Int) : Prop :=
  N = 0 ∨ ∃ g o len c, v = .slice (some ⟨g, o, none⟩) len c ∧ ∀ j, j < N → w.cell? ⟨g, o + j, none⟩ = some (.int .i64 (k + (j : Int)))

theorem Marked.grown {w w' : World} {v : Value} {N : Nat} {k : Int} {row : Option Nat} (h : Marked w v N k) (hg : w.grownBy w' row) (hne : v.ownBlock = none ∨ v.ownBlock ≠ row) : Marked w' v N k := by
  rcases h with h | ⟨g, o, len, c, rfl, hc⟩
  · exact .inl h
  · refine .inr ⟨g, o, len, c, rfl, fun j hj => hg.cell (hc j hj) ?_⟩
    rcases hne with hne | hne
    · simp [Value.ownBlock] at hne
    · exact hne
theorem Marked.below {w w' : World} {v : Value} {N : Nat} {k : Int} (h : Marked w v N k) (hb : Below w.heap.size w w') : Marked w' v N k := by
  rcases h with h | ⟨g, o, len, c, rfl, hc⟩
  · exact .inl h
  · exact .inr ⟨g, o, len, c, rfl, fun j hj => (hb.cell (World.block_lt_of_cell? w _ (hc j hj))).trans (hc j hj)⟩

/-- What a marking loop has done when i of the N cells are marked. -/
def MarkRow (w : World) (g o N : Nat) (k : Int) (i : Nat) (wr : World) : Prop :=
  w.grownBy wr (some g) ∧ (∀ j, j < i → wr.cell? ⟨g, o + j, none⟩ = some (.int .i64 (k + (j : Int)))) ∧ (∀ j, i ≤ j → j < N → ∃ x, wr.cell? ⟨g, o + j, none⟩ = some (.int .i64 x)) ∧ ∀ j, wr.frozen? ⟨g, j, none⟩ = false

theorem MarkRow.start {w : World} {g o N : Nat} {k : Int} (h : ∀ j, j < N → ∃ x, w.cell? ⟨g, o + j, none⟩ = some (.int .i64 x)) (hf : ∀ j, w.frozen? ⟨g, j, none⟩ = false) {z : Nat} (hz : z = 0 := by simp) : MarkRow w g o N k z w := by
  subst hz
  exact ⟨World.grownBy.refl _ _, fun j hj => absurd hj (by omega), fun j _ hj => h j hj, hf⟩

theorem MarkRow.next {w : World} {g o N : Nat} {k : Int} {i : Nat} {wr : World} (h : MarkRow w g o N k i wr) (hi : i < N) :
    (∃ x, wr.cell? ⟨g, o + i, none⟩ = some (.int .i64 x)) ∧ wr.frozen? ⟨g, o + i, none⟩ = false ∧ MarkRow w g o N k (i + 1) (wr.setCell ⟨g, o + i, none⟩ (.int .i64 (k + (i : Int)))) := by
  obtain ⟨hg, hd, hr, hf⟩ := h
  obtain ⟨x, hx⟩ := hr i (Nat.le_refl _) hi
  refine ⟨⟨x, hx⟩, hf _, grown_set hg _, fun j hj => ?_, fun j hj hjn => ?_, fun j => setCell_frozen _ _ _ _ (hf j)⟩
  · by_cases e : j = i
    · subst e
      exact World.cell?_setCell_same _ _ _ hx
    · rw [World.cell?_setCell_other _ _ _ _ (by intro he; injection he with _ h2; omega)]
      exact hd j (by omega)
  · rw [World.cell?_setCell_other _ _ _ _ (by intro he; injection he with _ h2; omega)]
    exact hr j (by omega) hjn

theorem MarkRow.next' {w : World} {g o N : Nat} {k : Int} {i : Nat} {wr : World} (h : MarkRow w g o N k i wr) (hi : i < N) (p : Nat) (hp : p = o + i) (x : Int) (hx : x = k + (i : Int)) (i' : Nat) (hi' : i' = i + 1) : MarkRow w g o N k i' (wr.setCell ⟨g, p, none⟩ (.int .i64 x)) := by
  subst hp hx hi'
  exact (h.next hi).2.2
theorem MarkRow.read {w : World} {g o N : Nat} {k : Int} {i : Nat} {wr : World} (h : MarkRow w g o N k i wr) (j : Nat) (hj : i ≤ j) (hN : j < N) (p : Nat) (hp : p = o + j) : ∃ x, wr.cell? ⟨g, p, none⟩ = some (.int .i64 x) := by
  subst hp
  exact h.2.2.1 j hj hN

/-- The cells of a list of rows of n integers, one by one. -/
theorem ints_of {α : Type} {n : Nat} {cs : α → List Value} (is : α → List Int) (his : ∀ x, cs x = (is x).map (Value.int .i64)) (hn : 0 < n) (hk : ∀ x, (cs x).length = n) {w : World} {l : List α} {g o : Nat}
    (hc : ∀ i x, l[i]? = some x → ∀ j u, (cs x)[j]? = some u → w.cell? ⟨g, o + i * n + j, none⟩ = some u) : ∀ j, j < l.length * n → ∃ x, w.cell? ⟨g, o + j, none⟩ = some (.int .i64 x) := by
  intro j hj
  have hi : j / n < l.length := by rw [Nat.div_lt_iff_lt_mul hn]; exact hj
  have hm : j % n < n := Nat.mod_lt _ hn
  obtain ⟨x, hx⟩ : ∃ x, l[j / n]? = some x := ⟨_, List.getElem?_eq_getElem hi⟩
  have hlen : (is x).length = n := by have := hk x; rw [his, List.length_map] at this; exact this
  obtain ⟨u, hu⟩ : ∃ u, (is x)[j % n]? = some u := ⟨_, List.getElem?_eq_getElem (by omega)⟩
  refine ⟨u, ?_⟩
  have e : o + j / n * n + j % n = o + j := by have := Nat.div_add_mod' j n; omega
  have := hc (j / n) x hx (j % n) (.int .i64 u) (by rw [his, List.getElem?_map, hu]; rfl)
  rwa [e] at this

/-- A cell of an older block is set: what is owned stays owned. -/
theorem own_set_under {α : Type} {k : Nat} {cs : α → List Value} {t : TypeId} {w : World} {base : Nat} {v : Value} {l : List α} (h : OwnOf k cs t w base v l) {a : Addr} (ha : a.block < base) (u : Value) : OwnOf k cs t (w.setCell a u) base v l := by
  refine World.ownsRow.kept h (row := some a.block) ⟨rfl, rfl, rfl, by simp [World.setCell], fun i hi hne => Below.heap_setCell w _ u i (by rintro rfl; exact hne rfl)⟩ ?_
  cases hv : v.ownBlock with
  | none => exact .inl rfl
  | some g =>
    right
    intro e
    have := (World.ownsRow.lt h g hv).1
    have := Option.some.inj e
    omega

end Go.Proofs.Ytfofbnpgjdagkaa
