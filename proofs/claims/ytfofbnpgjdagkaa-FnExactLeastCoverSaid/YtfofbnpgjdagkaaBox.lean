
/- Small lemmas on variables that hold structs of lists, and on slices whose memory a law writes. Over any program. -/
import Derived.Test.YtfofbnpgjdagkaaFlatV
namespace Go.Proofs.Ytfofbnpgjdagkaa
open Go.RowKit

/-- Two slices in different blocks. -/
def ApartV (v u : Value) : Prop := ∀ g, v.ownBlock = some g → u.ownBlock ≠ some g
theorem ApartV.ne {v u : Value} (h : ApartV v u) : (u.ownBlock = none ∨ u.ownBlock ≠ v.ownBlock) ∧ (v.ownBlock = none ∨ v.ownBlock ≠ u.ownBlock) := by
  cases hv : v.ownBlock with
  | none => exact ⟨by cases hu : u.ownBlock with | none => exact .inl rfl | some g => exact .inr (by simp), .inl rfl⟩
  | some g => exact ⟨.inr (h g hv), .inr (fun e => h g hv e.symm)⟩
theorem bcellV {W w1 : World} (hb : Below W.heap.size W w1) : (∀ b o, b < W.heap.size → w1.cell? ⟨b, o, none⟩ = W.cell? ⟨b, o, none⟩) ∧ (∀ b o, b < W.heap.size → w1.frozen? ⟨b, o, none⟩ = W.frozen? ⟨b, o, none⟩) :=
  ⟨fun b o h => hb.cell (p := ⟨b, o, none⟩) h, fun b o h => hb.frozen (p := ⟨b, o, none⟩) h⟩
theorem cell_onV {a b : World} {p : Addr} {v : Value} (h : a.cell? p = some v) (hb : Below a.heap.size a b) : b.cell? p = some v := (hb.cell (World.block_lt_of_cell? a _ h)).trans h
/-- A slice whose block nothing has frozen. -/
def FreeV (w : World) (v : Value) : Prop := ∀ g, v.ownBlock = some g → (∀ j, w.frozen? ⟨g, j, none⟩ = false) ∧ g < w.heap.size
theorem FreeV.below {w w' : World} {v : Value} (h : FreeV w v) (hb : Below w.heap.size w w') : FreeV w' v := fun g hg =>
  ⟨fun j => (hb.frozen (p := ⟨g, j, none⟩) (h g hg).2).trans ((h g hg).1 j), Nat.lt_of_lt_of_le (h g hg).2 hb.size⟩
theorem FreeV.grown {w w' : World} {v : Value} {row : Option Nat} (h : FreeV w v) (hg : w.grownBy w' row) (hne : v.ownBlock = none ∨ v.ownBlock ≠ row) : FreeV w' v := fun g hgv => by
  have e := hg.block g (h g hgv).2 (fun e => by
    rcases hne with hn | hn
    · rw [hgv] at hn; cases hn
    · exact hn (hgv.trans e))
  refine ⟨fun j => ?_, Nat.lt_of_lt_of_le (h g hgv).2 hg.size⟩
  have := (h g hgv).1 j
  simpa [World.frozen?, e] using this
theorem own_freeV {α : Type} {k : Nat} {cs : α → List Value} {t : TypeId} {w : World} {base : Nat} {v : Value} {l : List α} (h : OwnOf k cs t w base v l) : FreeV w v := by
  intro g hg
  rcases Joins.ownsRow_forms h with ⟨rfl, _⟩ | ⟨g', cap, rfl⟩
  · simp [Value.ownBlock] at hg
  · have e : g' = g := by simpa [Value.ownBlock] using hg
    subst e
    exact ⟨fun j => World.ownsRow.frozenAt h _, (World.ownsRow.lt h g' hg).2⟩
theorem grownV_size {a b : World} {r : Option Nat} (h : a.grownBy b r) : a.heap.size ≤ b.heap.size := h.size
end Go.Proofs.Ytfofbnpgjdagkaa
