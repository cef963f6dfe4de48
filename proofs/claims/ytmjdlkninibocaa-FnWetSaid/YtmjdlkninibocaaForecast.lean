
/- A forecast by value: laws.toForecast, laws.szForecast, laws.eqForecast: contracts; a variable that holds one; how an argument is opened. -/
import Derived.Test.YtmjdlkninibocaaBand
import Derived.Test.YtmjdlkninibocaaTideArg
import Derived.Deep.RegionHeld3
namespace Go.Proofs.Ytmjdlkninibocaa
open Go.ChangeShapes Go.WideShapes Go.ChangeAt Go.Deep Go.RowKit
set_option maxRecDepth 100000

/-- Two slices in different blocks. -/
def Apart (v u : Value) : Prop := ∀ g, v.ownBlock = some g → u.ownBlock ≠ some g

/-- What toForecast leaves: a forecast over two new lists. -/
def NewFc (m : Int) (l : List PartD) (s : List SurgeD) (w : World) (e : Ending) (w' : World) : Prop :=
  ∃ v u, e = .returned (.agg #[.int .i64 m, v, u]) ∧ OwnP w' w.heap.size v l ∧ OwnSurge w' w.heap.size u s ∧ Apart v u ∧ Below w.heap.size w w'

/-- What is left of a bound after a forecast was measured. -/
def leftI (a b : Nat) : Int := if (1048576 : Int) < (a : Int) then -1 else if 1048576 - (a : Int) < (b : Int) then -1 else 1048576 - (a : Int) - (b : Int)

/-! ### A variable that holds a forecast -/
/-- The block b holds the forecast of mean m over the slices v and u, which read as l and s. -/
def FBox (w : World) (b : Nat) (m : Int) (v u : Value) (l : List PartD) (s : List SurgeD) : Prop :=
  w.cell? ⟨b, 0, none⟩ = some (.int .i64 m) ∧ w.cell? ⟨b, 1, none⟩ = some v ∧ w.cell? ⟨b, 2, none⟩ = some u ∧ SlP w v l ∧ SlSurge w u s
theorem FBox.below {w w' : World} {b : Nat} {m : Int} {v u : Value} {l : List PartD} {s : List SurgeD} (h : FBox w b m v u l s) (hb : Below w.heap.size w w') : FBox w' b m v u l s := by
  obtain ⟨h0, h1, h2, h3, h4⟩ := h
  exact ⟨(hb.cell (World.block_lt_of_cell? w _ h0)).trans h0, (hb.cell (World.block_lt_of_cell? w _ h1)).trans h1, (hb.cell (World.block_lt_of_cell? w _ h2)).trans h2, h3.below hb, h4.below hb⟩
theorem FBox.new {w : World} {m : Int} {v u : Value} {l : List PartD} {s : List SurgeD} (t : TypeId) (h : SlP w v l) (h' : SlSurge w u s) : FBox (w.alloc (.cells #[.int .i64 m, v, u] t)) w.heap.size m v u l s := by
  refine ⟨?_, ?_, ?_, h.below (Joins.below_alloc1 _ _), h'.below (Joins.below_alloc1 _ _)⟩
  · rw [World.cell?_alloc_at _ _ _ _ rfl]; rfl
  · rw [World.cell?_alloc_at _ _ _ _ rfl]; rfl
  · rw [World.cell?_alloc_at _ _ _ _ rfl]; rfl

/-- The variables b1 and b5 hold what they held, and nothing below W has changed. -/
def TwoF (W : World) (b1 b5 : Nat) (m : Int) (v1 u1 v5 u5 : Value) (w' : World) : Prop :=
  w'.cell? ⟨b1, 0, none⟩ = some (.int .i64 m) ∧ w'.cell? ⟨b1, 1, none⟩ = some v1 ∧ w'.cell? ⟨b1, 2, none⟩ = some u1 ∧ w'.cell? ⟨b5, 0, none⟩ = some (.int .i64 m) ∧ w'.cell? ⟨b5, 1, none⟩ = some v5 ∧ w'.cell? ⟨b5, 2, none⟩ = some u5 ∧ Hid (Below W.heap.size W w')
theorem TwoF.of {W : World} {b1 b5 : Nat} {m : Int} {v1 u1 v5 u5 : Value} {l : List PartD} {s : List SurgeD} (hT : FBox W b1 m v1 u1 l s) (hX : FBox W b5 m v5 u5 l s) {w' : World} (hb : Below W.heap.size W w') : TwoF W b1 b5 m v1 u1 v5 u5 w' :=
  ⟨(hT.below hb).1, (hT.below hb).2.1, (hT.below hb).2.2.1, (hX.below hb).1, (hX.below hb).2.1, (hX.below hb).2.2.1, Lib.hid hb⟩

theorem NewFc.sl {m : Int} {l : List PartD} {s : List SurgeD} {w w' : World} {e : Ending} (h : NewFc m l s w e w') (hl : l.length ≤ 1000000000) (hs : s.length ≤ 1000000000) :
    ∃ A c A' c', e = .returned (.agg #[.int .i64 m, .slice A l.length c, .slice A' s.length c']) ∧ SlP w' (.slice A l.length c) l ∧ SlSurge w' (.slice A' s.length c') s ∧ Below w.heap.size w w' := by
  obtain ⟨v, u, rfl, h1, h2, _, hb⟩ := h
  obtain ⟨A, c, rfl⟩ := own_form h1
  obtain ⟨A', c', rfl⟩ := own_form h2
  exact ⟨A, c, A', c', rfl, h1.sl hl, h2.sl hs, hb⟩

/-! ### A forecast that came in -/
section
variable {H : Type} {enc : TypeId × Value → H} {w : World} {base : Nat} {spare : Nat → Bool} {held : Bool}
def FcIn (w : World) (m : Int) (A : Option Addr) (c : Nat) (l : List PartD) (A' : Option Addr) (c' : Nat) (s : List SurgeD) : Prop :=
  (Lit.int .i64 m).wf = true ∧ l.length ≤ maxLen ∧ s.length ≤ maxLen ∧ (l.length ≤ 1000000000 → SlP w (.slice A l.length c) l) ∧ (s.length ≤ 1000000000 → SlSurge w (.slice A' s.length c') s) ∧ (∀ d ∈ l, PartD.wf d) ∧ ∀ d ∈ s, SurgeD.wf d
end

end Go.Proofs.Ytmjdlkninibocaa
