/- A variable that holds a tide, and what stays of it. -/
import Derived.Test.YtbcbbolakjjglaaTide
import Derived.Deep.RegionHeld3
namespace Go.Proofs.Ytbcbbolakjjglaa
open Go.RowKit
set_option maxRecDepth 100000

/-- The block b holds the tide of mean m over the slice v, which reads as l. -/
def TBox (w : World) (b : Nat) (m : Int) (v : Value) (l : List PartD) : Prop := w.cell? ⟨b, 0, none⟩ = some (.int .i64 m) ∧ w.cell? ⟨b, 1, none⟩ = some v ∧ SlP w v l
theorem TBox.below {w w' : World} {b : Nat} {m : Int} {v : Value} {l : List PartD} (h : TBox w b m v l) (hb : Below w.heap.size w w') : TBox w' b m v l := by
  obtain ⟨h0, h1, h2⟩ := h
  exact ⟨(hb.cell (World.block_lt_of_cell? w _ h0)).trans h0, (hb.cell (World.block_lt_of_cell? w _ h1)).trans h1, h2.below hb⟩
theorem TBox.new {w : World} {m : Int} {v : Value} {l : List PartD} (t : TypeId) (h : SlP w v l) : TBox (w.alloc (.cells #[.int .i64 m, v] t)) w.heap.size m v l := by
  refine ⟨?_, ?_, h.below (Joins.below_alloc1 _ _)⟩
  · rw [World.cell?_alloc_at _ _ _ _ rfl]; rfl
  · rw [World.cell?_alloc_at _ _ _ _ rfl]; rfl

/-- The variables b1 and b5 hold what they held, and nothing below W has changed. -/
def Two (W : World) (b1 b5 : Nat) (m : Int) (v1 v5 : Value) (w' : World) : Prop :=
  w'.cell? ⟨b1, 0, none⟩ = some (.int .i64 m) ∧ w'.cell? ⟨b1, 1, none⟩ = some v1 ∧ w'.cell? ⟨b5, 0, none⟩ = some (.int .i64 m) ∧ w'.cell? ⟨b5, 1, none⟩ = some v5 ∧ Hid (Below W.heap.size W w')
theorem Two.of {W : World} {b1 b5 : Nat} {m : Int} {v1 v5 : Value} {l : List PartD} (hT : TBox W b1 m v1 l) (hX : TBox W b5 m v5 l) {w' : World} (hb : Below W.heap.size W w') : Two W b1 b5 m v1 v5 w' :=
  ⟨(hT.below hb).1, (hT.below hb).2.1, (hX.below hb).1, (hX.below hb).2.1, Lib.hid hb⟩

theorem toTide_keep {W : World} {b1 b5 : Nat} {m : Int} {v1 v5 : Value} {l : List PartD} (hT : TBox W b1 m v1 l) (hX : TBox W b5 m v5 l) (w0 : World) (hb : Hid (Below W.heap.size W w0)) :
    Calls Try.prog 41 #[.agg #[.int .i64 m, v1]] w0 fun e w1 => ∃ A c, e = .returned (.agg #[.int .i64 m, .slice A l.length c]) ∧ Hid (SlP w1 (.slice A l.length c) l) ∧ Two W b1 b5 m v1 v5 w1 := by
  refine (toTide_any m v1 l w0 (hT.below hb.out).2.2).mono ?_
  rintro e w1 ⟨v, rfl, hs, hb1⟩
  obtain ⟨A, c, rfl⟩ := hs.at
  exact ⟨A, c, rfl, Lib.hid hs, Two.of hT hX (hb.out.trans (hb1.mono hb.out.size))⟩

theorem eqTide_keep {W : World} {b1 b5 : Nat} {m : Int} {v1 v5 : Value} {l : List PartD} (hT : TBox W b1 m v1 l) (hX : TBox W b5 m v5 l) (w0 : World) (vb : Value) (hs : Hid (SlP w0 vb l)) (hb : Hid (Below W.heap.size W w0)) :
    Calls Try.prog 42 #[.agg #[.int .i64 m, v5], .agg #[.int .i64 m, vb]] w0 fun e w1 => e = .returned (.bool true) ∧ Two W b1 b5 m v1 v5 w1 := by
  refine (eqTide_same m v5 vb l w0 (hX.below hb.out).2.2 hs.out).mono ?_
  rintro e w1 ⟨rfl, hb1⟩
  exact ⟨rfl, Two.of hT hX (hb.out.trans (hb1.mono hb.out.size))⟩

end Go.Proofs.Ytbcbbolakjjglaa
