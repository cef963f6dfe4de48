
/- Lists of lists of bools: reading, growing. -/
import Derived.Test.YtfofbnpgjdagkaaBoolC
import Derived.Test.YtfofbnpgjdagkaaGath
import Derived.Test.YtfofbnpgjdagkaaOwnVar
import Derived.Test.YtfofbnpgjdagkaaBox
namespace Go.Proofs.Ytfofbnpgjdagkaa
open Go.RowKit
set_option maxRecDepth 100000

/-- A row in memory: its value, and what it reads as. -/
structure BRow where
  v : Value
  l : List Bool
def BRow.cells (r : BRow) : List Value := [r.v]
theorem browLen (r : BRow) : r.cells.length = 1 := rfl
/-- A list of rows reads as the matrix M. -/
def SlRows (w : World) (v : Value) (rs : List BRow) : Prop := SlOf 1 BRow.cells w v rs ∧ ∀ r ∈ rs, SlBool w r.v r.l
theorem SlRows.below {w w' : World} {v : Value} {rs : List BRow} (h : SlRows w v rs) (hb : Below w.heap.size w w') : SlRows w' v rs := ⟨SlOf.below h.1 hb, fun r hr => SlOf.below (h.2 r hr) hb⟩
theorem SlRows.form {w : World} {v : Value} {rs : List BRow} (h : SlRows w v rs) : ∃ A c, v = .slice A rs.length c := SlOf.form h.1
/-- A list of rows of one's own, each over memory of its own kind, that is new since w. -/
structure GathB (w : World) (v : Value) (rs : List BRow) (wr : World) : Prop where
  own : OwnOf 1 BRow.cells 75 wr w.heap.size v rs
  rows : ∀ r ∈ rs, OwnOf 1 boolCells 4 wr w.heap.size r.v r.l
  apart : ∀ r ∈ rs, ∀ g, v.ownBlock = some g → r.v.ownBlock ≠ some g
  low : Below w.heap.size w wr
theorem GathB.below {w wr W : World} {v : Value} {rs : List BRow} (h : GathB w v rs wr) (hb : Below wr.heap.size wr W) : GathB w v rs W := ⟨own_below h.own hb, fun r hr => own_below (h.rows r hr) hb, h.apart, h.low.trans (hb.mono h.low.size)⟩
theorem GathB.made {w wr : World} (hb : Below w.heap.size w wr) : GathB w (.slice (some ⟨wr.heap.size, 0, none⟩) 0 0) [] (wr.alloc (.cells #[] 75)) := by
  have h := GathO.made (k := 1) (cs := BRow.cells) (t := 75) hb
  exact ⟨h.1, fun r hr => absurd hr (by simp), fun r hr => absurd hr (by simp), h.2⟩
theorem GathB.form {w wr : World} {v : Value} {rs : List BRow} (h : GathB w v rs wr) : ∃ A c, v = .slice A rs.length c := own_form h.own
/-- One row more: in a block of its own, new since W. -/
theorem GathB.next {w W W1 W2 : World} {v u : Value} {rs : List BRow} {s : List Bool} {g4 cap4 : Nat} (h : GathB w v rs W) (hb : Below W.heap.size W W1) (ho : OwnOf 1 boolCells 4 W1 W.heap.size u s)
    (hown : W2.ownsRow w.heap.size 75 1 (.slice (some ⟨g4, 0, none⟩) (rs.length + 1) cap4) (rs.length + 1) (rs.flatMap BRow.cells ++ BRow.cells ⟨u, s⟩)) (hgr : W1.grownBy W2 v.ownBlock) (hor : v.ownBlock = some g4 ∨ g4 = W1.heap.size) :
    GathB w (.slice (some ⟨g4, 0, none⟩) (rs.length + 1) cap4) (rs ++ [⟨u, s⟩]) W2 := by
  obtain ⟨o1, o2, o4, hl⟩ := h
  have hz := hl.size
  have hz1 := hb.size
  refine ⟨?_, fun r hr => ?_, fun r hr g hg hg' => ?_, (hl.trans (hb.mono hz)).grown hgr (by omega) (fun b e => (own_ge o1 e).1)⟩
  · simpa [OwnOf] using hown
  · rcases List.mem_append.1 hr with hr | hr
    · exact own_kept (own_below (o2 r hr) hb) hgr (fun b hv e => o4 r hr b e hv)
    · simp at hr
      subst hr
      exact own_lo (own_kept ho hgr (fun b hv e => by have := (own_ge o1 e).2; have := (own_ge ho hv).1; omega)) hz
  · simp [Value.ownBlock] at hg
    subst hg
    rcases List.mem_append.1 hr with hr | hr
    · rcases hor with e | e
      · exact o4 r hr g4 e hg'
      · have := (own_ge (o2 r hr) hg').2
        omega
    · simp at hr
      subst hr
      rcases hor with e | e
      · have := (own_ge o1 e).2
        have := (own_ge ho hg').1
        omega
      · have := (own_ge ho hg').2
        omega
theorem GathB.reads {w wr : World} {v : Value} {rs : List BRow} (h : GathB w v rs wr) (h1 : rs.length ≤ 1000000000) (h2 : ∀ r ∈ rs, r.l.length ≤ 1000000000) : SlRows wr v rs := ⟨own_sl browLen h.own h1, fun r hr => own_sl boolLen (h.rows r hr) (h2 r hr)⟩
theorem browAt {w : World} {rs : List BRow} {g o : Nat} (hc : ∀ i x, rs[i]? = some x → ∀ j u, (BRow.cells x)[j]? = some u → w.cell? ⟨g, o + i * 1 + j, none⟩ = some u) {i : Nat} {r : BRow} (hx : rs[i]? = some r) : w.cell? ⟨g, o + i, none⟩ = some r.v := by
  have h := hc i r hx 0 _ rfl
  simpa using h
theorem boolAt {w : World} {l : List Bool} {g o : Nat} (hc : ∀ i x, l[i]? = some x → ∀ j u, (boolCells x)[j]? = some u → w.cell? ⟨g, o + i * 1 + j, none⟩ = some u) {i : Nat} {x : Bool} (hx : l[i]? = some x) : w.cell? ⟨g, o + i, none⟩ = some (.bool x) := by
  have h := hc i x hx 0 _ rfl
  simpa using h
end Go.Proofs.Ytfofbnpgjdagkaa
