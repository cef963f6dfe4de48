
/- What InOrderLaw rests on, part 43: contracts and mathematics. -/
import Derived.Test.YtooeikimoheecaaIo40
import Derived.Test.YtooeikimoheecaaIo3
import Derived.Test.YtooeikimoheecaaIo2
import Derived.Test.YtooeikimoheecaaIo9
namespace Go.Proofs.Ytooeikimoheecaa
open Go.RowKit
set_option maxRecDepth 100000
/-- A list of windows with the value that holds it. -/
structure WinR where
  v : Value
  sure : List WindowD
def WinR.cells (r : WinR) : List Value := [r.v]
/-- What the rows hold is apart from the row's own block when this has grown. -/
theorem apart_next {W : World} {q v : Value} {g4 n4 cap4 : Nat} (ha : ApartV q v) (hv : ∀ g, v.ownBlock = some g → g < W.heap.size) (hor : q.ownBlock = some g4 ∨ g4 = W.heap.size) : ApartV (.slice (some ⟨g4, 0, none⟩) n4 cap4) v := fun b hb hv' => by
  simp [Value.ownBlock] at hb
  subst hb
  rcases hor with he | he
  · exact ha _ he hv'
  · have := hv _ hv'
    omega
/-- The lists that the rows hold are their own, and apart from the rows. -/
def HoldW (base : Nat) (w : World) (q : Value) (rows : List WinR) : Prop := ∀ r ∈ rows, OwnWindow w base r.v r.sure ∧ ApartV q r.v
theorem HoldW.nil (base : Nat) (w : World) (q : Value) : HoldW base w q [] := fun r hr => by simp at hr
theorem HoldW.below {base : Nat} {w w' : World} {q : Value} {rows : List WinR} (h : HoldW base w q rows) (hb : Below w.heap.size w w') : HoldW base w' q rows := fun r hr => ⟨own_below (h r hr).1 hb, (h r hr).2⟩
theorem HoldW.next {base : Nat} {W w4 : World} {q : Value} {rows : List WinR} {x : WinR} {g4 n4 cap4 : Nat} (h : HoldW base W q rows) (hx : OwnWindow W base x.v x.sure ∧ ApartV q x.v) (hg : W.grownBy w4 q.ownBlock) (hor : q.ownBlock = some g4 ∨ g4 = W.heap.size) :
    HoldW base w4 (.slice (some ⟨g4, 0, none⟩) n4 cap4) (rows ++ [x]) := fun r hr => by
  have hr' : OwnWindow W base r.v r.sure ∧ ApartV q r.v := by
    rcases List.mem_append.1 hr with h1 | h1
    · exact h r h1
    · rw [List.mem_singleton.1 h1]; exact hx
  exact ⟨own_kept hr'.1 hg (fun b hv he => hr'.2 b he hv), apart_next hr'.2 (fun g hg => (own_ge hr'.1 hg).2) hor⟩
theorem HoldW.rd {base : Nat} {w : World} {q : Value} {rows : List WinR} (h : HoldW base w q rows) (hl : ∀ r ∈ rows, r.sure.length ≤ 1000000000) : ∀ r ∈ rows, SlWindow w r.v r.sure := fun r hr => OwnWindow.sl (h r hr).1 (hl r hr)
/-- A value made behind the row's world is apart from the row. -/
theorem apart_young {w w' : World} {base b2 : Nat} {α β : Type} {k k2 : Nat} {cs : α → List Value} {cs2 : β → List Value} {t t2 : TypeId} {q v : Value} {l : List α} {m : List β} (hq : OwnOf k cs t w base q l) (hv : OwnOf k2 cs2 t2 w' b2 v m) (hb : w.heap.size ≤ b2) : ApartV q v := fun g hg hv' => by
  have h1 := (own_ge hq hg).2
  have h2 := (own_ge hv hv').1
  omega
/-- A leg in memory: the list of its sure starts, its minutes, and whether the ship may wait ahead of it. -/
structure LegR where
  win : WinR
  mins : Int
  wait : Bool
def LegR.cells (r : LegR) : List Value := [r.win.v, .int .i64 r.mins, .bool r.wait]
theorem legRLen (r : LegR) : r.cells.length = 3 := rfl
def LegR.d (r : LegR) : LegD := ⟨r.win.sure, r.mins, r.wait⟩
/-- Legs, read. -/
def RdLegs (w : World) (v : Value) (rows : List LegR) : Prop := SlOf 3 LegR.cells w v rows ∧ ∀ r ∈ rows, SlWindow w r.win.v r.win.sure
theorem RdLegs.below {w w' : World} {v : Value} {rows : List LegR} (h : RdLegs w v rows) (hb : Below w.heap.size w w') : RdLegs w' v rows := ⟨h.1.below hb, fun r hr => (h.2 r hr).below hb⟩
theorem LegR.at {w : World} {l : List LegR} {g o : Nat} (hc : ∀ i x, l[i]? = some x → ∀ j u, (LegR.cells x)[j]? = some u → w.cell? ⟨g, o + i * 3 + j, none⟩ = some u) (i : Nat) (x : LegR) (hx : l[i]? = some x) :
    w.cell? ⟨g, o + i * 3, none⟩ = some x.win.v ∧ w.cell? ⟨g, o + i * 3 + 1, none⟩ = some (.int .i64 x.mins) ∧ w.cell? ⟨g, o + i * 3 + 2, none⟩ = some (.bool x.wait) := ⟨hc i x hx 0 _ rfl, hc i x hx 1 _ rfl, hc i x hx 2 _ rfl⟩
theorem WinR.at {w : World} {l : List WinR} {g o : Nat} (hc : ∀ i x, l[i]? = some x → ∀ j u, (WinR.cells x)[j]? = some u → w.cell? ⟨g, o + i * 1 + j, none⟩ = some u) (i : Nat) (x : WinR) (hx : l[i]? = some x) :
    w.cell? ⟨g, o + i, none⟩ = some x.v := by
  have := hc i x hx 0 _ rfl
  simpa using this
end Go.Proofs.Ytooeikimoheecaa
