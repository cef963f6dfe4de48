
/- A drawn regime, moves, crew, call: contracts. -/
import Derived.Test.YtpglaffmmddcdaaDrawVar
import Derived.Test.YtpglaffmmddcdaaInts
import Derived.Deep.RegionHeld3
namespace Go.Proofs.Ytpglaffmmddcdaa
open Go.RowKit
set_option maxRecDepth 100000

theorem flat_int (l : List Int) : l.flatMap intCells = l.map (fun x => Value.int .i64 x) := by
  induction l with
  | nil => rfl
  | cons x l ih => simp [intCells, ih]
/-- What a drawn regime leaves. -/
def DrawsRegime (p : Nat) (w : World) (e : Ending) (w' : World) : Prop := ∃ (g : Int) (b : Bool), e = .returned (.agg #[.int .i64 g, .bool b]) ∧ 0 ≤ g ∧ g < 30 ∧ Cursor w' p ∧ w.grownBy w' (some p)
set_option maxHeartbeats 1000000 in
theorem l09Regime_any (p : Nat) (w : World) (hcur : Cursor w p) : Calls Try.prog 41 #[.pointer (some ⟨p, 0, none⟩)] w (DrawsRegime p w) := by
  have hb0 := Joins.below_alloc1 w (.cells #[.int .i64 0, .bool false] 28)
  have hp := hcur.lt
  have G0 := Lib.hid (grown_alloc w (.cells #[.int .i64 0, .bool false] 28) (some p))
  have K0 := Lib.hid (Blk.new w #[.int .i64 0, .bool false] 28)
  have HC0 := Lib.hid (hcur.below hb0)
  have HNP := Lib.hid (show some w.heap.size ≠ some p by simp; omega)
  clear hcur hb0
  go_enter Try.func41, Try.ntmps41
  go_wp2_with fail
  refine (l01Below_any p 30 _ (by omega) (by omega) HC0.out).mono ?_
  rintro e w1 ⟨x, rfl, x0, x1, hc, hg⟩
  have HC1 := Lib.hid hc
  have G1 := Lib.hid (grown_trans G0.out hg)
  have K1 := Lib.hid (K0.out.grown hg HNP.out)
  clear hc hg HC0 G0 K0
  go_wp2_with fail
  refine (l01Once_any p 4 _ (by omega) (by omega) HC1.out).mono ?_
  rintro e w2 ⟨b, rfl, hc, hg⟩
  have HC2 := Lib.hid hc
  have G2 := Lib.hid (grown_trans G1.out hg)
  have K2 := K1.out.grown hg HNP.out
  have k0 : w2.cell? ⟨w.heap.size, 0, none⟩ = some (.int .i64 0) := K2.cell 0
  have k1 : w2.cell? ⟨w.heap.size, 1, none⟩ = some (.bool false) := K2.cell 1
  have f0 : w2.frozen? ⟨w.heap.size, 0, none⟩ = false := K2.free 0
  have f1 : w2.frozen? ⟨w.heap.size, 1, none⟩ = false := K2.free 1
  clear hc hg HC1 G1 K1 K2
  go_wp2
  refine bodyPost_ret (v := .agg #[.int .i64 x, .bool b]) (by simp [results, Try.results41, go_sem, *]) rfl ⟨x, b, rfl, x0, x1, (HC2.out.set hp _ _).set hp _ _, grown_setNew (grown_setNew G2.out (Nat.le_refl _) _) (Nat.le_refl _) _⟩

/-- What holds of drawn moves. -/
def MvDraw (w : World) (p : Nat) (v : Value) (l : List Int) (wr : World) : Prop := Cursor wr p ∧ w.grownBy wr (some p) ∧ OwnInt wr w.heap.size v l ∧ l.length = 64 ∧ (∀ x ∈ l, 0 ≤ x ∧ x ≤ 20) ∧ p < w.heap.size
theorem MvDraw.step {w wr w3 : World} {p : Nat} {v : Value} {l : List Int} (h : MvDraw w p v l wr) (hg : wr.grownBy w3 (some p)) (hc : Cursor w3 p) : MvDraw w p v l w3 := by
  obtain ⟨h1, h2, h3, h4, h5, h6⟩ := h
  exact ⟨hc, grown_trans h2 hg, own_kept h3 hg (fun b hv e => by have := (own_ge h3 hv).1; have := Option.some.inj e; omega), h4, h5, h6⟩
theorem MvDraw.put {w wr : World} {p g c : Nat} {l : List Int} (h : MvDraw w p (.slice (some ⟨g, 0, none⟩) 64 c) l wr) (k : Nat) (hk : k < 64) (u : Int) (h0 : 0 ≤ u) (h1 : u ≤ 20) :
    (∃ x, wr.cell? ⟨g, k, none⟩ = some (.int .i64 x)) ∧ wr.frozen? ⟨g, k, none⟩ = false ∧ MvDraw w p (.slice (some ⟨g, 0, none⟩) 64 c) (l.set k u) (wr.setCell ⟨g, k, none⟩ (.int .i64 u)) := by
  obtain ⟨hc, hgr, hown, hl, hall, hp⟩ := h
  have hge := own_ge hown (own_blk g 64 c)
  have hown' := hown
  unfold OwnInt OwnOf at hown'
  rw [hl] at hown'
  have hcell := World.ownsRow.cellAt hown' k (by omega)
  rw [flat_int] at hcell
  refine ⟨⟨l[k]'(by omega), ?_⟩, World.ownsRow.frozenAt hown' k, hc.set (by omega) _ _, grown_setNew hgr hge.1 _, ?_, by simp [hl], fun x hx => ?_, hp⟩
  · rw [hcell]; simp [show k < l.length by omega]
  · have hs := (World.ownsRow.stored hown' k (.int .i64 u)).1
    rw [flat_int] at hs
    unfold OwnInt OwnOf
    rw [flat_int, List.length_set, hl, List.map_set]
    exact hs
  · rcases List.mem_or_eq_of_mem_set hx with h | h
    · exact hall x h
    · rw [h]; exact ⟨h0, h1⟩
def DrawsMoves (p : Nat) (w : World) (e : Ending) (w' : World) : Prop := ∃ (g c : Nat) (l : List Int), e = .returned (.slice (some ⟨g, 0, none⟩) 64 c) ∧ MvDraw w p (.slice (some ⟨g, 0, none⟩) 64 c) l w'
/-- What a drawn crew leaves. -/
def DrawsCrew (p : Nat) (w : World) (e : Ending) (w' : World) : Prop := ∃ (tu pi re : Int) (g c : Nat) (l : List Int), e = .returned (.agg #[.int .i64 tu, .int .i64 pi, .int .i64 re, .slice (some ⟨g, 0, none⟩) 64 c]) ∧ (1 ≤ tu ∧ tu ≤ 4) ∧ (1 ≤ pi ∧ pi ≤ 3) ∧ (0 ≤ re ∧ re < 60) ∧ OwnInt w' w.heap.size (.slice (some ⟨g, 0, none⟩) 64 c) l ∧ l.length = 64 ∧ (∀ x ∈ l, 0 ≤ x ∧ x ≤ 20) ∧ Cursor w' p ∧ w.grownBy w' (some p)
structure CallD where
  ship : Int
  fr : Int
  tt : Int
  ready : Int
  due : Int
@[reducible] def CallD.cells (d : CallD) : List Value := [.int .i64 d.ship, .int .i64 d.fr, .int .i64 d.tt, .int .i64 d.ready, .int .i64 d.due]
@[reducible] def CallD.val (d : CallD) : Value := .agg #[.int .i64 d.ship, .int .i64 d.fr, .int .i64 d.tt, .int .i64 d.ready, .int .i64 d.due]
def callGood (i : Int) (d : CallD) : Prop := d.ship = i ∧ ((d.fr = 0 ∧ d.tt = 3) ∨ (d.fr = 3 ∧ d.tt = 0)) ∧ 0 ≤ d.ready ∧ d.ready ≤ 435 ∧ d.ready + 60 ≤ d.due ∧ d.due < d.ready + 460
/-- What a drawn call leaves. -/
def DrawsCall (p : Nat) (i : Int) (w : World) (e : Ending) (w' : World) : Prop := ∃ d : CallD, e = .returned d.val ∧ callGood i d ∧ Cursor w' p ∧ w.grownBy w' (some p)
end Go.Proofs.Ytpglaffmmddcdaa
