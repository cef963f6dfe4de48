
/- spec.l01Once, and what holds while a chart is drawn. -/
import Derived.Test.YtpglaffmmddcdaaDraw
import Derived.Test.YtpglaffmmddcdaaChartC
import Derived.Test.YtpglaffmmddcdaaBlk
import Derived.Test.YtpglaffmmddcdaaOwnVar
import Derived.Deep.AppendLies
import Derived.Deep.RegionLaw
import Derived.Deep.DeepCutAuto
namespace Go.Proofs.Ytpglaffmmddcdaa
open Go.RowKit
set_option maxRecDepth 100000

theorem l01Once_any (p : Nat) (n : Int) (w : World) (h0 : 0 < n) (h1 : n ≤ 1000000) (hcur : Cursor w p) :
    Calls Try.prog 44 #[.pointer (some ⟨p, 0, none⟩), .int .i64 n] w fun e w' => ∃ b : Bool, e = .returned (.bool b) ∧ Cursor w' p ∧ w.grownBy w' (some p) := by
  have C := Lib.hid (l01Below_any p n w h0 h1 hcur)
  clear hcur
  go_enter Try.func44, Try.ntmps44
  go_wp2_with fail
  refine C.out.mono ?_
  rintro e w1 ⟨x, rfl, x0, x1, hc1, hg1⟩
  have HC := Lib.hid hc1
  have HG := Lib.hid hg1
  clear hc1 hg1
  go_wp2
  go_ret
  exact ⟨_, rfl, HC.out, HG.out⟩

@[reducible] def sea : ByteArray := ⟨#[115, 101, 97]⟩
@[reducible] def bar : ByteArray := ⟨#[98, 97, 114]⟩
@[reducible] def road : ByteArray := ⟨#[114, 111, 97, 100]⟩
@[reducible] def quay : ByteArray := ⟨#[113, 117, 97, 121]⟩
@[reducible] def dock : ByteArray := ⟨#[100, 111, 99, 107]⟩

section
variable {α : Type} {k : Nat} {cs : α → List Value} {t : TypeId}
theorem own_setO {W : World} {base : Nat} {v : Value} {l : List α} (h : OwnOf k cs t W base v l) {b : Nat} (hne : v.ownBlock ≠ some b) (j : Nat) (u : Value) : OwnOf k cs t (W.setCell ⟨b, j, none⟩ u) base v l :=
  own_kept h (grown_set1 W b j u) (fun g hg e => hne (by rw [hg]; exact e.symm))
end
/-- What holds while a chart is drawn: b2: the result's block, b3: the variable's. -/
def ChDraw (w : World) (p b2 b3 : Nat) (pv sv : Value) (pts : List PointD) (segs : List SegmentD) (W : World) : Prop :=
  Cursor W p ∧ w.grownBy W (some p) ∧ Blk W b2 #[.slice none 0 0, .slice none 0 0] 26 ∧ Blk W b3 #[pv, sv] 26 ∧ OwnPoint W (b2 + 1) pv pts ∧ OwnSegment W (b2 + 1) sv segs ∧
  pv.ownBlock ≠ some b3 ∧ sv.ownBlock ≠ some b3 ∧ (∀ b, pv.ownBlock = some b → sv.ownBlock ≠ some b) ∧ p < b2 ∧ b2 < b3 ∧ w.heap.size ≤ b2
section
variable {w W : World} {p b2 b3 : Nat} {pv sv : Value} {pts : List PointD} {segs : List SegmentD}
theorem ChDraw.cur (h : ChDraw w p b2 b3 pv sv pts segs W) : Cursor W p := h.1
theorem ChDraw.c0 (h : ChDraw w p b2 b3 pv sv pts segs W) : W.cell? ⟨b3, 0, none⟩ = some pv := h.2.2.2.1.cell 0
theorem ChDraw.c1 (h : ChDraw w p b2 b3 pv sv pts segs W) : W.cell? ⟨b3, 1, none⟩ = some sv := h.2.2.2.1.cell 1
theorem ChDraw.f0 (h : ChDraw w p b2 b3 pv sv pts segs W) : W.frozen? ⟨b3, 0, none⟩ = false := h.2.2.2.1.free 0
theorem ChDraw.f1 (h : ChDraw w p b2 b3 pv sv pts segs W) : W.frozen? ⟨b3, 1, none⟩ = false := h.2.2.2.1.free 1
theorem ChDraw.k0 (h : ChDraw w p b2 b3 pv sv pts segs W) : W.cell? ⟨b2, 0, none⟩ = some (.slice none 0 0) := h.2.2.1.cell 0
theorem ChDraw.k1 (h : ChDraw w p b2 b3 pv sv pts segs W) : W.cell? ⟨b2, 1, none⟩ = some (.slice none 0 0) := h.2.2.1.cell 1
theorem ChDraw.g0 (h : ChDraw w p b2 b3 pv sv pts segs W) : W.frozen? ⟨b2, 0, none⟩ = false := h.2.2.1.free 0
theorem ChDraw.g1 (h : ChDraw w p b2 b3 pv sv pts segs W) : W.frozen? ⟨b2, 1, none⟩ = false := h.2.2.1.free 1
theorem ChDraw.lt (h : ChDraw w p b2 b3 pv sv pts segs W) : b3 < W.heap.size := h.2.2.2.1.lt
theorem ChDraw.ownP (h : ChDraw w p b2 b3 pv sv pts segs W) : OwnPoint W (b2 + 1) pv pts := h.2.2.2.2.1
theorem ChDraw.ownS (h : ChDraw w p b2 b3 pv sv pts segs W) : OwnSegment W (b2 + 1) sv segs := h.2.2.2.2.2.1
theorem ChDraw.drew (h : ChDraw w p b2 b3 pv sv pts segs W) : ChDraw w p b2 b3 pv sv pts segs W.drew := by
  obtain ⟨h1, h2, h3, h4, h5, h6, hr⟩ := h
  exact ⟨h1.drew, ⟨h2.os, h2.tape, h2.output, h2.size, h2.block⟩, h3.drew, h4.drew, h5, h6, hr⟩
theorem ChDraw.step {w3 : World} (h : ChDraw w p b2 b3 pv sv pts segs W) (hg : W.grownBy w3 (some p)) (hc : Cursor w3 p) : ChDraw w p b2 b3 pv sv pts segs w3 := by
  obtain ⟨h1, h2, h3, h4, h5, h6, h7, h8, h9, hp, hb, hw⟩ := h
  exact ⟨hc, grown_trans h2 hg, h3.grown hg (by simp; omega), h4.grown hg (by simp; omega), own_kept h5 hg (fun b hv e => by have := (own_ge h5 hv).1; have := Option.some.inj e; omega),
    own_kept h6 hg (fun b hv e => by have := (own_ge h6 hv).1; have := Option.some.inj e; omega), h7, h8, h9, hp, hb, hw⟩
theorem ChDraw.below {w3 : World} (h : ChDraw w p b2 b3 pv sv pts segs W) (hb : Below W.heap.size W w3) : ChDraw w p b2 b3 pv sv pts segs w3 := by
  obtain ⟨h1, h2, h3, h4, h5, h6, hr⟩ := h
  exact ⟨h1.below hb, grown_trans h2 (grown_of_below hb _), h3.below hb, h4.below hb, own_below h5 hb, own_below h6 hb, hr⟩
/-- The list of segments grows by one and is stored. -/
theorem ChDraw.appS {w4 : World} {d : SegmentD} {g4 cap4 : Nat} (h : ChDraw w p b2 b3 pv sv pts segs W)
    (hown : w4.ownsRow (b2 + 1) 90 5 (.slice (some ⟨g4, 0, none⟩) (segs.length + 1) cap4) (segs.length + 1) (segs.flatMap SegmentD.cells ++ d.cells)) (hgr : W.grownBy w4 sv.ownBlock) (hor : sv.ownBlock = some g4 ∨ g4 = W.heap.size) :
    w4.cell? ⟨b3, 1, none⟩ = some sv ∧ w4.frozen? ⟨b3, 1, none⟩ = false ∧ ChDraw w p b2 b3 pv (.slice (some ⟨g4, 0, none⟩) (segs.length + 1) cap4) pts (segs ++ [d]) (w4.setCell ⟨b3, 1, none⟩ (.slice (some ⟨g4, 0, none⟩) (segs.length + 1) cap4)) := by
  obtain ⟨h1, h2, h3, h4, h5, h6, h7, h8, h9, hp, hb, hw⟩ := h
  have r0 : ∀ b, sv.ownBlock = some b → b2 + 1 ≤ b := fun b hv => (own_ge h6 hv).1
  have J4 := h4.grown hgr (fun e => h8 e.symm)
  have K4 := h3.grown hgr (fun e => by have := r0 b2 e.symm; omega)
  have hg3 : g4 ≠ b3 := by
    rcases hor with e | e
    · intro e2; rw [e2] at e; exact h8 e
    · have := h4.lt; omega
  refine ⟨J4.cell 1, J4.free 1, (h1.grown hgr (fun b hv => by have := r0 b hv; omega)).set (by omega) _ _, grown_setNew (grown_young h2 hgr (fun b hv => by have := r0 b hv; omega)) (by omega) _, K4.other (by omega) _ _, J4.set 1 _, ?_, ?_, h7, ?_, ?_, hp, hb, hw⟩
  · exact own_setO (own_kept h5 hgr (fun b hv => h9 b hv)) h7 _ _
  · refine own_setO ?_ (own_blk_ne hg3) _ _
    show World.ownsRow _ _ _ _ _ _ _
    have e : (segs ++ [d]).flatMap SegmentD.cells = segs.flatMap SegmentD.cells ++ d.cells := by simp
    rw [e]
    simpa using hown
  · exact own_blk_ne hg3
  · intro b hv e
    have e' : g4 = b := by rw [own_blk] at e; exact Option.some.inj e
    rcases hor with e2 | e2
    · exact h9 b hv (by rw [e2, e'])
    · have := (own_ge h5 hv).2; omega
/-- The list of points grows by one and is stored. -/
theorem ChDraw.appP {w4 : World} {d : PointD} {g4 cap4 : Nat} (h : ChDraw w p b2 b3 pv sv pts segs W)
    (hown : w4.ownsRow (b2 + 1) 99 2 (.slice (some ⟨g4, 0, none⟩) (pts.length + 1) cap4) (pts.length + 1) (pts.flatMap PointD.cells ++ d.cells)) (hgr : W.grownBy w4 pv.ownBlock) (hor : pv.ownBlock = some g4 ∨ g4 = W.heap.size) :
    w4.cell? ⟨b3, 0, none⟩ = some pv ∧ w4.frozen? ⟨b3, 0, none⟩ = false ∧ ChDraw w p b2 b3 (.slice (some ⟨g4, 0, none⟩) (pts.length + 1) cap4) sv (pts ++ [d]) segs (w4.setCell ⟨b3, 0, none⟩ (.slice (some ⟨g4, 0, none⟩) (pts.length + 1) cap4)) := by
  obtain ⟨h1, h2, h3, h4, h5, h6, h7, h8, h9, hp, hb, hw⟩ := h
  have r0 : ∀ b, pv.ownBlock = some b → b2 + 1 ≤ b := fun b hv => (own_ge h5 hv).1
  have J4 := h4.grown hgr (fun e => h7 e.symm)
  have K4 := h3.grown hgr (fun e => by have := r0 b2 e.symm; omega)
  have hg3 : g4 ≠ b3 := by
    rcases hor with e | e
    · intro e2; rw [e2] at e; exact h7 e
    · have := h4.lt; omega
  refine ⟨J4.cell 0, J4.free 0, (h1.grown hgr (fun b hv => by have := r0 b hv; omega)).set (by omega) _ _, grown_setNew (grown_young h2 hgr (fun b hv => by have := r0 b hv; omega)) (by omega) _, K4.other (by omega) _ _, J4.set 0 _, ?_, ?_, ?_, h8, ?_, hp, hb, hw⟩
  · refine own_setO ?_ (own_blk_ne hg3) _ _
    show World.ownsRow _ _ _ _ _ _ _
    have e : (pts ++ [d]).flatMap PointD.cells = pts.flatMap PointD.cells ++ d.cells := by simp
    rw [e]
    simpa using hown
  · exact own_setO (own_kept h6 hgr (fun b hv e => h9 b e hv)) h8 _ _
  · exact own_blk_ne hg3
  · intro b hv e
    have e' : g4 = b := by rw [own_blk] at hv; exact Option.some.inj hv
    rcases hor with e2 | e2
    · exact h9 g4 e2 (by rw [e, e'])
    · have := (own_ge h6 e).2; omega
/-- A literal of segments is stored. -/
theorem ChDraw.litS {l : List SegmentD} {cells : Array Value} (h : ChDraw w p b2 b3 pv sv pts segs W) (hc : cells.toList = l.flatMap SegmentD.cells) (hs : cells.size = l.length * 5) (hl : l.length ≤ 1000) :
    ChDraw w p b2 b3 pv (.slice (some ⟨W.heap.size, 0, none⟩) l.length l.length) pts l ((W.alloc (.cells cells 90)).setCell ⟨b3, 1, none⟩ (.slice (some ⟨W.heap.size, 0, none⟩) l.length l.length)) := by
  have hlt := h.lt
  obtain ⟨h1, h2, h3, h4, h5, h6, h7, h8, h9, hp, hb, hw⟩ := h
  have hal := Joins.below_alloc1 W (.cells cells 90)
  have ho := World.ownsRow_lit (base := b2 + 1) (e := 90) (size := 5) W cells l.length (by omega) (by unfold maxLen; omega) hs
  rw [hc] at ho
  refine ⟨(h1.below hal).set (by omega) _ _, grown_setNew (grown_trans h2 (grown_of_below hal _)) (by omega) _, (h3.below hal).other (by omega) _ _, (h4.below hal).set 1 _, own_setO (own_below h5 hal) h7 _ _, own_setO ho (own_blk_ne (by omega)) _ _, h7, own_blk_ne (by omega), fun b hv => own_blk_ne (by have := (own_ge h5 hv).2; omega), hp, hb, hw⟩
end

end Go.Proofs.Ytpglaffmmddcdaa
