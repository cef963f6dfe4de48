
/- What a drawn harbour is and owns. -/
import Derived.Test.YtgjappjlnkdpnaaDrawFc
import Derived.Test.YtgjappjlnkdpnaaDrawChart
import Derived.Test.YtgjappjlnkdpnaaDrawShip
import Derived.Test.YtgjappjlnkdpnaaDrawHarb0
namespace Go.Proofs.Ytgjappjlnkdpnaa
open Go.RowKit
set_option maxRecDepth 100000

structure HarbD where
  m : Int
  l : List PartD
  s : List SurgeD
  ch : ChartRnd
  fl : List ShipD
  gap : Int
  nm : Bool
  tu : Int
  pi : Int
  re : Int
  mv : List Int
def HarbOk (h : HarbD) : Prop := fcB (h.m - 150) h.l h.s = true ∧ h.s.length ≤ 3 ∧ h.ch.ok ∧ (1 ≤ h.fl.length ∧ h.fl.length ≤ 3) ∧ (∀ (j : Nat) x, h.fl[j]? = some x → shipGood j x ∧ x.tugs ≤ 1) ∧ (0 ≤ h.gap ∧ h.gap < 30) ∧ (1 ≤ h.tu ∧ h.tu ≤ 4) ∧ (1 ≤ h.pi ∧ h.pi ≤ 3) ∧ (0 ≤ h.re ∧ h.re < 60) ∧ h.mv.length = 64 ∧ (∀ x ∈ h.mv, 0 ≤ x ∧ x ≤ 20)
/-- The lists but the fleet. -/
def Own5 (W : World) (base : Nat) (v0 v1 v2 v3 v5 : Value) (l : List PartD) (s : List SurgeD) (pts : List PointD) (segs : List SegmentD) (mv : List Int) : Prop := OwnP W base v0 l ∧ OwnSurge W base v1 s ∧ OwnPoint W base v2 pts ∧ OwnSegment W base v3 segs ∧ OwnInt W base v5 mv
section
variable {W W' : World} {base : Nat} {v0 v1 v2 v3 v5 : Value} {l : List PartD} {s : List SurgeD} {pts : List PointD} {segs : List SegmentD} {mv : List Int}
theorem Own5.kept {row : Option Nat} (h : Own5 W base v0 v1 v2 v3 v5 l s pts segs mv) (hg : W.grownBy W' row) (hne : ∀ b, row = some b → b < base) : Own5 W' base v0 v1 v2 v3 v5 l s pts segs mv := by
  obtain ⟨h0, h1, h2, h3, h5⟩ := h
  have k : ∀ b, base ≤ b → row ≠ some b := fun b hb e => by have := hne b e; omega
  exact ⟨own_kept h0 hg (fun b hv => k b (own_ge h0 hv).1), own_kept h1 hg (fun b hv => k b (own_ge h1 hv).1), own_kept h2 hg (fun b hv => k b (own_ge h2 hv).1), own_kept h3 hg (fun b hv => k b (own_ge h3 hv).1), own_kept h5 hg (fun b hv => k b (own_ge h5 hv).1)⟩
theorem Own5.below (h : Own5 W base v0 v1 v2 v3 v5 l s pts segs mv) (hb : Below W.heap.size W W') : Own5 W' base v0 v1 v2 v3 v5 l s pts segs mv := by
  obtain ⟨h0, h1, h2, h3, h5⟩ := h
  exact ⟨own_below h0 hb, own_below h1 hb, own_below h2 hb, own_below h3 hb, own_below h5 hb⟩
theorem Own5.lo {b' : Nat} (h : Own5 W base v0 v1 v2 v3 v5 l s pts segs mv) (hb : b' ≤ base) : Own5 W b' v0 v1 v2 v3 v5 l s pts segs mv := by
  obtain ⟨h0, h1, h2, h3, h5⟩ := h
  exact ⟨own_lo h0 hb, own_lo h1 hb, own_lo h2 hb, own_lo h3 hb, own_lo h5 hb⟩
/-- None of the lists lies in block b. -/
def Far5 (b : Nat) (v0 v1 v2 v3 v5 : Value) : Prop := v0.ownBlock ≠ some b ∧ v1.ownBlock ≠ some b ∧ v2.ownBlock ≠ some b ∧ v3.ownBlock ≠ some b ∧ v5.ownBlock ≠ some b
theorem Own5.set (h : Own5 W base v0 v1 v2 v3 v5 l s pts segs mv) {b : Nat} (hf : Far5 b v0 v1 v2 v3 v5) (j : Nat) (u : Value) : Own5 (W.setCell ⟨b, j, none⟩ u) base v0 v1 v2 v3 v5 l s pts segs mv := by
  obtain ⟨h0, h1, h2, h3, h5⟩ := h
  obtain ⟨f0, f1, f2, f3, f5⟩ := hf
  exact ⟨own_setO h0 f0 j u, own_setO h1 f1 j u, own_setO h2 f2 j u, own_setO h3 f3 j u, own_setO h5 f5 j u⟩
theorem Own5.far {b : Nat} (h : Own5 W base v0 v1 v2 v3 v5 l s pts segs mv) (hb : b < base ∨ W.heap.size ≤ b) : Far5 b v0 v1 v2 v3 v5 := by
  obtain ⟨h0, h1, h2, h3, h5⟩ := h
  exact ⟨fun e => by have := own_ge h0 e; omega, fun e => by have := own_ge h1 e; omega, fun e => by have := own_ge h2 e; omega, fun e => by have := own_ge h3 e; omega, fun e => by have := own_ge h5 e; omega⟩
end
theorem ships_tugs (l : List ShipD) : ∀ (k : Nat) (x : ShipD) (u : Int), l[k]? = some x → (l.flatMap ShipD.cells).set (k * 6 + 4) (.int .i64 u) = (l.set k { x with tugs := u }).flatMap ShipD.cells := by
  induction l with
  | nil => intro k x u h; simp at h
  | cons y l ih =>
    intro k x u h
    cases k with
    | zero => simp at h; subst h; simp [ShipD.cells]
    | succ k =>
      have h' : l[k]? = some x := by simpa using h
      rw [List.flatMap_cons, List.set_append_right _ _ (by simp; omega)]
      rw [show (k + 1) * 6 + 4 - (ShipD.cells y).length = k * 6 + 4 by simp; omega, ih k x u h']
      simp
/-- A ship's tugs are stored. -/
theorem fleet_put {W : World} {base g c : Nat} {l : List ShipD} (h : OwnShip W base (.slice (some ⟨g, 0, none⟩) l.length c) l) (hl : l.length ≤ 1000) {k : Nat} {x : ShipD} (hx : l[k]? = some x) (u : Int) :
    W.cell? ⟨g, k * 6 + 4, none⟩ = some (.int .i64 x.tugs) ∧ W.frozen? ⟨g, k * 6 + 4, none⟩ = false ∧ OwnShip (W.setCell ⟨g, k * 6 + 4, none⟩ (.int .i64 u)) base (.slice (some ⟨g, 0, none⟩) l.length c) (l.set k { x with tugs := u }) := by
  have hk := (List.getElem?_eq_some_iff.1 hx).1
  have h' := h
  unfold OwnShip OwnOf at h'
  have hsl := own_sl shipLen (k := 6) (cs := ShipD.cells) h (by omega)
  refine ⟨?_, World.ownsRow.frozenAt h' _, ?_⟩
  · rcases hsl.2 with ⟨e, _⟩ | ⟨g', o', c', e, _, _, hc⟩
    · rw [e] at hk; simp at hk
    · injection e with e1 _ _
      injection e1 with e1
      injection e1 with e1 e2
      subst e1 e2
      have := (SlShip.cells hc k x hx).2.2.2.2.1
      simpa using this
  · have hs := (World.ownsRow.stored h' (k * 6 + 4) (.int .i64 u)).1
    rw [ships_tugs l k x u hx] at hs
    unfold OwnShip OwnOf
    rw [List.length_set]
    exact hs
end Go.Proofs.Ytgjappjlnkdpnaa
