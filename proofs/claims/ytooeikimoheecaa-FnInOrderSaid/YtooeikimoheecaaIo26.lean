
/- What InOrderLaw rests on, part 26: contracts and mathematics. -/
import Derived.Test.YtooeikimoheecaaIo23
import Derived.StillTailTactics
namespace Go.Proofs.Ytooeikimoheecaa
open Go.RowKit
set_option maxRecDepth 100000
def HarbOwn (W : World) (base : Nat) (A0 : Option Addr) (c0 : Nat) (A1 : Option Addr) (c1 : Nat) (A2 : Option Addr) (c2 : Nat) (A3 : Option Addr) (c3 : Nat) (A4 : Option Addr) (c4 : Nat) (A5 : Option Addr) (c5 : Nat) (h : HarbD) : Prop := Own5 W base (.slice A0 h.l.length c0) (.slice A1 h.s.length c1) (.slice A2 h.ch.chart.points.length c2) (.slice A3 h.ch.chart.segs.length c3) (.slice A5 64 c5) h.l h.s h.ch.chart.points h.ch.chart.segs h.mv ∧ OwnShip W base (.slice A4 h.fl.length c4) h.fl
/-- What a drawn harbour leaves. -/
def DrawsHarb (p : Nat) (w : World) (e : Ending) (w' : World) : Prop := ∃ (h : HarbD) (A0 : Option Addr) (c0 : Nat) (A1 : Option Addr) (c1 : Nat) (A2 : Option Addr) (c2 : Nat) (A3 : Option Addr) (c3 : Nat) (A4 : Option Addr) (c4 : Nat) (A5 : Option Addr) (c5 : Nat), HarbOk h ∧ e = .returned (.agg #[.int .i64 h.m, .slice A0 h.l.length c0, .slice A1 h.s.length c1, .slice A2 h.ch.chart.points.length c2, .slice A3 h.ch.chart.segs.length c3, .slice A4 h.fl.length c4, .int .i64 h.gap, .bool h.nm, .int .i64 h.tu, .int .i64 h.pi, .int .i64 h.re, .slice A5 64 c5]) ∧ HarbOwn w' w.heap.size A0 c0 A1 c1 A2 c2 A3 c3 A4 c4 A5 c5 h ∧ Cursor w' p ∧ w.grownBy w' (some p)
/-- What holds while the tugs are made fewer. -/
def HbLoop (w : World) (p b2 b3 : Nat) (cs : Array Value) (v0 v1 v2 v3 v4 v5 : Value) (l : List PartD) (s : List SurgeD) (pts : List PointD) (segs : List SegmentD) (mv : List Int) (fl : List ShipD) (wr : World) : Prop :=
  Cursor wr p ∧ w.grownBy wr (some p) ∧ Blk wr b2 #[.int .i64 0, .slice none 0 0, .slice none 0 0, .slice none 0 0, .slice none 0 0, .slice none 0 0, .int .i64 0, .bool false, .int .i64 0, .int .i64 0, .int .i64 0, .slice none 0 0] 40 ∧ Blk wr b3 cs 40 ∧ Own5 wr (w.heap.size + 1) v0 v1 v2 v3 v5 l s pts segs mv ∧ OwnShip wr (w.heap.size + 1) v4 fl
theorem HbLoop.put {w wr : World} {p b2 b3 F c : Nat} {cs : Array Value} {v0 v1 v2 v3 v5 : Value} {l : List PartD} {s : List SurgeD} {pts : List PointD} {segs : List SegmentD} {mv : List Int} {fl : List ShipD}
    (h : HbLoop w p b2 b3 cs v0 v1 v2 v3 (.slice (some ⟨F, 0, none⟩) fl.length c) v5 l s pts segs mv fl wr) (hf : Far5 F v0 v1 v2 v3 v5) (h2 : b2 ≠ F) (h3 : b3 ≠ F) (hp : p < F) (hF : w.heap.size ≤ F) (hl : fl.length ≤ 1000) {k : Nat} {x : ShipD} (hx : fl[k]? = some x) (u : Int) :
    wr.cell? ⟨F, k * 6 + 4, none⟩ = some (.int .i64 x.tugs) ∧ wr.frozen? ⟨F, k * 6 + 4, none⟩ = false ∧ HbLoop w p b2 b3 cs v0 v1 v2 v3 (.slice (some ⟨F, 0, none⟩) fl.length c) v5 l s pts segs mv (fl.set k { x with tugs := u }) (wr.setCell ⟨F, k * 6 + 4, none⟩ (.int .i64 u)) := by
  obtain ⟨g1, g2, g3, g4, g5, g6⟩ := h
  obtain ⟨q1, q2, q3⟩ := fleet_put g6 hl hx u
  exact ⟨q1, q2, g1.set hp _ _, grown_setNew g2 hF _, g3.other h2 _ _, g4.other h3 _ _, g5.set hf _ _, q3⟩
theorem HbLoop.drew {w wr : World} {p b2 b3 : Nat} {cs : Array Value} {v0 v1 v2 v3 v4 v5 : Value} {l : List PartD} {s : List SurgeD} {pts : List PointD} {segs : List SegmentD} {mv : List Int} {fl : List ShipD} (h : HbLoop w p b2 b3 cs v0 v1 v2 v3 v4 v5 l s pts segs mv fl wr) : HbLoop w p b2 b3 cs v0 v1 v2 v3 v4 v5 l s pts segs mv fl wr.drew := by
  obtain ⟨g1, g2, g3, g4, g5, g6⟩ := h
  exact ⟨g1.drew, ⟨g2.os, g2.tape, g2.output, g2.size, g2.block⟩, g3.drew, g4.drew, g5, g6⟩
/-- The tugs of the ships below k are at most one. -/
def GoodTo (fl : List ShipD) (k : Nat) : Prop := ∀ (j : Nat) x, fl[j]? = some x → shipGood j x ∧ (j < k → x.tugs ≤ 1)
theorem GoodTo.next {fl : List ShipD} {k : Nat} {x : ShipD} (h : GoodTo fl k) (hx : fl[k]? = some x) : GoodTo (fl.set k { x with tugs := if 1 < x.tugs then (1 : Int) else x.tugs }) (k + 1) := by
  intro j y hy
  by_cases e : j = k
  · subst e
    have hlt := (List.getElem?_eq_some_iff.1 hx).1
    rw [List.getElem?_set_self hlt] at hy
    injection hy with hy
    subst hy
    obtain ⟨⟨h1, h2, h3, h4, h5, h6, h7, h8, h9⟩, -⟩ := h j x hx
    exact ⟨⟨h1, h2, h3, h4, h5, h6, h7, by show 0 ≤ (if 1 < x.tugs then (1 : Int) else x.tugs); split <;> omega, by show (if 1 < x.tugs then (1 : Int) else x.tugs) < 3; split <;> omega⟩, fun _ => by show (if 1 < x.tugs then (1 : Int) else x.tugs) ≤ 1; split <;> omega⟩
  · rw [List.getElem?_set_ne (fun e' => e e'.symm)] at hy
    obtain ⟨h1, h2⟩ := h j y hy
    exact ⟨h1, fun hj => h2 (by omega)⟩
set_option maxHeartbeats 4000000 in
theorem l15Harbour_any (p : Nat) (w : World) (hcur : Cursor w p) : Calls Try.prog 41 #[.pointer (some ⟨p, 0, none⟩)] w (DrawsHarb p w) := by
  have hb0 := Joins.below_alloc1 w (.cells #[.int .i64 0, .slice none 0 0, .slice none 0 0, .slice none 0 0, .slice none 0 0, .slice none 0 0, .int .i64 0, .bool false, .int .i64 0, .int .i64 0, .int .i64 0, .slice none 0 0] 40)
  have hp := hcur.lt
  have G0 := Lib.hid (grown_alloc w (.cells #[.int .i64 0, .slice none 0 0, .slice none 0 0, .slice none 0 0, .slice none 0 0, .slice none 0 0, .int .i64 0, .bool false, .int .i64 0, .int .i64 0, .int .i64 0, .slice none 0 0] 40) (some p))
  have K0 := Lib.hid (Blk.new w #[.int .i64 0, .slice none 0 0, .slice none 0 0, .slice none 0 0, .slice none 0 0, .slice none 0 0, .int .i64 0, .bool false, .int .i64 0, .int .i64 0, .int .i64 0, .slice none 0 0] 40)
  have HC0 := Lib.hid (hcur.below hb0)
  have HNP := Lib.hid (show some w.heap.size ≠ some p by simp; omega)
  clear hcur hb0
  go_enter Try.func41, Try.ntmps41
  go_wp2_with fail
  refine (l03Draw_any p _ HC0.out).mono ?_
  rintro e w1 ⟨m, A0, c0, l, A1, c1, s, rfl, hf, hs3, ho0, ho1, hc, hg⟩
  have hz1 : w.heap.size + 1 ≤ w1.heap.size := by have := hg.size; simpa using this
  have HC1 := Lib.hid hc
  have G1 := Lib.hid (grown_trans G0.out hg)
  have K1 := Lib.hid (K0.out.grown hg HNP.out)
  have O0_1 := Lib.hid (own_lo (base' := w.heap.size + 1) ho0 (by simp))
  have O1_1 := Lib.hid (own_lo (base' := w.heap.size + 1) ho1 (by simp))
  have HF := Lib.hid hf
  obtain ⟨hm0, hm1, -, -⟩ := tideB_true (fcB_true hf).1
  clear hc hg HC0 G0 K0 ho0 ho1 hf
  go_wp2_with fail
  refine (l05Draw_any p _ HC1.out).mono ?_
  rintro e w2 ⟨r, A2, c2, A3, c3, hr, rfl, ho2, ho3, -, hc, hg⟩
  have hz2 : w1.heap.size ≤ w2.heap.size := hg.size
  have HC2 := Lib.hid hc
  have G2 := Lib.hid (grown_trans G1.out hg)
  have K2 := Lib.hid (K1.out.grown hg HNP.out)
  have O0_2 := Lib.hid (own_kept O0_1.out hg (fun b hv e => by have := (own_ge O0_1.out hv).1; have := Option.some.inj e; omega))
  have O1_2 := Lib.hid (own_kept O1_1.out hg (fun b hv e => by have := (own_ge O1_1.out hv).1; have := Option.some.inj e; omega))
  have O2_2 := Lib.hid (own_lo (base' := w.heap.size + 1) ho2 (by omega))
  have O3_2 := Lib.hid (own_lo (base' := w.heap.size + 1) ho3 (by omega))
  have up0 : ∀ g, (Value.slice A0 l.length c0).ownBlock = some g → g < w2.heap.size := fun g hv => (own_ge O0_2.out hv).2
  have up1 : ∀ g, (Value.slice A1 s.length c1).ownBlock = some g → g < w2.heap.size := fun g hv => (own_ge O1_2.out hv).2
  have up2 : ∀ g, (Value.slice A2 r.chart.points.length c2).ownBlock = some g → g < w2.heap.size := fun g hv => (own_ge O2_2.out hv).2
  have up3 : ∀ g, (Value.slice A3 r.chart.segs.length c3).ownBlock = some g → g < w2.heap.size := fun g hv => (own_ge O3_2.out hv).2
  have HR := Lib.hid hr
  have UP0 := Lib.hid up0
  have UP1 := Lib.hid up1
  have UP2 := Lib.hid up2
  have UP3 := Lib.hid up3
  clear hr up0 up1 up2 up3
  clear hc hg HC1 G1 K1 O0_1 O1_1 ho2 ho3
  go_wp2_with fail
  refine (l06Fleet_any p _ HC2.out).mono ?_
  rintro e w3 ⟨A4, c4, fl, rfl, hl1, hl3, hc, hg, ho4, hgood, -⟩
  have hz3 : w2.heap.size ≤ w3.heap.size := hg.size
  have HC3 := Lib.hid hc
  have G3 := Lib.hid (grown_trans G2.out hg)
  have K3 := Lib.hid (K2.out.grown hg HNP.out)
  have O0_3 := Lib.hid (own_kept O0_2.out hg (fun b hv e => by have := (own_ge O0_2.out hv).1; have := Option.some.inj e; omega))
  have O1_3 := Lib.hid (own_kept O1_2.out hg (fun b hv e => by have := (own_ge O1_2.out hv).1; have := Option.some.inj e; omega))
  have O2_3 := Lib.hid (own_kept O2_2.out hg (fun b hv e => by have := (own_ge O2_2.out hv).1; have := Option.some.inj e; omega))
  have O3_3 := Lib.hid (own_kept O3_2.out hg (fun b hv e => by have := (own_ge O3_2.out hv).1; have := Option.some.inj e; omega))
  have O4_3 := Lib.hid (own_lo (base' := w.heap.size + 1) ho4 (by omega))
  obtain ⟨F, cF, eF⟩ := Joins.ownsRow_form O4_3.out (by omega)
  injection eF with eF _ eC
  subst eF
  subst eC
  obtain ⟨L, hL⟩ : ∃ L, fl.length = L := ⟨_, rfl⟩
  have hFl : w2.heap.size ≤ F := (own_ge ho4 (own_blk F _ c4)).1
  have hFu : F < w3.heap.size := (own_ge O4_3.out (own_blk F _ c4)).2
  have HGD := Lib.hid hgood
  have HLN := Lib.hid hL
  have H1L := Lib.hid hl1
  have H3L := Lib.hid hl3
  rw [hL] at O4_3 ho4 hl1 hl3 ⊢
  clear hgood hL
  clear hc hg HC2 G2 K2 O0_2 O1_2 O2_2 O3_2 ho4
  go_wp2_with fail
  refine (l09Regime_any p _ HC3.out).mono ?_
  rintro e w4 ⟨gap, nm, rfl, gp0, gp1, hc, hg⟩
  have hz4 : w3.heap.size ≤ w4.heap.size := hg.size
  have HC4 := Lib.hid hc
  have G4 := Lib.hid (grown_trans G3.out hg)
  have K4 := Lib.hid (K3.out.grown hg HNP.out)
  have O0_4 := Lib.hid (own_kept O0_3.out hg (fun b hv e => by have := (own_ge O0_3.out hv).1; have := Option.some.inj e; omega))
  have O1_4 := Lib.hid (own_kept O1_3.out hg (fun b hv e => by have := (own_ge O1_3.out hv).1; have := Option.some.inj e; omega))
  have O2_4 := Lib.hid (own_kept O2_3.out hg (fun b hv e => by have := (own_ge O2_3.out hv).1; have := Option.some.inj e; omega))
  have O3_4 := Lib.hid (own_kept O3_3.out hg (fun b hv e => by have := (own_ge O3_3.out hv).1; have := Option.some.inj e; omega))
  have O4_4 := Lib.hid (own_kept O4_3.out hg (fun b hv e => by have := (own_ge O4_3.out hv).1; have := Option.some.inj e; omega))
  clear hc hg HC3 G3 K3 O0_3 O1_3 O2_3 O3_3 O4_3 
  go_wp2_with fail
  refine (l14Crew_any p _ HC4.out).mono ?_
  rintro e w5 ⟨tu, pi, re, Mg, c5, mv, rfl, htu, hpi, hre, ho5, hmv, hmb, hc, hg⟩
  have hz5 : w4.heap.size ≤ w5.heap.size := hg.size
  have HC5 := Lib.hid hc
  have G5 := Lib.hid (grown_trans G4.out hg)
  have K5 := Lib.hid (K4.out.grown hg HNP.out)
  have O0_5 := Lib.hid (own_kept O0_4.out hg (fun b hv e => by have := (own_ge O0_4.out hv).1; have := Option.some.inj e; omega))
  have O1_5 := Lib.hid (own_kept O1_4.out hg (fun b hv e => by have := (own_ge O1_4.out hv).1; have := Option.some.inj e; omega))
  have O2_5 := Lib.hid (own_kept O2_4.out hg (fun b hv e => by have := (own_ge O2_4.out hv).1; have := Option.some.inj e; omega))
  have O3_5 := Lib.hid (own_kept O3_4.out hg (fun b hv e => by have := (own_ge O3_4.out hv).1; have := Option.some.inj e; omega))
  have O4_5 := Lib.hid (own_kept O4_4.out hg (fun b hv e => by have := (own_ge O4_4.out hv).1; have := Option.some.inj e; omega))
  have O5_5 := Lib.hid (own_lo (base' := w.heap.size + 1) ho5 (by omega))
  have hMl : w4.heap.size ≤ Mg := (own_ge ho5 (own_blk Mg _ c5)).1
  clear hc hg HC4 G4 K4 O0_4 O1_4 O2_4 O3_4 O4_4 ho5
  have hw : IntKind.i64.wrap (m + 150) = m + 150 := by rw [IntKind.wrap_i64]; omega
  have FAR := Lib.hid (show Far5 F (.slice A0 l.length c0) (.slice A1 s.length c1) (.slice A2 r.chart.points.length c2) (.slice A3 r.chart.segs.length c3) (.slice (some ⟨Mg, 0, none⟩) 64 c5) from ⟨fun e => by have := UP0.out F e; omega, fun e => by have := UP1.out F e; omega, fun e => by have := UP2.out F e; omega, fun e => by have := UP3.out F e; omega, own_blk_ne (by omega)⟩)
  have hal := Joins.below_alloc1 w5 (.cells #[.int .i64 (m + 150), .slice A0 l.length c0, .slice A1 s.length c1, .slice A2 r.chart.points.length c2, .slice A3 r.chart.segs.length c3, .slice (some ⟨F, 0, none⟩) L c4, .int .i64 gap, .bool nm, .int .i64 tu, .int .i64 pi, .int .i64 re, .slice (some ⟨Mg, 0, none⟩) 64 c5] 40)
  obtain ⟨W7, hW7⟩ : ∃ W, W = w5.alloc (.cells #[.int .i64 (m + 150), .slice A0 l.length c0, .slice A1 s.length c1, .slice A2 r.chart.points.length c2, .slice A3 r.chart.segs.length c3, .slice (some ⟨F, 0, none⟩) L c4, .int .i64 gap, .bool nm, .int .i64 tu, .int .i64 pi, .int .i64 re, .slice (some ⟨Mg, 0, none⟩) 64 c5] 40) := ⟨_, rfl⟩
  have O5 : Own5 w5 (w.heap.size + 1) (.slice A0 l.length c0) (.slice A1 s.length c1) (.slice A2 r.chart.points.length c2) (.slice A3 r.chart.segs.length c3) (.slice (some ⟨Mg, 0, none⟩) 64 c5) l s r.chart.points r.chart.segs mv := ⟨O0_5.out, O1_5.out, O2_5.out, O3_5.out, O5_5.out⟩
  have hb25 : w.heap.size < w5.heap.size := K5.out.lt
  have ST7 : Hid (HbLoop w p w.heap.size w5.heap.size #[.int .i64 (m + 150), .slice A0 l.length c0, .slice A1 s.length c1, .slice A2 r.chart.points.length c2, .slice A3 r.chart.segs.length c3, .slice (some ⟨F, 0, none⟩) L c4, .int .i64 gap, .bool nm, .int .i64 tu, .int .i64 pi, .int .i64 re, .slice (some ⟨Mg, 0, none⟩) 64 c5] (.slice A0 l.length c0) (.slice A1 s.length c1) (.slice A2 r.chart.points.length c2) (.slice A3 r.chart.segs.length c3) (.slice (some ⟨F, 0, none⟩) L c4) (.slice (some ⟨Mg, 0, none⟩) 64 c5) l s r.chart.points r.chart.segs mv fl W7) := by
    rw [hW7]
    exact Lib.hid ⟨HC5.out.below hal, grown_trans G5.out (grown_of_below hal _), K5.out.below hal, Blk.new w5 _ _, O5.below hal, own_below O4_5.out hal⟩
  have HW7 := Lib.hid hW7
  clear hW7 hal O5 O0_5 O1_5 O2_5 O3_5 O4_5 O5_5 HC5 G5 K5 UP0 UP1 UP2 UP3
  have FX := Lib.hid (show W7.cell? ⟨w5.heap.size, 5, none⟩ = some (.slice (some ⟨F, 0, none⟩) L c4) from ST7.out.2.2.2.1.cell 5)
  go_wp2
  rw [← HW7.out]
  obtain ⟨b3, hb3⟩ : ∃ b3, w5.heap.size = b3 := ⟨_, rfl⟩
  have hFb : F < b3 := by omega
  have hMb : w.heap.size + 1 ≤ F := by omega
  rw [hb3] at ST7 hb25 FX ⊢
  clear HW7 hb3
  go_loopw [27] (fun i wr => ∃ (k : Nat) (fk : List ShipD), k ≤ L ∧ fk.length = L ∧ i = .int .i64 k ∧ Hid (GoodTo fk k) ∧ Hid (HbLoop w p w.heap.size b3 #[.int .i64 (m + 150), .slice A0 l.length c0, .slice A1 s.length c1, .slice A2 r.chart.points.length c2, .slice A3 r.chart.segs.length c3, .slice (some ⟨F, 0, none⟩) L c4, .int .i64 gap, .bool nm, .int .i64 tu, .int .i64 pi, .int .i64 re, .slice (some ⟨Mg, 0, none⟩) 64 c5] (.slice A0 l.length c0) (.slice A1 s.length c1) (.slice A2 r.chart.points.length c2) (.slice A3 r.chart.segs.length c3) (.slice (some ⟨F, 0, none⟩) L c4) (.slice (some ⟨Mg, 0, none⟩) 64 c5) l s r.chart.points r.chart.segs mv fk wr)) (fun i _ => L - (intOf i).toNat)
  case atStart => exact ⟨0, fl, Nat.zero_le _, HLN.out, rfl, Lib.hid (fun j x hx => ⟨HGD.out j x hx, fun h => absurd h (by omega)⟩), ST7⟩
  case round =>
    obtain ⟨k, fk, hk, hfk, rfl, hGo, hS⟩ := hrel
    by_cases hlt : k < L
    · obtain ⟨x, hx⟩ : ∃ x, fk[k]? = some x := ⟨_, List.getElem?_eq_getElem (by omega)⟩
      have hS' := hS.out
      rw [← hfk] at hS'
      obtain ⟨t0, f0, hn⟩ := hS'.put FAR.out (by omega) (by omega) (by omega) (by omega) (by have := H3L.out; have := HLN.out; omega) hx (if 1 < x.tugs then (1 : Int) else x.tugs)
      rw [hfk] at hn
      have GN := Lib.hid (hGo.out.next hx)
      have c5' : wr.cell? ⟨b3, 5, none⟩ = some (.slice (some ⟨F, 0, none⟩) L c4) := hS.out.2.2.2.1.cell 5
      have hnext : IntKind.i64.wrap ((k : Int) + 1) = ((k + 1 : Nat) : Int) := by have := H3L.out; have := HLN.out; rw [IntKind.wrap_i64]; omega
      have SND := Lib.hid hn.drew
      have hfl : (fk.set k { x with tugs := if 1 < x.tugs then (1 : Int) else x.tugs }).length = L := by rw [List.length_set]; exact hfk
      have HFL := Lib.hid hfl
      have HX := Lib.hid hx
      have HFK := Lib.hid hfk
      clear hn hS' hfl hx hfk
      go_upto_region 6 with fail
      go_still_tail 12, (by kernel_rfl)
      change wpList _ _ _ _ _ wr.drew
      clear c5'
      go_wp2
      go_roundw
      case rel => exact ⟨k + 1, _, by omega, HFL.out, by rfl, GN, SND⟩
      case measure => simp [intOf]; omega
    · obtain rfl : k = L := by omega
      obtain ⟨e1, e2, e3, e4, e5, e6⟩ := hS.out
      have q0 : wr.cell? ⟨b3, 0, none⟩ = some (.int .i64 (m + 150)) := e4.cell 0
      have q1 : wr.cell? ⟨b3, 1, none⟩ = some (.slice A0 l.length c0) := e4.cell 1
      have q2 : wr.cell? ⟨b3, 2, none⟩ = some (.slice A1 s.length c1) := e4.cell 2
      have q3 : wr.cell? ⟨b3, 3, none⟩ = some (.slice A2 r.chart.points.length c2) := e4.cell 3
      have q4 : wr.cell? ⟨b3, 4, none⟩ = some (.slice A3 r.chart.segs.length c3) := e4.cell 4
      have q5 : wr.cell? ⟨b3, 5, none⟩ = some (.slice (some ⟨F, 0, none⟩) k c4) := e4.cell 5
      have q6 : wr.cell? ⟨b3, 6, none⟩ = some (.int .i64 gap) := e4.cell 6
      have q7 : wr.cell? ⟨b3, 7, none⟩ = some (.bool nm) := e4.cell 7
      have q8 : wr.cell? ⟨b3, 8, none⟩ = some (.int .i64 tu) := e4.cell 8
      have q9 : wr.cell? ⟨b3, 9, none⟩ = some (.int .i64 pi) := e4.cell 9
      have q10 : wr.cell? ⟨b3, 10, none⟩ = some (.int .i64 re) := e4.cell 10
      have q11 : wr.cell? ⟨b3, 11, none⟩ = some (.slice (some ⟨Mg, 0, none⟩) 64 c5) := e4.cell 11
      have r0 : wr.cell? ⟨w.heap.size, 0, none⟩ = some (.int .i64 0) := e3.cell 0
      have s0 : wr.frozen? ⟨w.heap.size, 0, none⟩ = false := e3.free 0
      have r1 : wr.cell? ⟨w.heap.size, 1, none⟩ = some (.slice none 0 0) := e3.cell 1
      have s1 : wr.frozen? ⟨w.heap.size, 1, none⟩ = false := e3.free 1
      have r2 : wr.cell? ⟨w.heap.size, 2, none⟩ = some (.slice none 0 0) := e3.cell 2
      have s2 : wr.frozen? ⟨w.heap.size, 2, none⟩ = false := e3.free 2
      have r3 : wr.cell? ⟨w.heap.size, 3, none⟩ = some (.slice none 0 0) := e3.cell 3
      have s3 : wr.frozen? ⟨w.heap.size, 3, none⟩ = false := e3.free 3
      have r4 : wr.cell? ⟨w.heap.size, 4, none⟩ = some (.slice none 0 0) := e3.cell 4
      have s4 : wr.frozen? ⟨w.heap.size, 4, none⟩ = false := e3.free 4
      have r5 : wr.cell? ⟨w.heap.size, 5, none⟩ = some (.slice none 0 0) := e3.cell 5
      have s5 : wr.frozen? ⟨w.heap.size, 5, none⟩ = false := e3.free 5
      have r6 : wr.cell? ⟨w.heap.size, 6, none⟩ = some (.int .i64 0) := e3.cell 6
      have s6 : wr.frozen? ⟨w.heap.size, 6, none⟩ = false := e3.free 6
      have r7 : wr.cell? ⟨w.heap.size, 7, none⟩ = some (.bool false) := e3.cell 7
      have s7 : wr.frozen? ⟨w.heap.size, 7, none⟩ = false := e3.free 7
      have r8 : wr.cell? ⟨w.heap.size, 8, none⟩ = some (.int .i64 0) := e3.cell 8
      have s8 : wr.frozen? ⟨w.heap.size, 8, none⟩ = false := e3.free 8
      have r9 : wr.cell? ⟨w.heap.size, 9, none⟩ = some (.int .i64 0) := e3.cell 9
      have s9 : wr.frozen? ⟨w.heap.size, 9, none⟩ = false := e3.free 9
      have r10 : wr.cell? ⟨w.heap.size, 10, none⟩ = some (.int .i64 0) := e3.cell 10
      have s10 : wr.frozen? ⟨w.heap.size, 10, none⟩ = false := e3.free 10
      have r11 : wr.cell? ⟨w.heap.size, 11, none⟩ = some (.slice none 0 0) := e3.cell 11
      have s11 : wr.frozen? ⟨w.heap.size, 11, none⟩ = false := e3.free 11
      have E1 := Lib.hid e1
      have E2 := Lib.hid e2
      have E5 := Lib.hid e5
      have E6 := Lib.hid e6
      have HFK := Lib.hid hfk
      have FR2 := Lib.hid (e5.far (b := w.heap.size) (.inl (by omega)))
      have hne : w.heap.size ≠ b3 := by omega
      have hne' : b3 ≠ w.heap.size := by omega
      clear e1 e2 e3 e4 e5 e6 hS hfk
      go_wp2
      clear q0 s0 q1 s1 q2 s2 q3 s3 q4 s4 q5 s5 q6 s6 q7 s7 q8 s8 q9 s9 q10 s10 q11 s11
      refine bodyPost_ret (v := .agg #[.int .i64 (m + 150), .slice A0 l.length c0, .slice A1 s.length c1, .slice A2 r.chart.points.length c2, .slice A3 r.chart.segs.length c3, .slice (some ⟨F, 0, none⟩) k c4, .int .i64 gap, .bool nm, .int .i64 tu, .int .i64 pi, .int .i64 re, .slice (some ⟨Mg, 0, none⟩) 64 c5]) (by simp [results, Try.results41, go_sem, r0, r1, r2, r3, r4, r5, r6, r7, r8, r9, r10, r11]) rfl ⟨⟨m + 150, l, s, r, fk, gap, nm, tu, pi, re, mv⟩, A0, c0, A1, c1, A2, c2, A3, c3, some ⟨F, 0, none⟩, c4, some ⟨Mg, 0, none⟩, c5, ?_, by show _ = Ending.returned (.agg #[.int .i64 (m + 150), .slice A0 l.length c0, .slice A1 s.length c1, .slice A2 r.chart.points.length c2, .slice A3 r.chart.segs.length c3, .slice (some ⟨F, 0, none⟩) fk.length c4, .int .i64 gap, .bool nm, .int .i64 tu, .int .i64 pi, .int .i64 re, .slice (some ⟨Mg, 0, none⟩) 64 c5]); rw [HFK.out], ⟨?_, ?_⟩, ?_, ?_⟩
      · refine ⟨by show fcB (m + 150 - 150) l s = true; rw [show m + 150 - 150 = m by omega]; exact HF.out, hs3, HR.out, ⟨by show 1 ≤ fk.length; rw [HFK.out]; have := H1L.out; have := HLN.out; omega, by show fk.length ≤ 3; rw [HFK.out]; have := H3L.out; have := HLN.out; omega⟩, fun j x hx => ⟨(hGo.out j x hx).1, (hGo.out j x hx).2 (by have h1 : j < fk.length := (List.getElem?_eq_some_iff.1 hx).1; have := HFK.out; omega)⟩, ⟨gp0, gp1⟩, htu, hpi, hre, hmv, hmb⟩
      · have z := E5.out
        replace z := z.set FR2.out 0 (.int .i64 (m + 150))
        replace z := z.set FR2.out 1 (.slice A0 l.length c0)
        replace z := z.set FR2.out 2 (.slice A1 s.length c1)
        replace z := z.set FR2.out 3 (.slice A2 r.chart.points.length c2)
        replace z := z.set FR2.out 4 (.slice A3 r.chart.segs.length c3)
        replace z := z.set FR2.out 5 (.slice (some ⟨F, 0, none⟩) k c4)
        replace z := z.set FR2.out 6 (.int .i64 gap)
        replace z := z.set FR2.out 7 (.bool nm)
        replace z := z.set FR2.out 8 (.int .i64 tu)
        replace z := z.set FR2.out 9 (.int .i64 pi)
        replace z := z.set FR2.out 10 (.int .i64 re)
        replace z := z.set FR2.out 11 (.slice (some ⟨Mg, 0, none⟩) 64 c5)
        exact z.lo (by omega)
      · have z := E6.out
        have zb : (Value.slice (some ⟨F, 0, none⟩) k c4).ownBlock ≠ some w.heap.size := own_blk_ne (by omega)
        replace z := own_setO z zb 0 (.int .i64 (m + 150))
        replace z := own_setO z zb 1 (.slice A0 l.length c0)
        replace z := own_setO z zb 2 (.slice A1 s.length c1)
        replace z := own_setO z zb 3 (.slice A2 r.chart.points.length c2)
        replace z := own_setO z zb 4 (.slice A3 r.chart.segs.length c3)
        replace z := own_setO z zb 5 (.slice (some ⟨F, 0, none⟩) k c4)
        replace z := own_setO z zb 6 (.int .i64 gap)
        replace z := own_setO z zb 7 (.bool nm)
        replace z := own_setO z zb 8 (.int .i64 tu)
        replace z := own_setO z zb 9 (.int .i64 pi)
        replace z := own_setO z zb 10 (.int .i64 re)
        replace z := own_setO z zb 11 (.slice (some ⟨Mg, 0, none⟩) 64 c5)
        have hz : (Value.slice (some ⟨F, 0, none⟩) fk.length c4) = .slice (some ⟨F, 0, none⟩) k c4 := by rw [HFK.out]
        show OwnShip _ _ (Value.slice (some ⟨F, 0, none⟩) fk.length c4) fk
        rw [hz]
        exact own_lo z (by omega)
      · have z := E1.out
        replace z := z.set hp 0 (.int .i64 (m + 150))
        replace z := z.set hp 1 (.slice A0 l.length c0)
        replace z := z.set hp 2 (.slice A1 s.length c1)
        replace z := z.set hp 3 (.slice A2 r.chart.points.length c2)
        replace z := z.set hp 4 (.slice A3 r.chart.segs.length c3)
        replace z := z.set hp 5 (.slice (some ⟨F, 0, none⟩) k c4)
        replace z := z.set hp 6 (.int .i64 gap)
        replace z := z.set hp 7 (.bool nm)
        replace z := z.set hp 8 (.int .i64 tu)
        replace z := z.set hp 9 (.int .i64 pi)
        replace z := z.set hp 10 (.int .i64 re)
        replace z := z.set hp 11 (.slice (some ⟨Mg, 0, none⟩) 64 c5)
        exact z
      · have z := E2.out
        replace z := grown_setNew z (Nat.le_refl w.heap.size) (j := 0) (.int .i64 (m + 150))
        replace z := grown_setNew z (Nat.le_refl w.heap.size) (j := 1) (.slice A0 l.length c0)
        replace z := grown_setNew z (Nat.le_refl w.heap.size) (j := 2) (.slice A1 s.length c1)
        replace z := grown_setNew z (Nat.le_refl w.heap.size) (j := 3) (.slice A2 r.chart.points.length c2)
        replace z := grown_setNew z (Nat.le_refl w.heap.size) (j := 4) (.slice A3 r.chart.segs.length c3)
        replace z := grown_setNew z (Nat.le_refl w.heap.size) (j := 5) (.slice (some ⟨F, 0, none⟩) k c4)
        replace z := grown_setNew z (Nat.le_refl w.heap.size) (j := 6) (.int .i64 gap)
        replace z := grown_setNew z (Nat.le_refl w.heap.size) (j := 7) (.bool nm)
        replace z := grown_setNew z (Nat.le_refl w.heap.size) (j := 8) (.int .i64 tu)
        replace z := grown_setNew z (Nat.le_refl w.heap.size) (j := 9) (.int .i64 pi)
        replace z := grown_setNew z (Nat.le_refl w.heap.size) (j := 10) (.int .i64 re)
        replace z := grown_setNew z (Nat.le_refl w.heap.size) (j := 11) (.slice (some ⟨Mg, 0, none⟩) 64 c5)
        exact z
end Go.Proofs.Ytooeikimoheecaa
