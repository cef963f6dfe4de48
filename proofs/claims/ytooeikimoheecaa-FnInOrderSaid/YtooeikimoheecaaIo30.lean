
/- What InOrderLaw rests on, part 30: contracts and mathematics. -/
import Derived.Test.YtooeikimoheecaaIo26
import Derived.Test.YtooeikimoheecaaIo27
import Derived.StillTailTactics
import Derived.Deep.DeepCutAuto
namespace Go.Proofs.Ytooeikimoheecaa
open Go.RowKit
set_option maxRecDepth 100000
/-- What MakeCall leaves. -/
def MadeCall (w : World) (e : Ending) (w' : World) : Prop := ∃ (h : HarbD) (A0 : Option Addr) (c0 : Nat) (A1 : Option Addr) (c1 : Nat) (A2 : Option Addr) (c2 : Nat) (A3 : Option Addr) (c3 : Nat) (A4 : Option Addr) (c4 : Nat) (A5 : Option Addr) (c5 : Nat) (d : CallD) (i : Nat), HarbOk h ∧ i < h.fl.length ∧ callGood (i : Int) d ∧ e = .returned (.tuple #[.agg #[.int .i64 h.m, .slice A0 h.l.length c0, .slice A1 h.s.length c1, .slice A2 h.ch.chart.points.length c2, .slice A3 h.ch.chart.segs.length c3, .slice A4 h.fl.length c4, .int .i64 h.gap, .bool h.nm, .int .i64 h.tu, .int .i64 h.pi, .int .i64 h.re, .slice A5 64 c5], d.val]) ∧ HarbOwn w' (w.heap.size + 2) A0 c0 A1 c1 A2 c2 A3 c3 A4 c4 A5 c5 h ∧ Below w.heap.size w w'
set_option maxHeartbeats 8000000 in
theorem makeCall_any (A : Option Addr) (n c : Nat) (w : World) (hcode : CodeAt w A n) : Calls Try.prog 8 #[.slice A n c] w (MadeCall w) := by
  have hb0 := Joins.below_alloc2 w (.cells #[.int .i64 0, .slice none 0 0, .slice none 0 0, .slice none 0 0, .slice none 0 0, .slice none 0 0, .int .i64 0, .bool false, .int .i64 0, .int .i64 0, .int .i64 0, .slice none 0 0] 40) (.cells #[.int .i64 0, .int .i64 0, .int .i64 0, .int .i64 0, .int .i64 0] 42)
  have K0 := Lib.hid ((Blk.new w #[.int .i64 0, .slice none 0 0, .slice none 0 0, .slice none 0 0, .slice none 0 0, .slice none 0 0, .int .i64 0, .bool false, .int .i64 0, .int .i64 0, .int .i64 0, .slice none 0 0] 40).below (Joins.below_alloc1 _ (.cells #[.int .i64 0, .int .i64 0, .int .i64 0, .int .i64 0, .int .i64 0] 42)))
  have J0 := Lib.hid (Blk.new (w.alloc (.cells #[.int .i64 0, .slice none 0 0, .slice none 0 0, .slice none 0 0, .slice none 0 0, .slice none 0 0, .int .i64 0, .bool false, .int .i64 0, .int .i64 0, .int .i64 0, .slice none 0 0] 40)) #[.int .i64 0, .int .i64 0, .int .i64 0, .int .i64 0, .int .i64 0] 42)
  rw [World.size_alloc] at J0
  obtain ⟨W0, hW0⟩ : ∃ W0, W0 = (w.alloc (.cells #[.int .i64 0, .slice none 0 0, .slice none 0 0, .slice none 0 0, .slice none 0 0, .slice none 0 0, .int .i64 0, .bool false, .int .i64 0, .int .i64 0, .int .i64 0, .slice none 0 0] 40)).alloc (.cells #[.int .i64 0, .int .i64 0, .int .i64 0, .int .i64 0, .int .i64 0] 42) := ⟨_, rfl⟩
  have HW0 := Lib.hid hW0
  rw [← hW0] at hb0 K0 J0
  have hz0 : W0.heap.size = w.heap.size + 2 := by rw [hW0]; simp
  have CN := Lib.hid (l01New_any A n c _ (hcode.below hb0))
  have B0 := Lib.hid hb0
  have HZ0 := Lib.hid hz0
  clear hcode hb0 hW0 hz0
  go_enter Try.func8, Try.ntmps8
  go_upto_region 1 with fail
  rw [← HW0.out]
  go_wp2_with fail
  refine CN.out.mono ?_
  rintro e w1 ⟨p, rfl, hp, hcur, hb1⟩
  have hp' : w.heap.size + 2 ≤ p := by have := HZ0.out; omega
  have K1 := Lib.hid (K0.out.below hb1)
  have J1 := Lib.hid (J0.out.below hb1)
  have B1 := Lib.hid (B0.out.trans (hb1.mono B0.out.size))
  have HC := Lib.hid hcur
  have hp9 := hcur.lt
  have hlt : w.heap.size + 1 < w1.heap.size := J1.out.lt
  clear hcur hb1 hp CN K0 J0
  go_wp2_with fail
  refine (l15Harbour_any p w1 HC.out).mono ?_
  rintro e w2 ⟨h, A0, c0, A1, c1, A2, c2, A3, c3, A4, c4, A5, c5, hok, rfl, hown, hc2, hg2⟩
  have K2 := Lib.hid (K1.out.grown hg2 (by simp; omega))
  have J2 := Lib.hid (J1.out.grown hg2 (by simp; omega))
  have B2 := Lib.hid (below_of_grown B1.out hg2 B1.out.size (by omega))
  have hz2 := hg2.size
  have HOW := Lib.hid (hown.lo (b' := w.heap.size + 2) (by omega))
  have hfar := fun b (hb : b < w1.heap.size) => hown.far (b := b) (.inl hb)
  have HC2 := Lib.hid hc2
  have HOK := Lib.hid hok
  have hpl : p < w1.heap.size := hp9
  obtain ⟨L, hL⟩ : ∃ L, h.fl.length = L := ⟨_, rfl⟩
  have hL1 : 1 ≤ L := by rw [← hL]; exact hok.2.2.2.1.1
  have hL3 : L ≤ 3 := by rw [← hL]; exact hok.2.2.2.1.2
  have HLN := Lib.hid hL
  rw [hL]
  clear hown hc2 hg2 hok hL K1 J1 B1 HC
  have FARP := Lib.hid (hfar p (by omega))
  have FAR0 := Lib.hid (hfar w.heap.size (by omega))
  have FAR1 := Lib.hid (hfar (w.heap.size + 1) (by omega))
  clear hfar
  go_upto_region 3 with fail
  have KB := Lib.hid (Blk.new w2 #[.int .i64 h.m, .slice A0 h.l.length c0, .slice A1 h.s.length c1, .slice A2 h.ch.chart.points.length c2, .slice A3 h.ch.chart.segs.length c3, .slice A4 L c4, .int .i64 h.gap, .bool h.nm, .int .i64 h.tu, .int .i64 h.pi, .int .i64 h.re, .slice A5 64 c5] 40)
  have BX := Joins.below_alloc1 w2 (.cells #[.int .i64 h.m, .slice A0 h.l.length c0, .slice A1 h.s.length c1, .slice A2 h.ch.chart.points.length c2, .slice A3 h.ch.chart.segs.length c3, .slice A4 L c4, .int .i64 h.gap, .bool h.nm, .int .i64 h.tu, .int .i64 h.pi, .int .i64 h.re, .slice A5 64 c5] 40)
  obtain ⟨W, hW⟩ : ∃ W, W = w2.alloc (.cells #[.int .i64 h.m, .slice A0 h.l.length c0, .slice A1 h.s.length c1, .slice A2 h.ch.chart.points.length c2, .slice A3 h.ch.chart.segs.length c3, .slice A4 L c4, .int .i64 h.gap, .bool h.nm, .int .i64 h.tu, .int .i64 h.pi, .int .i64 h.re, .slice A5 64 c5] 40) := ⟨_, rfl⟩
  rw [← hW] at KB BX ⊢
  have K3 := Lib.hid (K2.out.below BX)
  have J3 := Lib.hid (J2.out.below BX)
  have B3 := Lib.hid (B2.out.trans (BX.mono B2.out.size))
  have HO3 := Lib.hid (HOW.out.below BX)
  have HC3 := Lib.hid (HC2.out.below BX)
  obtain ⟨b3, hb3⟩ : ∃ b, w2.heap.size = b := ⟨_, rfl⟩
  rw [hb3] at KB ⊢
  have hb3' : w1.heap.size ≤ b3 := by omega
  have hpb : p < b3 := by omega
  clear hW BX hb3 K2 J2 B2 HOW HC2 hz2 hpl
  have v0 : W.cell? ⟨b3, 0, none⟩ = some (.int .i64 h.m) := KB.out.cell 0
  have v1 : W.cell? ⟨b3, 1, none⟩ = some (.slice A0 h.l.length c0) := KB.out.cell 1
  have v2 : W.cell? ⟨b3, 2, none⟩ = some (.slice A1 h.s.length c1) := KB.out.cell 2
  have v3 : W.cell? ⟨b3, 3, none⟩ = some (.slice A2 h.ch.chart.points.length c2) := KB.out.cell 3
  have v4 : W.cell? ⟨b3, 4, none⟩ = some (.slice A3 h.ch.chart.segs.length c3) := KB.out.cell 4
  have v5 : W.cell? ⟨b3, 5, none⟩ = some (.slice A4 L c4) := KB.out.cell 5
  have v6 : W.cell? ⟨b3, 6, none⟩ = some (.int .i64 h.gap) := KB.out.cell 6
  have v7 : W.cell? ⟨b3, 7, none⟩ = some (.bool h.nm) := KB.out.cell 7
  have v8 : W.cell? ⟨b3, 8, none⟩ = some (.int .i64 h.tu) := KB.out.cell 8
  have v9 : W.cell? ⟨b3, 9, none⟩ = some (.int .i64 h.pi) := KB.out.cell 9
  have v10 : W.cell? ⟨b3, 10, none⟩ = some (.int .i64 h.re) := KB.out.cell 10
  have v11 : W.cell? ⟨b3, 11, none⟩ = some (.slice A5 64 c5) := KB.out.cell 11
  refine wp_region_held_drew (S := (fun w' => w'.cell? ⟨b3, 0, none⟩ = some (.int .i64 h.m) ∧ w'.cell? ⟨b3, 1, none⟩ = some (.slice A0 h.l.length c0) ∧ w'.cell? ⟨b3, 2, none⟩ = some (.slice A1 h.s.length c1) ∧ w'.cell? ⟨b3, 3, none⟩ = some (.slice A2 h.ch.chart.points.length c2) ∧ w'.cell? ⟨b3, 4, none⟩ = some (.slice A3 h.ch.chart.segs.length c3) ∧ w'.cell? ⟨b3, 5, none⟩ = some (.slice A4 L c4) ∧ w'.cell? ⟨b3, 6, none⟩ = some (.int .i64 h.gap) ∧ w'.cell? ⟨b3, 7, none⟩ = some (.bool h.nm) ∧ w'.cell? ⟨b3, 8, none⟩ = some (.int .i64 h.tu) ∧ w'.cell? ⟨b3, 9, none⟩ = some (.int .i64 h.pi) ∧ w'.cell? ⟨b3, 10, none⟩ = some (.int .i64 h.re) ∧ w'.cell? ⟨b3, 11, none⟩ = some (.slice A5 64 c5))) (by kernel_rfl) ?_ (fun hHeld => ?_)
  · (try dsimp only); go_keep
  refine wpAnyH_take (i := 0) (v := ?_) (by simp only [List.getElem?_toArray, List.getElem?_cons_zero]; rfl) (by kernel_rfl) (by kernel_rfl) (by kernel_rfl) (by exact fun _ _ _ h => h) (Or.inl ⟨by rfl, ?_⟩) (by assumption) ?_; rotate_left; focus (intro w hSw; (try dsimp only at hSw); first | (go_simp; done) | (go_simp; with_reducible rfl))
  try simp only [Act.put, List.setIfInBounds_toArray, List.set_cons_zero, List.set_cons_succ]
  refine wpAnyH_take (i := 1) (v := ?_) (by simp only [List.getElem?_toArray, List.getElem?_cons_succ, List.getElem?_cons_zero]; rfl) (by kernel_rfl) (by kernel_rfl) (by kernel_rfl) (by exact fun _ _ _ h => h) (Or.inl ⟨by rfl, ?_⟩) (by assumption) ?_; rotate_left; focus (intro w hSw; (try dsimp only at hSw); first | (go_simp; done) | (go_simp; with_reducible rfl))
  try simp only [Act.put, List.setIfInBounds_toArray, List.set_cons_zero, List.set_cons_succ]
  refine wpAnyH_take (i := 2) (v := ?_) (by simp only [List.getElem?_toArray, List.getElem?_cons_succ, List.getElem?_cons_zero]; rfl) (by kernel_rfl) (by kernel_rfl) (by kernel_rfl) (by exact fun _ _ _ h => h) (Or.inl ⟨by rfl, ?_⟩) (by assumption) ?_; rotate_left; focus (intro w hSw; (try dsimp only at hSw); first | (go_simp; done) | (go_simp; with_reducible rfl))
  try simp only [Act.put, List.setIfInBounds_toArray, List.set_cons_zero, List.set_cons_succ]
  refine wpAnyH_take (i := 3) (v := ?_) (by simp only [List.getElem?_toArray, List.getElem?_cons_succ, List.getElem?_cons_zero]; rfl) (by kernel_rfl) (by kernel_rfl) (by kernel_rfl) (by exact fun _ _ _ h => h) (Or.inl ⟨by rfl, ?_⟩) (by assumption) ?_; rotate_left; focus (intro w hSw; (try dsimp only at hSw); first | (go_simp; done) | (go_simp; with_reducible rfl))
  try simp only [Act.put, List.setIfInBounds_toArray, List.set_cons_zero, List.set_cons_succ]
  refine wpAnyH_take (i := 4) (v := ?_) (by simp only [List.getElem?_toArray, List.getElem?_cons_succ, List.getElem?_cons_zero]; rfl) (by kernel_rfl) (by kernel_rfl) (by kernel_rfl) (by exact fun _ _ _ h => h) (Or.inl ⟨by rfl, ?_⟩) (by assumption) ?_; rotate_left; focus (intro w hSw; (try dsimp only at hSw); first | (go_simp; done) | (go_simp; with_reducible rfl))
  try simp only [Act.put, List.setIfInBounds_toArray, List.set_cons_zero, List.set_cons_succ]
  refine wpAnyH_take (i := 5) (v := ?_) (by simp only [List.getElem?_toArray, List.getElem?_cons_succ, List.getElem?_cons_zero]; rfl) (by kernel_rfl) (by kernel_rfl) (by kernel_rfl) (by exact fun _ _ _ h => h) (Or.inl ⟨by rfl, ?_⟩) (by assumption) ?_; rotate_left; focus (intro w hSw; (try dsimp only at hSw); first | (go_simp; done) | (go_simp; with_reducible rfl))
  try simp only [Act.put, List.setIfInBounds_toArray, List.set_cons_zero, List.set_cons_succ]
  clear v0 v1 v2 v3 v4 v5 v6 v7 v8 v9 v10 v11
  refine wpAnyH_ready (rs := [6]) (by kernel_rfl) (by simp) ?_
  refine AllReadyH.cons rfl (fun K hK => ?_) AllReadyH.nil
  rw [if_pos (by rfl)]
  go_simp
  go_at_call 43
  refine (l01Below_any p (L : Int) W.drew (by omega) (by omega) HC3.out.drew).mono ?_
  rintro e wa ⟨x, rfl, x0, x1, hc, hg⟩
  obtain ⟨i, rfl⟩ : ∃ i : Nat, x = (i : Int) := ⟨x.toNat, by omega⟩
  have hga : W.grownBy wa (some p) := ⟨hg.os, hg.tape, hg.output, hg.size, hg.block⟩
  have KA := Lib.hid (KB.out.grown hga (by simp; omega))
  have K4 := Lib.hid (K3.out.grown hga (by simp; omega))
  have J4 := Lib.hid (J3.out.grown hga (by simp; omega))
  have B4 := Lib.hid (below_of_grown B3.out hga B3.out.size (by omega))
  have HO4 := Lib.hid (HO3.out.kept hga (fun b hb => by injection hb with hb; subst hb; exact FARP.out))
  have HC4 := Lib.hid hc
  have QS := Lib.hid (show wa.cell? ⟨b3, 0, none⟩ = some (.int .i64 h.m) ∧ wa.cell? ⟨b3, 1, none⟩ = some (.slice A0 h.l.length c0) ∧ wa.cell? ⟨b3, 2, none⟩ = some (.slice A1 h.s.length c1) ∧ wa.cell? ⟨b3, 3, none⟩ = some (.slice A2 h.ch.chart.points.length c2) ∧ wa.cell? ⟨b3, 4, none⟩ = some (.slice A3 h.ch.chart.segs.length c3) ∧ wa.cell? ⟨b3, 5, none⟩ = some (.slice A4 L c4) ∧ wa.cell? ⟨b3, 6, none⟩ = some (.int .i64 h.gap) ∧ wa.cell? ⟨b3, 7, none⟩ = some (.bool h.nm) ∧ wa.cell? ⟨b3, 8, none⟩ = some (.int .i64 h.tu) ∧ wa.cell? ⟨b3, 9, none⟩ = some (.int .i64 h.pi) ∧ wa.cell? ⟨b3, 10, none⟩ = some (.int .i64 h.re) ∧ wa.cell? ⟨b3, 11, none⟩ = some (.slice A5 64 c5) from ⟨KA.out.cell 0, KA.out.cell 1, KA.out.cell 2, KA.out.cell 3, KA.out.cell 4, KA.out.cell 5, KA.out.cell 6, KA.out.cell 7, KA.out.cell 8, KA.out.cell 9, KA.out.cell 10, KA.out.cell 11⟩)
  clear hc hg hga
  go_simp
  refine hK.out _ _ QS.out (fun hHeld => ?_)
  clear hK K
  try simp only [Act.put, List.setIfInBounds_toArray, List.set_cons_zero, List.set_cons_succ]
  refine wpAnyH_ready (rs := [7]) (by kernel_rfl) (by simp) ?_
  refine AllReadyH.cons rfl (fun K hK => ?_) AllReadyH.nil
  rw [if_pos (by rfl)]
  go_simp
  go_at_call 42
  refine (l15Call_any p (i : Int) _ HC4.out).mono ?_
  rintro e wb ⟨d, rfl, hd, hc, hg⟩
  have HD := Lib.hid hd
  have KC := Lib.hid (KA.out.grown hg (by simp; omega))
  have K5 := Lib.hid (K4.out.grown hg (by simp; omega))
  have J5 := Lib.hid (J4.out.grown hg (by simp; omega))
  have B5 := Lib.hid (below_of_grown B4.out hg B4.out.size (by omega))
  have HO5 := Lib.hid (HO4.out.kept hg (fun b hb => by injection hb with hb; subst hb; exact FARP.out))
  have QS := Lib.hid (show wb.cell? ⟨b3, 0, none⟩ = some (.int .i64 h.m) ∧ wb.cell? ⟨b3, 1, none⟩ = some (.slice A0 h.l.length c0) ∧ wb.cell? ⟨b3, 2, none⟩ = some (.slice A1 h.s.length c1) ∧ wb.cell? ⟨b3, 3, none⟩ = some (.slice A2 h.ch.chart.points.length c2) ∧ wb.cell? ⟨b3, 4, none⟩ = some (.slice A3 h.ch.chart.segs.length c3) ∧ wb.cell? ⟨b3, 5, none⟩ = some (.slice A4 L c4) ∧ wb.cell? ⟨b3, 6, none⟩ = some (.int .i64 h.gap) ∧ wb.cell? ⟨b3, 7, none⟩ = some (.bool h.nm) ∧ wb.cell? ⟨b3, 8, none⟩ = some (.int .i64 h.tu) ∧ wb.cell? ⟨b3, 9, none⟩ = some (.int .i64 h.pi) ∧ wb.cell? ⟨b3, 10, none⟩ = some (.int .i64 h.re) ∧ wb.cell? ⟨b3, 11, none⟩ = some (.slice A5 64 c5) from ⟨KC.out.cell 0, KC.out.cell 1, KC.out.cell 2, KC.out.cell 3, KC.out.cell 4, KC.out.cell 5, KC.out.cell 6, KC.out.cell 7, KC.out.cell 8, KC.out.cell 9, KC.out.cell 10, KC.out.cell 11⟩)
  clear hd hc hg
  go_simp
  refine hK.out _ _ QS.out (fun hHeld => ?_)
  clear hK K
  try simp only [Act.put, List.setIfInBounds_toArray, List.set_cons_zero, List.set_cons_succ]
  refine wpAnyH_ready (rs := [8]) (by kernel_rfl) (by simp) ?_
  refine AllReadyH.cons rfl (fun K hK => ?_) AllReadyH.nil
  rw [if_pos (by rfl)]
  have r0 : wb.cell? ⟨w.heap.size, 0, none⟩ = some (.int .i64 0) := K5.out.cell 0
  have s0 : wb.frozen? ⟨w.heap.size, 0, none⟩ = false := K5.out.free 0
  have r1 : wb.cell? ⟨w.heap.size, 1, none⟩ = some (.slice none 0 0) := K5.out.cell 1
  have s1 : wb.frozen? ⟨w.heap.size, 1, none⟩ = false := K5.out.free 1
  have r2 : wb.cell? ⟨w.heap.size, 2, none⟩ = some (.slice none 0 0) := K5.out.cell 2
  have s2 : wb.frozen? ⟨w.heap.size, 2, none⟩ = false := K5.out.free 2
  have r3 : wb.cell? ⟨w.heap.size, 3, none⟩ = some (.slice none 0 0) := K5.out.cell 3
  have s3 : wb.frozen? ⟨w.heap.size, 3, none⟩ = false := K5.out.free 3
  have r4 : wb.cell? ⟨w.heap.size, 4, none⟩ = some (.slice none 0 0) := K5.out.cell 4
  have s4 : wb.frozen? ⟨w.heap.size, 4, none⟩ = false := K5.out.free 4
  have r5 : wb.cell? ⟨w.heap.size, 5, none⟩ = some (.slice none 0 0) := K5.out.cell 5
  have s5 : wb.frozen? ⟨w.heap.size, 5, none⟩ = false := K5.out.free 5
  have r6 : wb.cell? ⟨w.heap.size, 6, none⟩ = some (.int .i64 0) := K5.out.cell 6
  have s6 : wb.frozen? ⟨w.heap.size, 6, none⟩ = false := K5.out.free 6
  have r7 : wb.cell? ⟨w.heap.size, 7, none⟩ = some (.bool false) := K5.out.cell 7
  have s7 : wb.frozen? ⟨w.heap.size, 7, none⟩ = false := K5.out.free 7
  have r8 : wb.cell? ⟨w.heap.size, 8, none⟩ = some (.int .i64 0) := K5.out.cell 8
  have s8 : wb.frozen? ⟨w.heap.size, 8, none⟩ = false := K5.out.free 8
  have r9 : wb.cell? ⟨w.heap.size, 9, none⟩ = some (.int .i64 0) := K5.out.cell 9
  have s9 : wb.frozen? ⟨w.heap.size, 9, none⟩ = false := K5.out.free 9
  have r10 : wb.cell? ⟨w.heap.size, 10, none⟩ = some (.int .i64 0) := K5.out.cell 10
  have s10 : wb.frozen? ⟨w.heap.size, 10, none⟩ = false := K5.out.free 10
  have r11 : wb.cell? ⟨w.heap.size, 11, none⟩ = some (.slice none 0 0) := K5.out.cell 11
  have s11 : wb.frozen? ⟨w.heap.size, 11, none⟩ = false := K5.out.free 11
  go_simp
  have KD := KC.out
  have JD := J5.out
  have KR := K5.out
  have OD := HO5.out
  have BD := B5.out
  replace KD := KD.other (b' := w.heap.size) (by omega) 0 (.int .i64 h.m)
  replace JD := JD.other (b' := w.heap.size) (by omega) 0 (.int .i64 h.m)
  replace KR := KR.set 0 (.int .i64 h.m)
  replace OD := OD.set FAR0.out 0 (.int .i64 h.m)
  replace BD := BD.setCell (p := ⟨w.heap.size, 0, none⟩) (Nat.le_refl _) (.int .i64 h.m)
  replace KD := KD.other (b' := w.heap.size) (by omega) 1 (.slice A0 h.l.length c0)
  replace JD := JD.other (b' := w.heap.size) (by omega) 1 (.slice A0 h.l.length c0)
  replace KR := KR.set 1 (.slice A0 h.l.length c0)
  replace OD := OD.set FAR0.out 1 (.slice A0 h.l.length c0)
  replace BD := BD.setCell (p := ⟨w.heap.size, 1, none⟩) (Nat.le_refl _) (.slice A0 h.l.length c0)
  replace KD := KD.other (b' := w.heap.size) (by omega) 2 (.slice A1 h.s.length c1)
  replace JD := JD.other (b' := w.heap.size) (by omega) 2 (.slice A1 h.s.length c1)
  replace KR := KR.set 2 (.slice A1 h.s.length c1)
  replace OD := OD.set FAR0.out 2 (.slice A1 h.s.length c1)
  replace BD := BD.setCell (p := ⟨w.heap.size, 2, none⟩) (Nat.le_refl _) (.slice A1 h.s.length c1)
  replace KD := KD.other (b' := w.heap.size) (by omega) 3 (.slice A2 h.ch.chart.points.length c2)
  replace JD := JD.other (b' := w.heap.size) (by omega) 3 (.slice A2 h.ch.chart.points.length c2)
  replace KR := KR.set 3 (.slice A2 h.ch.chart.points.length c2)
  replace OD := OD.set FAR0.out 3 (.slice A2 h.ch.chart.points.length c2)
  replace BD := BD.setCell (p := ⟨w.heap.size, 3, none⟩) (Nat.le_refl _) (.slice A2 h.ch.chart.points.length c2)
  replace KD := KD.other (b' := w.heap.size) (by omega) 4 (.slice A3 h.ch.chart.segs.length c3)
  replace JD := JD.other (b' := w.heap.size) (by omega) 4 (.slice A3 h.ch.chart.segs.length c3)
  replace KR := KR.set 4 (.slice A3 h.ch.chart.segs.length c3)
  replace OD := OD.set FAR0.out 4 (.slice A3 h.ch.chart.segs.length c3)
  replace BD := BD.setCell (p := ⟨w.heap.size, 4, none⟩) (Nat.le_refl _) (.slice A3 h.ch.chart.segs.length c3)
  replace KD := KD.other (b' := w.heap.size) (by omega) 5 (.slice A4 L c4)
  replace JD := JD.other (b' := w.heap.size) (by omega) 5 (.slice A4 L c4)
  replace KR := KR.set 5 (.slice A4 L c4)
  replace OD := OD.set FAR0.out 5 (.slice A4 L c4)
  replace BD := BD.setCell (p := ⟨w.heap.size, 5, none⟩) (Nat.le_refl _) (.slice A4 L c4)
  replace KD := KD.other (b' := w.heap.size) (by omega) 6 (.int .i64 h.gap)
  replace JD := JD.other (b' := w.heap.size) (by omega) 6 (.int .i64 h.gap)
  replace KR := KR.set 6 (.int .i64 h.gap)
  replace OD := OD.set FAR0.out 6 (.int .i64 h.gap)
  replace BD := BD.setCell (p := ⟨w.heap.size, 6, none⟩) (Nat.le_refl _) (.int .i64 h.gap)
  replace KD := KD.other (b' := w.heap.size) (by omega) 7 (.bool h.nm)
  replace JD := JD.other (b' := w.heap.size) (by omega) 7 (.bool h.nm)
  replace KR := KR.set 7 (.bool h.nm)
  replace OD := OD.set FAR0.out 7 (.bool h.nm)
  replace BD := BD.setCell (p := ⟨w.heap.size, 7, none⟩) (Nat.le_refl _) (.bool h.nm)
  replace KD := KD.other (b' := w.heap.size) (by omega) 8 (.int .i64 h.tu)
  replace JD := JD.other (b' := w.heap.size) (by omega) 8 (.int .i64 h.tu)
  replace KR := KR.set 8 (.int .i64 h.tu)
  replace OD := OD.set FAR0.out 8 (.int .i64 h.tu)
  replace BD := BD.setCell (p := ⟨w.heap.size, 8, none⟩) (Nat.le_refl _) (.int .i64 h.tu)
  replace KD := KD.other (b' := w.heap.size) (by omega) 9 (.int .i64 h.pi)
  replace JD := JD.other (b' := w.heap.size) (by omega) 9 (.int .i64 h.pi)
  replace KR := KR.set 9 (.int .i64 h.pi)
  replace OD := OD.set FAR0.out 9 (.int .i64 h.pi)
  replace BD := BD.setCell (p := ⟨w.heap.size, 9, none⟩) (Nat.le_refl _) (.int .i64 h.pi)
  replace KD := KD.other (b' := w.heap.size) (by omega) 10 (.int .i64 h.re)
  replace JD := JD.other (b' := w.heap.size) (by omega) 10 (.int .i64 h.re)
  replace KR := KR.set 10 (.int .i64 h.re)
  replace OD := OD.set FAR0.out 10 (.int .i64 h.re)
  replace BD := BD.setCell (p := ⟨w.heap.size, 10, none⟩) (Nat.le_refl _) (.int .i64 h.re)
  replace KD := KD.other (b' := w.heap.size) (by omega) 11 (.slice A5 64 c5)
  replace JD := JD.other (b' := w.heap.size) (by omega) 11 (.slice A5 64 c5)
  replace KR := KR.set 11 (.slice A5 64 c5)
  replace OD := OD.set FAR0.out 11 (.slice A5 64 c5)
  replace BD := BD.setCell (p := ⟨w.heap.size, 11, none⟩) (Nat.le_refl _) (.slice A5 64 c5)
  obtain ⟨wc, hwc⟩ : ∃ wc, wc = ((((((((((((wb.setCell ⟨w.heap.size, 0, none⟩ (.int .i64 h.m)).setCell ⟨w.heap.size, 1, none⟩ (.slice A0 h.l.length c0)).setCell ⟨w.heap.size, 2, none⟩ (.slice A1 h.s.length c1)).setCell ⟨w.heap.size, 3, none⟩ (.slice A2 h.ch.chart.points.length c2)).setCell ⟨w.heap.size, 4, none⟩ (.slice A3 h.ch.chart.segs.length c3)).setCell ⟨w.heap.size, 5, none⟩ (.slice A4 L c4)).setCell ⟨w.heap.size, 6, none⟩ (.int .i64 h.gap)).setCell ⟨w.heap.size, 7, none⟩ (.bool h.nm)).setCell ⟨w.heap.size, 8, none⟩ (.int .i64 h.tu)).setCell ⟨w.heap.size, 9, none⟩ (.int .i64 h.pi)).setCell ⟨w.heap.size, 10, none⟩ (.int .i64 h.re)).setCell ⟨w.heap.size, 11, none⟩ (.slice A5 64 c5)) := ⟨_, rfl⟩
  rw [← hwc] at KD JD KR OD BD ⊢
  have KD := Lib.hid KD
  have JD := Lib.hid JD
  simp only [List.setIfInBounds_toArray, List.set_cons_zero, List.set_cons_succ] at KR
  have KR := Lib.hid KR
  have OD := Lib.hid OD
  have BD := Lib.hid BD
  have QS := Lib.hid (show wc.cell? ⟨b3, 0, none⟩ = some (.int .i64 h.m) ∧ wc.cell? ⟨b3, 1, none⟩ = some (.slice A0 h.l.length c0) ∧ wc.cell? ⟨b3, 2, none⟩ = some (.slice A1 h.s.length c1) ∧ wc.cell? ⟨b3, 3, none⟩ = some (.slice A2 h.ch.chart.points.length c2) ∧ wc.cell? ⟨b3, 4, none⟩ = some (.slice A3 h.ch.chart.segs.length c3) ∧ wc.cell? ⟨b3, 5, none⟩ = some (.slice A4 L c4) ∧ wc.cell? ⟨b3, 6, none⟩ = some (.int .i64 h.gap) ∧ wc.cell? ⟨b3, 7, none⟩ = some (.bool h.nm) ∧ wc.cell? ⟨b3, 8, none⟩ = some (.int .i64 h.tu) ∧ wc.cell? ⟨b3, 9, none⟩ = some (.int .i64 h.pi) ∧ wc.cell? ⟨b3, 10, none⟩ = some (.int .i64 h.re) ∧ wc.cell? ⟨b3, 11, none⟩ = some (.slice A5 64 c5) from ⟨KD.out.cell 0, KD.out.cell 1, KD.out.cell 2, KD.out.cell 3, KD.out.cell 4, KD.out.cell 5, KD.out.cell 6, KD.out.cell 7, KD.out.cell 8, KD.out.cell 9, KD.out.cell 10, KD.out.cell 11⟩)
  clear hwc r0 s0 r1 s1 r2 s2 r3 s3 r4 s4 r5 s5 r6 s6 r7 s7 r8 s8 r9 s9 r10 s10 r11 s11
  refine hK.out _ _ QS.out (fun hHeld => ?_)
  clear hK K
  try simp only [Act.put, List.setIfInBounds_toArray, List.set_cons_zero, List.set_cons_succ]
  refine wpAnyH_ready (rs := [9]) (by kernel_rfl) (by simp) ?_
  refine AllReadyH.cons rfl (fun K hK => ?_) AllReadyH.nil
  rw [if_pos (by rfl)]
  have r0 : wc.cell? ⟨w.heap.size + 1, 0, none⟩ = some (.int .i64 0) := JD.out.cell 0
  have s0 : wc.frozen? ⟨w.heap.size + 1, 0, none⟩ = false := JD.out.free 0
  have r1 : wc.cell? ⟨w.heap.size + 1, 1, none⟩ = some (.int .i64 0) := JD.out.cell 1
  have s1 : wc.frozen? ⟨w.heap.size + 1, 1, none⟩ = false := JD.out.free 1
  have r2 : wc.cell? ⟨w.heap.size + 1, 2, none⟩ = some (.int .i64 0) := JD.out.cell 2
  have s2 : wc.frozen? ⟨w.heap.size + 1, 2, none⟩ = false := JD.out.free 2
  have r3 : wc.cell? ⟨w.heap.size + 1, 3, none⟩ = some (.int .i64 0) := JD.out.cell 3
  have s3 : wc.frozen? ⟨w.heap.size + 1, 3, none⟩ = false := JD.out.free 3
  have r4 : wc.cell? ⟨w.heap.size + 1, 4, none⟩ = some (.int .i64 0) := JD.out.cell 4
  have s4 : wc.frozen? ⟨w.heap.size + 1, 4, none⟩ = false := JD.out.free 4
  go_simp
  have KE := KD.out
  have JE := JD.out
  have KS := KR.out
  have OE := OD.out
  have BE := BD.out
  replace KE := KE.other (b' := w.heap.size + 1) (by omega) 0 (.int .i64 d.ship)
  replace JE := JE.set 0 (.int .i64 d.ship)
  replace KS := KS.other (b' := w.heap.size + 1) (by omega) 0 (.int .i64 d.ship)
  replace OE := OE.set FAR1.out 0 (.int .i64 d.ship)
  replace BE := BE.setCell (p := ⟨w.heap.size + 1, 0, none⟩) (by show w.heap.size ≤ w.heap.size + 1; omega) (.int .i64 d.ship)
  replace KE := KE.other (b' := w.heap.size + 1) (by omega) 1 (.int .i64 d.fr)
  replace JE := JE.set 1 (.int .i64 d.fr)
  replace KS := KS.other (b' := w.heap.size + 1) (by omega) 1 (.int .i64 d.fr)
  replace OE := OE.set FAR1.out 1 (.int .i64 d.fr)
  replace BE := BE.setCell (p := ⟨w.heap.size + 1, 1, none⟩) (by show w.heap.size ≤ w.heap.size + 1; omega) (.int .i64 d.fr)
  replace KE := KE.other (b' := w.heap.size + 1) (by omega) 2 (.int .i64 d.tt)
  replace JE := JE.set 2 (.int .i64 d.tt)
  replace KS := KS.other (b' := w.heap.size + 1) (by omega) 2 (.int .i64 d.tt)
  replace OE := OE.set FAR1.out 2 (.int .i64 d.tt)
  replace BE := BE.setCell (p := ⟨w.heap.size + 1, 2, none⟩) (by show w.heap.size ≤ w.heap.size + 1; omega) (.int .i64 d.tt)
  replace KE := KE.other (b' := w.heap.size + 1) (by omega) 3 (.int .i64 d.ready)
  replace JE := JE.set 3 (.int .i64 d.ready)
  replace KS := KS.other (b' := w.heap.size + 1) (by omega) 3 (.int .i64 d.ready)
  replace OE := OE.set FAR1.out 3 (.int .i64 d.ready)
  replace BE := BE.setCell (p := ⟨w.heap.size + 1, 3, none⟩) (by show w.heap.size ≤ w.heap.size + 1; omega) (.int .i64 d.ready)
  replace KE := KE.other (b' := w.heap.size + 1) (by omega) 4 (.int .i64 d.due)
  replace JE := JE.set 4 (.int .i64 d.due)
  replace KS := KS.other (b' := w.heap.size + 1) (by omega) 4 (.int .i64 d.due)
  replace OE := OE.set FAR1.out 4 (.int .i64 d.due)
  replace BE := BE.setCell (p := ⟨w.heap.size + 1, 4, none⟩) (by show w.heap.size ≤ w.heap.size + 1; omega) (.int .i64 d.due)
  obtain ⟨wd, hwd⟩ : ∃ wd, wd = (((((wc.setCell ⟨w.heap.size + 1, 0, none⟩ (.int .i64 d.ship)).setCell ⟨w.heap.size + 1, 1, none⟩ (.int .i64 d.fr)).setCell ⟨w.heap.size + 1, 2, none⟩ (.int .i64 d.tt)).setCell ⟨w.heap.size + 1, 3, none⟩ (.int .i64 d.ready)).setCell ⟨w.heap.size + 1, 4, none⟩ (.int .i64 d.due)) := ⟨_, rfl⟩
  rw [← hwd] at KE JE KS OE BE ⊢
  have KE := Lib.hid KE
  simp only [List.setIfInBounds_toArray, List.set_cons_zero, List.set_cons_succ] at JE
  have JE := Lib.hid JE
  have KS := Lib.hid KS
  have OE := Lib.hid OE
  have BE := Lib.hid BE
  have QS := Lib.hid (show wd.cell? ⟨b3, 0, none⟩ = some (.int .i64 h.m) ∧ wd.cell? ⟨b3, 1, none⟩ = some (.slice A0 h.l.length c0) ∧ wd.cell? ⟨b3, 2, none⟩ = some (.slice A1 h.s.length c1) ∧ wd.cell? ⟨b3, 3, none⟩ = some (.slice A2 h.ch.chart.points.length c2) ∧ wd.cell? ⟨b3, 4, none⟩ = some (.slice A3 h.ch.chart.segs.length c3) ∧ wd.cell? ⟨b3, 5, none⟩ = some (.slice A4 L c4) ∧ wd.cell? ⟨b3, 6, none⟩ = some (.int .i64 h.gap) ∧ wd.cell? ⟨b3, 7, none⟩ = some (.bool h.nm) ∧ wd.cell? ⟨b3, 8, none⟩ = some (.int .i64 h.tu) ∧ wd.cell? ⟨b3, 9, none⟩ = some (.int .i64 h.pi) ∧ wd.cell? ⟨b3, 10, none⟩ = some (.int .i64 h.re) ∧ wd.cell? ⟨b3, 11, none⟩ = some (.slice A5 64 c5) from ⟨KE.out.cell 0, KE.out.cell 1, KE.out.cell 2, KE.out.cell 3, KE.out.cell 4, KE.out.cell 5, KE.out.cell 6, KE.out.cell 7, KE.out.cell 8, KE.out.cell 9, KE.out.cell 10, KE.out.cell 11⟩)
  clear hwd r0 s0 r1 s1 r2 s2 r3 s3 r4 s4
  refine hK.out _ _ QS.out (fun hHeld => ?_)
  clear hK K
  try simp only [Act.put, List.setIfInBounds_toArray, List.set_cons_zero, List.set_cons_succ]
  refine wpAnyH_done (by kernel_rfl) ?_ _
  have r0 : wd.cell? ⟨w.heap.size, 0, none⟩ = some (.int .i64 h.m) := KS.out.cell 0
  have r1 : wd.cell? ⟨w.heap.size, 1, none⟩ = some (.slice A0 h.l.length c0) := KS.out.cell 1
  have r2 : wd.cell? ⟨w.heap.size, 2, none⟩ = some (.slice A1 h.s.length c1) := KS.out.cell 2
  have r3 : wd.cell? ⟨w.heap.size, 3, none⟩ = some (.slice A2 h.ch.chart.points.length c2) := KS.out.cell 3
  have r4 : wd.cell? ⟨w.heap.size, 4, none⟩ = some (.slice A3 h.ch.chart.segs.length c3) := KS.out.cell 4
  have r5 : wd.cell? ⟨w.heap.size, 5, none⟩ = some (.slice A4 L c4) := KS.out.cell 5
  have r6 : wd.cell? ⟨w.heap.size, 6, none⟩ = some (.int .i64 h.gap) := KS.out.cell 6
  have r7 : wd.cell? ⟨w.heap.size, 7, none⟩ = some (.bool h.nm) := KS.out.cell 7
  have r8 : wd.cell? ⟨w.heap.size, 8, none⟩ = some (.int .i64 h.tu) := KS.out.cell 8
  have r9 : wd.cell? ⟨w.heap.size, 9, none⟩ = some (.int .i64 h.pi) := KS.out.cell 9
  have r10 : wd.cell? ⟨w.heap.size, 10, none⟩ = some (.int .i64 h.re) := KS.out.cell 10
  have r11 : wd.cell? ⟨w.heap.size, 11, none⟩ = some (.slice A5 64 c5) := KS.out.cell 11
  have q0 : wd.cell? ⟨w.heap.size + 1, 0, none⟩ = some (.int .i64 d.ship) := JE.out.cell 0
  have q1 : wd.cell? ⟨w.heap.size + 1, 1, none⟩ = some (.int .i64 d.fr) := JE.out.cell 1
  have q2 : wd.cell? ⟨w.heap.size + 1, 2, none⟩ = some (.int .i64 d.tt) := JE.out.cell 2
  have q3 : wd.cell? ⟨w.heap.size + 1, 3, none⟩ = some (.int .i64 d.ready) := JE.out.cell 3
  have q4 : wd.cell? ⟨w.heap.size + 1, 4, none⟩ = some (.int .i64 d.due) := JE.out.cell 4
  clear hHeld
  go_wp2
  refine bodyPost_ret (v := .tuple #[.agg #[.int .i64 h.m, .slice A0 h.l.length c0, .slice A1 h.s.length c1, .slice A2 h.ch.chart.points.length c2, .slice A3 h.ch.chart.segs.length c3, .slice A4 L c4, .int .i64 h.gap, .bool h.nm, .int .i64 h.tu, .int .i64 h.pi, .int .i64 h.re, .slice A5 64 c5], .agg #[.int .i64 d.ship, .int .i64 d.fr, .int .i64 d.tt, .int .i64 d.ready, .int .i64 d.due]]) (by simp [results, Try.results8, go_sem, *]) rfl ⟨h, A0, c0, A1, c1, A2, c2, A3, c3, A4, c4, A5, c5, d, i, HOK.out, by rw [HLN.out]; omega, HD.out, by rw [HLN.out], OE.out, BE.out⟩
end Go.Proofs.Ytooeikimoheecaa
