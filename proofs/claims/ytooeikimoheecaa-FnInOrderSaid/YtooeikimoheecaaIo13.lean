
/- What InOrderLaw rests on, part 13: contracts and mathematics. -/
import Derived.Test.YtooeikimoheecaaIo8
import Derived.Test.YtooeikimoheecaaIo3
import Derived.Deep.RegionHeld3
namespace Go.Proofs.Ytooeikimoheecaa
open Go.RowKit
set_option maxRecDepth 100000
theorem flat_int (l : List Int) : l.flatMap intCells = l.map (fun x => Value.int .i64 x) := by
  induction l with
  | nil => rfl
  | cons x l ih => simp [intCells, ih]
/-- What a drawn regime leaves. -/
def DrawsRegime (p : Nat) (w : World) (e : Ending) (w' : World) : Prop := ∃ (g : Int) (b : Bool), e = .returned (.agg #[.int .i64 g, .bool b]) ∧ 0 ≤ g ∧ g < 30 ∧ Cursor w' p ∧ w.grownBy w' (some p)
set_option maxHeartbeats 1000000 in
theorem l09Regime_any (p : Nat) (w : World) (hcur : Cursor w p) : Calls Try.prog 86 #[.pointer (some ⟨p, 0, none⟩)] w (DrawsRegime p w) := by
  have hb0 := Joins.below_alloc1 w (.cells #[.int .i64 0, .bool false] 35)
  have hp := hcur.lt
  have G0 := Lib.hid (grown_alloc w (.cells #[.int .i64 0, .bool false] 35) (some p))
  have K0 := Lib.hid (Blk.new w #[.int .i64 0, .bool false] 35)
  have HC0 := Lib.hid (hcur.below hb0)
  have HNP := Lib.hid (show some w.heap.size ≠ some p by simp; omega)
  clear hcur hb0
  go_enter Try.func86, Try.ntmps86
  go_wp2_with fail
  refine (l01Below_any p 30 _ (by omega) (by omega) HC0.out).mono ?_
  rintro e w1 ⟨x, rfl, x0, x1, hc, hg⟩
  have HC1 := Lib.hid hc
  have G1 := Lib.hid (grown_trans G0.out hg)
  have K1 := Lib.hid (K0.out.grown hg HNP.out)
  clear hc hg HC0 G0 K0
  go_wp2_with fail
  refine (l01Once_any p 4 _ (by omega) (by omega) HC1.out).mono ?_
  rintro e w2 ⟨b, rfl, hc, hg⟩
  have HC2 := Lib.hid hc
  have G2 := Lib.hid (grown_trans G1.out hg)
  have K2 := K1.out.grown hg HNP.out
  have k0 : w2.cell? ⟨w.heap.size, 0, none⟩ = some (.int .i64 0) := K2.cell 0
  have k1 : w2.cell? ⟨w.heap.size, 1, none⟩ = some (.bool false) := K2.cell 1
  have f0 : w2.frozen? ⟨w.heap.size, 0, none⟩ = false := K2.free 0
  have f1 : w2.frozen? ⟨w.heap.size, 1, none⟩ = false := K2.free 1
  clear hc hg HC1 G1 K1 K2
  go_wp2
  refine bodyPost_ret (v := .agg #[.int .i64 x, .bool b]) (by simp [results, Try.results86, go_sem, *]) rfl ⟨x, b, rfl, x0, x1, (HC2.out.set hp _ _).set hp _ _, grown_setNew (grown_setNew G2.out (Nat.le_refl _) _) (Nat.le_refl _) _⟩
/-- What holds of drawn moves. -/
def MvDraw (w : World) (p : Nat) (v : Value) (l : List Int) (wr : World) : Prop := Cursor wr p ∧ w.grownBy wr (some p) ∧ OwnInt wr w.heap.size v l ∧ l.length = 64 ∧ (∀ x ∈ l, 0 ≤ x ∧ x ≤ 20) ∧ p < w.heap.size
theorem MvDraw.step {w wr w3 : World} {p : Nat} {v : Value} {l : List Int} (h : MvDraw w p v l wr) (hg : wr.grownBy w3 (some p)) (hc : Cursor w3 p) : MvDraw w p v l w3 := by
  obtain ⟨h1, h2, h3, h4, h5, h6⟩ := h
  exact ⟨hc, grown_trans h2 hg, own_kept h3 hg (fun b hv e => by have := (own_ge h3 hv).1; have := Option.some.inj e; omega), h4, h5, h6⟩
theorem MvDraw.put {w wr : World} {p g c : Nat} {l : List Int} (h : MvDraw w p (.slice (some ⟨g, 0, none⟩) 64 c) l wr) (k : Nat) (hk : k < 64) (u : Int) (h0 : 0 ≤ u) (h1 : u ≤ 20) :
    (∃ x, wr.cell? ⟨g, k, none⟩ = some (.int .i64 x)) ∧ wr.frozen? ⟨g, k, none⟩ = false ∧ MvDraw w p (.slice (some ⟨g, 0, none⟩) 64 c) (l.set k u) (wr.setCell ⟨g, k, none⟩ (.int .i64 u)) := by
  obtain ⟨hc, hgr, hown, hl, hall, hp⟩ := h
  have hge := own_ge hown (own_blk g 64 c)
  have hown' := hown
  unfold OwnInt OwnOf at hown'
  rw [hl] at hown'
  have hcell := World.ownsRow.cellAt hown' k (by omega)
  rw [flat_int] at hcell
  refine ⟨⟨l[k]'(by omega), ?_⟩, World.ownsRow.frozenAt hown' k, hc.set (by omega) _ _, grown_setNew hgr hge.1 _, ?_, by simp [hl], fun x hx => ?_, hp⟩
  · rw [hcell]; simp [show k < l.length by omega]
  · have hs := (World.ownsRow.stored hown' k (.int .i64 u)).1
    rw [flat_int] at hs
    unfold OwnInt OwnOf
    rw [flat_int, List.length_set, hl, List.map_set]
    exact hs
  · rcases List.mem_or_eq_of_mem_set hx with h | h
    · exact hall x h
    · rw [h]; exact ⟨h0, h1⟩
def DrawsMoves (p : Nat) (w : World) (e : Ending) (w' : World) : Prop := ∃ (g c : Nat) (l : List Int), e = .returned (.slice (some ⟨g, 0, none⟩) 64 c) ∧ MvDraw w p (.slice (some ⟨g, 0, none⟩) 64 c) l w'
theorem specStaying (w : World) : Calls Try.prog 131 #[] w fun e w' => e = .returned (.slice (some ⟨w.heap.size, 0, none⟩) 64 64) ∧ OwnInt w' w.heap.size (.slice (some ⟨w.heap.size, 0, none⟩) 64 64) (List.replicate 64 0) ∧ Below w.heap.size w w' := by
  have hmk : ∀ W : World, (Instr.makeSlice 36 (.int .i64 64) (.int .i64 64)).run Try.prog W = .ok (.slice (some ⟨W.heap.size, 0, none⟩) 64 64) (W.alloc (.cells (madeCells #[.int .i64 0] (64 * 1)) 3)) := make_ints 64 (by omega)
  go_enter Try.func131, Try.ntmps131
  go_wp2
  go_ret
  refine ⟨rfl, ?_, (Below.refl _ _).alloc (Nat.le_refl _) _⟩
  have h := World.ownsRow_lit (base := w.heap.size) (e := 3) (size := 1) w (madeCells #[.int .i64 0] (64 * 1)) 64 (Nat.le_refl _) (by unfold maxLen; omega) (by rw [size_madeCells])
  have e : (madeCells #[Value.int .i64 0] (64 * 1)).toList = (List.replicate 64 (0 : Int)).flatMap intCells := (made_flat #[Value.int .i64 0] 64).trans (by rw [List.flatMap_def, List.map_replicate]; rfl)
  unfold OwnInt OwnOf
  rw [← e, List.length_replicate]
  exact h
set_option maxHeartbeats 2000000 in
theorem l13Moves_any (p : Nat) (w : World) (hcur : Cursor w p) : Calls Try.prog 116 #[.pointer (some ⟨p, 0, none⟩)] w (DrawsMoves p w) := by
  have hp := hcur.lt
  have HC := Lib.hid hcur
  clear hcur
  go_enter Try.func116, Try.ntmps116
  go_wp2_with fail
  refine (specStaying _).mono ?_
  rintro e w1 ⟨rfl, ho, hb⟩
  have ST := Lib.hid (show MvDraw w p (.slice (some ⟨w.heap.size, 0, none⟩) 64 64) (List.replicate 64 0) w1 from ⟨HC.out.below hb, grown_of_below hb _, ho, by simp, fun x hx => by have := List.eq_of_mem_replicate hx; omega, hp⟩)
  clear ho hb HC
  go_wp2
  go_loopw [8] (fun i wr => ∃ (k : Nat) (l : List Int), k ≤ 64 ∧ i = .int .i64 k ∧ Hid (MvDraw w p (.slice (some ⟨w.heap.size, 0, none⟩) 64 64) l wr)) (fun i _ => 64 - (intOf i).toNat)
  case atStart => exact ⟨0, _, by omega, rfl, ST⟩
  case round =>
    obtain ⟨k, l, hk, rfl, hD⟩ := hrel
    by_cases hlt : k < 64
    · have hki : (k : Int) < 64 := by omega
      have hnext : IntKind.i64.wrap ((k : Int) + 1) = ((k + 1 : Nat) : Int) := by rw [IntKind.wrap_i64]; omega
      by_cases h9 : (k : Int) % 9 = 0
      · have hb9 : ((k : Int) % 9 != 0) = false := by simp [h9]
        go_wp2
        go_roundw
        case rel => exact ⟨k + 1, l, by omega, by rfl, hD⟩
        case measure => simp [intOf]; omega
      · have hb9 : ((k : Int) % 9 != 0) = true := by simp [h9]
        go_wp2_with fail
        refine (l01Below_any p 5 _ (by omega) (by omega) hD.out.1).mono ?_
        rintro e w3 ⟨x, rfl, x0, x1, hc, hg⟩
        have SD := Lib.hid (hD.out.step hg hc)
        obtain ⟨⟨y, c0⟩, f0, hn⟩ := SD.out.put k hlt (5 * x) (by omega) (by omega)
        have SN := Lib.hid hn
        have hw5 : IntKind.i64.wrap (5 * x) = 5 * x := by rw [IntKind.wrap_i64]; omega
        clear hc hg hn hD
        go_wp2
        go_roundw
        case rel => exact ⟨k + 1, _, by omega, by rfl, SN⟩
        case measure => simp [intOf]; omega
    · go_wp2
      go_ret
      exact ⟨_, _, l, rfl, hD.out⟩
/-- What a drawn crew leaves. -/
def DrawsCrew (p : Nat) (w : World) (e : Ending) (w' : World) : Prop := ∃ (tu pi re : Int) (g c : Nat) (l : List Int), e = .returned (.agg #[.int .i64 tu, .int .i64 pi, .int .i64 re, .slice (some ⟨g, 0, none⟩) 64 c]) ∧ (1 ≤ tu ∧ tu ≤ 4) ∧ (1 ≤ pi ∧ pi ≤ 3) ∧ (0 ≤ re ∧ re < 60) ∧ OwnInt w' w.heap.size (.slice (some ⟨g, 0, none⟩) 64 c) l ∧ l.length = 64 ∧ (∀ x ∈ l, 0 ≤ x ∧ x ≤ 20) ∧ Cursor w' p ∧ w.grownBy w' (some p)
set_option maxHeartbeats 2000000 in
theorem l14Crew_any (p : Nat) (w : World) (hcur : Cursor w p) : Calls Try.prog 87 #[.pointer (some ⟨p, 0, none⟩)] w (DrawsCrew p w) := by
  have hb0 := Joins.below_alloc1 w (.cells #[.int .i64 0, .int .i64 0, .int .i64 0, .slice none 0 0] 38)
  have hp := hcur.lt
  have G0 := Lib.hid (grown_alloc w (.cells #[.int .i64 0, .int .i64 0, .int .i64 0, .slice none 0 0] 38) (some p))
  have K0 := Lib.hid (Blk.new w #[.int .i64 0, .int .i64 0, .int .i64 0, .slice none 0 0] 38)
  have HC0 := Lib.hid (hcur.below hb0)
  have HNP := Lib.hid (show some w.heap.size ≠ some p by simp; omega)
  clear hcur hb0
  go_enter Try.func87, Try.ntmps87
  go_wp2_with fail
  refine (l01Below_any p 4 _ (by omega) (by omega) HC0.out).mono ?_
  rintro e w1 ⟨x, rfl, x0, x1, hc, hg⟩
  have HC1 := Lib.hid hc
  have G1 := Lib.hid (grown_trans G0.out hg)
  have K1 := Lib.hid (K0.out.grown hg HNP.out)
  clear hc hg HC0 G0 K0
  go_wp2_with fail
  refine (l01Below_any p 3 _ (by omega) (by omega) HC1.out).mono ?_
  rintro e w2 ⟨y, rfl, y0, y1, hc, hg⟩
  have HC2 := Lib.hid hc
  have G2 := Lib.hid (grown_trans G1.out hg)
  have K2 := Lib.hid (K1.out.grown hg HNP.out)
  clear hc hg HC1 G1 K1
  go_wp2_with fail
  refine (l01Below_any p 60 _ (by omega) (by omega) HC2.out).mono ?_
  rintro e w3 ⟨z, rfl, z0, z1, hc, hg⟩
  have HC3 := Lib.hid hc
  have G3 := Lib.hid (grown_trans G2.out hg)
  have K3 := Lib.hid (K2.out.grown hg HNP.out)
  clear hc hg HC2 G2 K2
  go_wp2_with fail
  refine (l13Moves_any p _ HC3.out).mono ?_
  rintro e w4 ⟨g, c, l, rfl, hM⟩
  have HM := Lib.hid hM
  have G4 := Lib.hid (grown_trans G3.out hM.2.1)
  have K4 := K3.out.grown hM.2.1 HNP.out
  have hlt : w.heap.size < w3.heap.size := K3.out.lt
  have k0 := K4.cell 0
  have f0 : w4.frozen? ⟨w.heap.size, 0, none⟩ = false := K4.free 0
  have k1 := K4.cell 1
  have f1 : w4.frozen? ⟨w.heap.size, 1, none⟩ = false := K4.free 1
  have k2 := K4.cell 2
  have f2 : w4.frozen? ⟨w.heap.size, 2, none⟩ = false := K4.free 2
  have k3 := K4.cell 3
  have f3 : w4.frozen? ⟨w.heap.size, 3, none⟩ = false := K4.free 3
  simp at k0 k1 k2 k3
  clear hM HC3 G3 K3 K4
  have hge := own_ge HM.out.2.2.1 (own_blk g 64 c)
  have e0 : (Value.slice (some ⟨g, 0, none⟩) 64 c).ownBlock ≠ some w.heap.size := own_blk_ne (by omega)
  go_wp2
  refine bodyPost_ret (v := .agg #[.int .i64 (1 + x), .int .i64 (1 + y), .int .i64 z, .slice (some ⟨g, 0, none⟩) 64 c]) (by simp [results, Try.results87, go_sem, *]) rfl ⟨_, _, _, g, c, l, rfl, ⟨by omega, by omega⟩, ⟨by omega, by omega⟩, ⟨z0, z1⟩, ?_, HM.out.2.2.2.1, HM.out.2.2.2.2.1, ?_, ?_⟩
  · exact own_lo (own_setO (own_setO (own_setO (own_setO HM.out.2.2.1 e0 _ _) e0 _ _) e0 _ _) e0 _ _) (by omega)
  · exact (((HM.out.1.set hp _ _).set hp _ _).set hp _ _).set hp _ _
  · exact grown_setNew (grown_setNew (grown_setNew (grown_setNew G4.out (Nat.le_refl _) _) (Nat.le_refl _) _) (Nat.le_refl _) _) (Nat.le_refl _) _
structure CallD where
  ship : Int
  fr : Int
  tt : Int
  ready : Int
  due : Int
@[reducible] def CallD.cells (d : CallD) : List Value := [.int .i64 d.ship, .int .i64 d.fr, .int .i64 d.tt, .int .i64 d.ready, .int .i64 d.due]
@[reducible] def CallD.val (d : CallD) : Value := .agg #[.int .i64 d.ship, .int .i64 d.fr, .int .i64 d.tt, .int .i64 d.ready, .int .i64 d.due]
def callGood (i : Int) (d : CallD) : Prop := d.ship = i ∧ ((d.fr = 0 ∧ d.tt = 3) ∨ (d.fr = 3 ∧ d.tt = 0)) ∧ 0 ≤ d.ready ∧ d.ready ≤ 435 ∧ d.ready + 60 ≤ d.due ∧ d.due < d.ready + 460
/-- What a drawn call leaves. -/
def DrawsCall (p : Nat) (i : Int) (w : World) (e : Ending) (w' : World) : Prop := ∃ d : CallD, e = .returned d.val ∧ callGood i d ∧ Cursor w' p ∧ w.grownBy w' (some p)
set_option maxHeartbeats 4000000 in
theorem l15Call_any (p : Nat) (i : Int) (w : World) (hcur : Cursor w p) : Calls Try.prog 42 #[.pointer (some ⟨p, 0, none⟩), .int .i64 i] w (DrawsCall p i w) := by
  have hb0 := Joins.below_alloc1 w (.cells #[.int .i64 0, .int .i64 0, .int .i64 0, .int .i64 0, .int .i64 0] 42)
  have hp := hcur.lt
  have G0 := Lib.hid (grown_alloc w (.cells #[.int .i64 0, .int .i64 0, .int .i64 0, .int .i64 0, .int .i64 0] 42) (some p))
  have K0 := Lib.hid (Blk.new w #[.int .i64 0, .int .i64 0, .int .i64 0, .int .i64 0, .int .i64 0] 42)
  have HC0 := Lib.hid (hcur.below hb0)
  have HNP := Lib.hid (show some w.heap.size ≠ some p by simp; omega)
  clear hcur hb0
  go_enter Try.func42, Try.ntmps42
  go_wp2_with fail
  refine (l01Below_any p 30 _ (by omega) (by omega) HC0.out).mono ?_
  rintro e w1 ⟨x, rfl, x0, x1, hc, hg⟩
  have hw15 : IntKind.i64.wrap (15 * x) = 15 * x := by rw [IntKind.wrap_i64]; omega
  have hal := Joins.below_alloc1 w1 (.cells #[.int .i64 i, .int .i64 0, .int .i64 3, .int .i64 (15 * x), .int .i64 0] 42)
  have HC1 := Lib.hid (hc.below hal)
  have G1 := Lib.hid (grown_trans (grown_trans G0.out hg) (grown_of_below hal (some p)))
  have K1 := Lib.hid ((K0.out.grown hg HNP.out).below hal)
  have J1 := Lib.hid (Blk.new w1 #[.int .i64 i, .int .i64 0, .int .i64 3, .int .i64 (15 * x), .int .i64 0] 42)
  have hlt1 : w.heap.size < w1.heap.size := (K0.out.grown hg HNP.out).lt
  have HNJ := Lib.hid (show some w1.heap.size ≠ some p by simp; omega)
  clear hc hg HC0 G0 K0 hal
  go_wp2_with fail
  refine (l01Once_any p 3 _ (by omega) (by omega) HC1.out).mono ?_
  rintro e w2 ⟨b, rfl, hc, hg⟩
  have HC2 := Lib.hid hc
  have G2 := Lib.hid (grown_trans G1.out hg)
  have K2 := Lib.hid (K1.out.grown hg HNP.out)
  have J2 := Lib.hid (J1.out.grown hg HNJ.out)
  clear hc hg HC1 G1 K1 J1
  have hpj : p < w1.heap.size := by omega
  have hnn : w.heap.size ≠ w1.heap.size := by omega
  have hnn' : w1.heap.size ≠ w.heap.size := by omega
  cases b
  · obtain ⟨W, rfl⟩ : ∃ W, W = w2 := ⟨_, rfl⟩
    have CW := HC2
    have GW := G2
    have KW := K2
    have JW := J2
    have v0 : W.cell? ⟨w1.heap.size, 0, none⟩ = some (.int .i64 i) := JW.out.cell 0
    have v1 : W.cell? ⟨w1.heap.size, 1, none⟩ = some (.int .i64 0) := JW.out.cell 1
    have v2 : W.cell? ⟨w1.heap.size, 2, none⟩ = some (.int .i64 3) := JW.out.cell 2
    have v3 : W.cell? ⟨w1.heap.size, 3, none⟩ = some (.int .i64 (15 * x)) := JW.out.cell 3
    have v4 : W.cell? ⟨w1.heap.size, 4, none⟩ = some (.int .i64 0) := JW.out.cell 4
    have vd : W.drew.cell? ⟨w1.heap.size, 3, none⟩ = some (.int .i64 (15 * x)) := v3
    have hw60 : IntKind.i64.wrap (15 * x + 60) = 15 * x + 60 := by rw [IntKind.wrap_i64]; omega
    go_upto_region 5 with fail
    refine wp_region_held_drew (S := fun _ => True) (by kernel_rfl) trivial (fun hHeld => ?_)
    refine wpAnyH_take (i := 0) (v := ?_) (by simp only [List.getElem?_toArray, List.getElem?_cons_zero]; rfl) (by kernel_rfl) (by kernel_rfl) (by kernel_rfl) (by exact fun _ _ _ h => h) (Or.inl ⟨by rfl, ?_⟩) (by assumption) ?_; rotate_left; focus (intro w hSw; (try dsimp only at hSw); first | (go_simp; done) | (go_simp; with_reducible rfl))
    (try simp only [Act.put]); (try simp only [List.setIfInBounds_toArray]); (try simp only [List.set_cons_succ]); (try simp only [List.set_cons_zero])
    refine wpAnyH_take (i := 3) (v := ?_) (by simp only [List.getElem?_toArray, List.getElem?_cons_succ, List.getElem?_cons_zero]; rfl) (by kernel_rfl) (by kernel_rfl) (by kernel_rfl) (by exact fun _ _ _ h => h) (Or.inl ⟨by rfl, ?_⟩) (by assumption) ?_; rotate_left; focus (intro w hSw; (try dsimp only at hSw); first | (go_simp; done) | (go_simp; with_reducible rfl))
    (try simp only [Act.put]); (try simp only [List.setIfInBounds_toArray]); (try simp only [List.set_cons_succ]); (try simp only [List.set_cons_zero])
    refine wpAnyH_ready (rs := [1, 4]) (by kernel_rfl) (by simp) ?_
    refine AllReadyH.cons rfl (fun K hK => ?_) (AllReadyH.cons rfl (fun K hK => ?_) (AllReadyH.nil))
    · rw [if_pos (by rfl)]
      go_simp
      refine hK.out _ _ trivial (fun hHeld => ?_)
      clear hK K
      (try simp only [Act.put]); (try simp only [List.setIfInBounds_toArray]); (try simp only [List.set_cons_succ]); (try simp only [List.set_cons_zero])
      refine wpAnyH_take (i := 2) (v := ?_) (by simp only [List.getElem?_toArray, List.getElem?_cons_succ, List.getElem?_cons_zero]; rfl) (by kernel_rfl) (by kernel_rfl) (by kernel_rfl) (by exact fun _ _ _ h => h) (Or.inl ⟨by rfl, ?_⟩) (by assumption) ?_; rotate_left; focus (intro w hSw; (try dsimp only at hSw); first | (go_simp; done) | (go_simp; with_reducible rfl))
      (try simp only [Act.put]); (try simp only [List.setIfInBounds_toArray]); (try simp only [List.set_cons_succ]); (try simp only [List.set_cons_zero])
      refine wpAnyH_ready (rs := [4]) (by kernel_rfl) (by simp) ?_
      refine AllReadyH.cons rfl (fun K hK => ?_) (AllReadyH.nil)
      rw [if_pos (by rfl)]
      go_simp
      go_at_call 43
      refine (l01Below_any p 400 W.drew (by omega) (by omega) CW.out.drew).mono ?_
      rintro e wa ⟨y, rfl, y0, y1, hc, hg⟩
      have CA := Lib.hid hc
      have GA := Lib.hid (grown_trans (b := W.drew) ⟨GW.out.os, GW.out.tape, GW.out.output, GW.out.size, GW.out.block⟩ hg)
      have KA := Lib.hid (KW.out.drew.grown hg HNP.out)
      have JA := Lib.hid (JW.out.drew.grown hg HNJ.out)
      have va : wa.cell? ⟨w1.heap.size, 3, none⟩ = some (.int .i64 (15 * x)) := JA.out.cell 3
      have vb : wa.cell? ⟨w1.heap.size, 4, none⟩ = some (.int .i64 0) := JA.out.cell 4
      have fb : wa.frozen? ⟨w1.heap.size, 4, none⟩ = false := JA.out.free 4
      have hwy : IntKind.i64.wrap (15 * x + 60 + y) = 15 * x + 60 + y := by rw [IntKind.wrap_i64]; omega
      clear hc hg
      go_simp
      refine hK.out _ _ trivial (fun hHeld => ?_)
      clear hK K
      (try simp only [Act.put]); (try simp only [List.setIfInBounds_toArray]); (try simp only [List.set_cons_succ]); (try simp only [List.set_cons_zero])
      refine wpAnyH_take (i := 5) (v := ?_) (by simp only [List.getElem?_toArray, List.getElem?_cons_succ, List.getElem?_cons_zero]; rfl) (by kernel_rfl) (by kernel_rfl) (by kernel_rfl) (by exact fun _ _ _ h => h) (Or.inl ⟨by rfl, ?_⟩) (by assumption) ?_; rotate_left; focus (intro w hSw; (try dsimp only at hSw); first | (go_simp; done) | (go_simp; with_reducible rfl))
      (try simp only [Act.put]); (try simp only [List.setIfInBounds_toArray]); (try simp only [List.set_cons_succ]); (try simp only [List.set_cons_zero])
      refine wpAnyH_take (i := 6) (v := ?_) (by simp only [List.getElem?_toArray, List.getElem?_cons_succ, List.getElem?_cons_zero]; rfl) (by kernel_rfl) (by kernel_rfl) (by kernel_rfl) (by exact fun _ _ _ h => h) (Or.inl ⟨by rfl, ?_⟩) (by assumption) ?_; rotate_left; focus (intro w hSw; (try dsimp only at hSw); first | (go_simp; done) | (go_simp; with_reducible rfl))
      (try simp only [Act.put]); (try simp only [List.setIfInBounds_toArray]); (try simp only [List.set_cons_succ]); (try simp only [List.set_cons_zero])
      refine wpAnyH_ready (rs := [7]) (by kernel_rfl) (by simp) ?_
      refine AllReadyH.cons rfl (fun K hK => ?_) (AllReadyH.nil)
      rw [if_pos (by rfl)]
      go_simp
      refine hK.out _ _ trivial (fun hHeld => ?_)
      clear hK K
      (try simp only [Act.put]); (try simp only [List.setIfInBounds_toArray]); (try simp only [List.set_cons_succ]); (try simp only [List.set_cons_zero])
      refine wpAnyH_done (by kernel_rfl) ?_ _
      have JF := JA.out.set 4 (.int .i64 (15 * x + 60 + y))
      have KF := KA.out.other hnn 4 (.int .i64 (15 * x + 60 + y))
      have q0 : (wa.setCell ⟨w1.heap.size, 4, none⟩ (.int .i64 (15 * x + 60 + y))).cell? ⟨w1.heap.size, 0, none⟩ = some (.int .i64 i) := JF.cell 0
      have q1 : (wa.setCell ⟨w1.heap.size, 4, none⟩ (.int .i64 (15 * x + 60 + y))).cell? ⟨w1.heap.size, 1, none⟩ = some (.int .i64 0) := JF.cell 1
      have q2 : (wa.setCell ⟨w1.heap.size, 4, none⟩ (.int .i64 (15 * x + 60 + y))).cell? ⟨w1.heap.size, 2, none⟩ = some (.int .i64 3) := JF.cell 2
      have q3 : (wa.setCell ⟨w1.heap.size, 4, none⟩ (.int .i64 (15 * x + 60 + y))).cell? ⟨w1.heap.size, 3, none⟩ = some (.int .i64 (15 * x)) := JF.cell 3
      have q4 : (wa.setCell ⟨w1.heap.size, 4, none⟩ (.int .i64 (15 * x + 60 + y))).cell? ⟨w1.heap.size, 4, none⟩ = some (.int .i64 (15 * x + 60 + y)) := JF.cell 4
      have r0 : (wa.setCell ⟨w1.heap.size, 4, none⟩ (.int .i64 (15 * x + 60 + y))).cell? ⟨w.heap.size, 0, none⟩ = some (.int .i64 0) := KF.cell 0
      have s0 : (wa.setCell ⟨w1.heap.size, 4, none⟩ (.int .i64 (15 * x + 60 + y))).frozen? ⟨w.heap.size, 0, none⟩ = false := KF.free 0
      have r1 : (wa.setCell ⟨w1.heap.size, 4, none⟩ (.int .i64 (15 * x + 60 + y))).cell? ⟨w.heap.size, 1, none⟩ = some (.int .i64 0) := KF.cell 1
      have s1 : (wa.setCell ⟨w1.heap.size, 4, none⟩ (.int .i64 (15 * x + 60 + y))).frozen? ⟨w.heap.size, 1, none⟩ = false := KF.free 1
      have r2 : (wa.setCell ⟨w1.heap.size, 4, none⟩ (.int .i64 (15 * x + 60 + y))).cell? ⟨w.heap.size, 2, none⟩ = some (.int .i64 0) := KF.cell 2
      have s2 : (wa.setCell ⟨w1.heap.size, 4, none⟩ (.int .i64 (15 * x + 60 + y))).frozen? ⟨w.heap.size, 2, none⟩ = false := KF.free 2
      have r3 : (wa.setCell ⟨w1.heap.size, 4, none⟩ (.int .i64 (15 * x + 60 + y))).cell? ⟨w.heap.size, 3, none⟩ = some (.int .i64 0) := KF.cell 3
      have s3 : (wa.setCell ⟨w1.heap.size, 4, none⟩ (.int .i64 (15 * x + 60 + y))).frozen? ⟨w.heap.size, 3, none⟩ = false := KF.free 3
      have r4 : (wa.setCell ⟨w1.heap.size, 4, none⟩ (.int .i64 (15 * x + 60 + y))).cell? ⟨w.heap.size, 4, none⟩ = some (.int .i64 0) := KF.cell 4
      have s4 : (wa.setCell ⟨w1.heap.size, 4, none⟩ (.int .i64 (15 * x + 60 + y))).frozen? ⟨w.heap.size, 4, none⟩ = false := KF.free 4
      have CF := Lib.hid (CA.out.set hpj 4 (.int .i64 (15 * x + 60 + y)))
      have GF := Lib.hid (grown_setNew GA.out (show w.heap.size ≤ w1.heap.size by omega) (j := 4) (.int .i64 (15 * x + 60 + y)))
      obtain ⟨WF, hWF⟩ : ∃ WF, WF = wa.setCell ⟨w1.heap.size, 4, none⟩ (.int .i64 (15 * x + 60 + y)) := ⟨_, rfl⟩
      rw [← hWF] at q0 r0 s0 q1 r1 s1 q2 r2 s2 q3 r3 s3 q4 r4 s4 CF GF ⊢
      clear hWF JF KF va vb fb
      go_wp2
      refine bodyPost_ret (v := .agg #[.int .i64 i, .int .i64 0, .int .i64 3, .int .i64 (15 * x), .int .i64 (15 * x + 60 + y)]) (by simp [results, Try.results42, go_sem, *]) rfl ⟨⟨_, _, _, _, _⟩, rfl, ⟨rfl, .inl ⟨rfl, rfl⟩, by show 0 ≤ 15 * x; omega, by show 15 * x ≤ 435; omega, by show 15 * x + 60 ≤ 15 * x + 60 + y; omega, by show 15 * x + 60 + y < 15 * x + 460; omega⟩, ?_, ?_⟩
      · exact ((((CF.out.set hp _ _).set hp _ _).set hp _ _).set hp _ _).set hp _ _
      · exact grown_setNew (grown_setNew (grown_setNew (grown_setNew (grown_setNew GF.out (Nat.le_refl _) _) (Nat.le_refl _) _) (Nat.le_refl _) _) (Nat.le_refl _) _) (Nat.le_refl _) _
    · rw [if_pos (by rfl)]
      go_simp
      go_at_call 43
      refine (l01Below_any p 400 W.drew (by omega) (by omega) CW.out.drew).mono ?_
      rintro e wa ⟨y, rfl, y0, y1, hc, hg⟩
      have CA := Lib.hid hc
      have GA := Lib.hid (grown_trans (b := W.drew) ⟨GW.out.os, GW.out.tape, GW.out.output, GW.out.size, GW.out.block⟩ hg)
      have KA := Lib.hid (KW.out.drew.grown hg HNP.out)
      have JA := Lib.hid (JW.out.drew.grown hg HNJ.out)
      have va : wa.cell? ⟨w1.heap.size, 3, none⟩ = some (.int .i64 (15 * x)) := JA.out.cell 3
      have vb : wa.cell? ⟨w1.heap.size, 4, none⟩ = some (.int .i64 0) := JA.out.cell 4
      have fb : wa.frozen? ⟨w1.heap.size, 4, none⟩ = false := JA.out.free 4
      have hwy : IntKind.i64.wrap (15 * x + 60 + y) = 15 * x + 60 + y := by rw [IntKind.wrap_i64]; omega
      clear hc hg
      go_simp
      refine hK.out _ _ trivial (fun hHeld => ?_)
      clear hK K
      (try simp only [Act.put]); (try simp only [List.setIfInBounds_toArray]); (try simp only [List.set_cons_succ]); (try simp only [List.set_cons_zero])
      refine wpAnyH_ready (rs := [1]) (by kernel_rfl) (by simp) ?_
      refine AllReadyH.cons rfl (fun K hK => ?_) (AllReadyH.nil)
      rw [if_pos (by rfl)]
      go_simp
      refine hK.out _ _ trivial (fun hHeld => ?_)
      clear hK K
      (try simp only [Act.put]); (try simp only [List.setIfInBounds_toArray]); (try simp only [List.set_cons_succ]); (try simp only [List.set_cons_zero])
      refine wpAnyH_take (i := 2) (v := ?_) (by simp only [List.getElem?_toArray, List.getElem?_cons_succ, List.getElem?_cons_zero]; rfl) (by kernel_rfl) (by kernel_rfl) (by kernel_rfl) (by exact fun _ _ _ h => h) (Or.inl ⟨by rfl, ?_⟩) (by assumption) ?_; rotate_left; focus (intro w hSw; (try dsimp only at hSw); first | (go_simp; done) | (go_simp; with_reducible rfl))
      (try simp only [Act.put]); (try simp only [List.setIfInBounds_toArray]); (try simp only [List.set_cons_succ]); (try simp only [List.set_cons_zero])
      refine wpAnyH_take (i := 5) (v := ?_) (by simp only [List.getElem?_toArray, List.getElem?_cons_succ, List.getElem?_cons_zero]; rfl) (by kernel_rfl) (by kernel_rfl) (by kernel_rfl) (by exact fun _ _ _ h => h) (Or.inl ⟨by rfl, ?_⟩) (by assumption) ?_; rotate_left; focus (intro w hSw; (try dsimp only at hSw); first | (go_simp; done) | (go_simp; with_reducible rfl))
      (try simp only [Act.put]); (try simp only [List.setIfInBounds_toArray]); (try simp only [List.set_cons_succ]); (try simp only [List.set_cons_zero])
      refine wpAnyH_take (i := 6) (v := ?_) (by simp only [List.getElem?_toArray, List.getElem?_cons_succ, List.getElem?_cons_zero]; rfl) (by kernel_rfl) (by kernel_rfl) (by kernel_rfl) (by exact fun _ _ _ h => h) (Or.inl ⟨by rfl, ?_⟩) (by assumption) ?_; rotate_left; focus (intro w hSw; (try dsimp only at hSw); first | (go_simp; done) | (go_simp; with_reducible rfl))
      (try simp only [Act.put]); (try simp only [List.setIfInBounds_toArray]); (try simp only [List.set_cons_succ]); (try simp only [List.set_cons_zero])
      refine wpAnyH_ready (rs := [7]) (by kernel_rfl) (by simp) ?_
      refine AllReadyH.cons rfl (fun K hK => ?_) (AllReadyH.nil)
      rw [if_pos (by rfl)]
      go_simp
      refine hK.out _ _ trivial (fun hHeld => ?_)
      clear hK K
      (try simp only [Act.put]); (try simp only [List.setIfInBounds_toArray]); (try simp only [List.set_cons_succ]); (try simp only [List.set_cons_zero])
      refine wpAnyH_done (by kernel_rfl) ?_ _
      have JF := JA.out.set 4 (.int .i64 (15 * x + 60 + y))
      have KF := KA.out.other hnn 4 (.int .i64 (15 * x + 60 + y))
      have q0 : (wa.setCell ⟨w1.heap.size, 4, none⟩ (.int .i64 (15 * x + 60 + y))).cell? ⟨w1.heap.size, 0, none⟩ = some (.int .i64 i) := JF.cell 0
      have q1 : (wa.setCell ⟨w1.heap.size, 4, none⟩ (.int .i64 (15 * x + 60 + y))).cell? ⟨w1.heap.size, 1, none⟩ = some (.int .i64 0) := JF.cell 1
      have q2 : (wa.setCell ⟨w1.heap.size, 4, none⟩ (.int .i64 (15 * x + 60 + y))).cell? ⟨w1.heap.size, 2, none⟩ = some (.int .i64 3) := JF.cell 2
      have q3 : (wa.setCell ⟨w1.heap.size, 4, none⟩ (.int .i64 (15 * x + 60 + y))).cell? ⟨w1.heap.size, 3, none⟩ = some (.int .i64 (15 * x)) := JF.cell 3
      have q4 : (wa.setCell ⟨w1.heap.size, 4, none⟩ (.int .i64 (15 * x + 60 + y))).cell? ⟨w1.heap.size, 4, none⟩ = some (.int .i64 (15 * x + 60 + y)) := JF.cell 4
      have r0 : (wa.setCell ⟨w1.heap.size, 4, none⟩ (.int .i64 (15 * x + 60 + y))).cell? ⟨w.heap.size, 0, none⟩ = some (.int .i64 0) := KF.cell 0
      have s0 : (wa.setCell ⟨w1.heap.size, 4, none⟩ (.int .i64 (15 * x + 60 + y))).frozen? ⟨w.heap.size, 0, none⟩ = false := KF.free 0
      have r1 : (wa.setCell ⟨w1.heap.size, 4, none⟩ (.int .i64 (15 * x + 60 + y))).cell? ⟨w.heap.size, 1, none⟩ = some (.int .i64 0) := KF.cell 1
      have s1 : (wa.setCell ⟨w1.heap.size, 4, none⟩ (.int .i64 (15 * x + 60 + y))).frozen? ⟨w.heap.size, 1, none⟩ = false := KF.free 1
      have r2 : (wa.setCell ⟨w1.heap.size, 4, none⟩ (.int .i64 (15 * x + 60 + y))).cell? ⟨w.heap.size, 2, none⟩ = some (.int .i64 0) := KF.cell 2
      have s2 : (wa.setCell ⟨w1.heap.size, 4, none⟩ (.int .i64 (15 * x + 60 + y))).frozen? ⟨w.heap.size, 2, none⟩ = false := KF.free 2
      have r3 : (wa.setCell ⟨w1.heap.size, 4, none⟩ (.int .i64 (15 * x + 60 + y))).cell? ⟨w.heap.size, 3, none⟩ = some (.int .i64 0) := KF.cell 3
      have s3 : (wa.setCell ⟨w1.heap.size, 4, none⟩ (.int .i64 (15 * x + 60 + y))).frozen? ⟨w.heap.size, 3, none⟩ = false := KF.free 3
      have r4 : (wa.setCell ⟨w1.heap.size, 4, none⟩ (.int .i64 (15 * x + 60 + y))).cell? ⟨w.heap.size, 4, none⟩ = some (.int .i64 0) := KF.cell 4
      have s4 : (wa.setCell ⟨w1.heap.size, 4, none⟩ (.int .i64 (15 * x + 60 + y))).frozen? ⟨w.heap.size, 4, none⟩ = false := KF.free 4
      have CF := Lib.hid (CA.out.set hpj 4 (.int .i64 (15 * x + 60 + y)))
      have GF := Lib.hid (grown_setNew GA.out (show w.heap.size ≤ w1.heap.size by omega) (j := 4) (.int .i64 (15 * x + 60 + y)))
      obtain ⟨WF, hWF⟩ : ∃ WF, WF = wa.setCell ⟨w1.heap.size, 4, none⟩ (.int .i64 (15 * x + 60 + y)) := ⟨_, rfl⟩
      rw [← hWF] at q0 r0 s0 q1 r1 s1 q2 r2 s2 q3 r3 s3 q4 r4 s4 CF GF ⊢
      clear hWF JF KF va vb fb
      go_wp2
      refine bodyPost_ret (v := .agg #[.int .i64 i, .int .i64 0, .int .i64 3, .int .i64 (15 * x), .int .i64 (15 * x + 60 + y)]) (by simp [results, Try.results42, go_sem, *]) rfl ⟨⟨_, _, _, _, _⟩, rfl, ⟨rfl, .inl ⟨rfl, rfl⟩, by show 0 ≤ 15 * x; omega, by show 15 * x ≤ 435; omega, by show 15 * x + 60 ≤ 15 * x + 60 + y; omega, by show 15 * x + 60 + y < 15 * x + 460; omega⟩, ?_, ?_⟩
      · exact ((((CF.out.set hp _ _).set hp _ _).set hp _ _).set hp _ _).set hp _ _
      · exact grown_setNew (grown_setNew (grown_setNew (grown_setNew (grown_setNew GF.out (Nat.le_refl _) _) (Nat.le_refl _) _) (Nat.le_refl _) _) (Nat.le_refl _) _) (Nat.le_refl _) _
  · have a1 : w2.cell? ⟨w1.heap.size, 1, none⟩ = some (.int .i64 0) := J2.out.cell 1
    have a2 : w2.cell? ⟨w1.heap.size, 2, none⟩ = some (.int .i64 3) := J2.out.cell 2
    have b1 : w2.frozen? ⟨w1.heap.size, 1, none⟩ = false := J2.out.free 1
    have b2 : w2.frozen? ⟨w1.heap.size, 2, none⟩ = false := J2.out.free 2
    obtain ⟨W, hW⟩ : ∃ W, W = (w2.setCell ⟨w1.heap.size, 1, none⟩ (.int .i64 3)).setCell ⟨w1.heap.size, 2, none⟩ (.int .i64 0) := ⟨_, rfl⟩
    have CW : Hid (Cursor W p) := by rw [hW]; exact Lib.hid ((HC2.out.set hpj _ _).set hpj _ _)
    have GW : Hid (w.grownBy W (some p)) := by rw [hW]; exact Lib.hid (grown_setNew (grown_setNew G2.out (by omega) _) (by omega) _)
    have KW : Hid (Blk W w.heap.size #[.int .i64 0, .int .i64 0, .int .i64 0, .int .i64 0, .int .i64 0] 42) := by rw [hW]; exact Lib.hid ((K2.out.other hnn _ _).other hnn _ _)
    have JW : Hid (Blk W w1.heap.size #[.int .i64 i, .int .i64 3, .int .i64 0, .int .i64 (15 * x), .int .i64 0] 42) := by rw [hW]; exact Lib.hid ((J2.out.set 1 _).set 2 _)
    have HW := Lib.hid hW
    clear hW
    --
    have v0 : W.cell? ⟨w1.heap.size, 0, none⟩ = some (.int .i64 i) := JW.out.cell 0
    have v1 : W.cell? ⟨w1.heap.size, 1, none⟩ = some (.int .i64 3) := JW.out.cell 1
    have v2 : W.cell? ⟨w1.heap.size, 2, none⟩ = some (.int .i64 0) := JW.out.cell 2
    have v3 : W.cell? ⟨w1.heap.size, 3, none⟩ = some (.int .i64 (15 * x)) := JW.out.cell 3
    have v4 : W.cell? ⟨w1.heap.size, 4, none⟩ = some (.int .i64 0) := JW.out.cell 4
    have vd : W.drew.cell? ⟨w1.heap.size, 3, none⟩ = some (.int .i64 (15 * x)) := v3
    have hw60 : IntKind.i64.wrap (15 * x + 60) = 15 * x + 60 := by rw [IntKind.wrap_i64]; omega
    go_upto_region 5 with fail
    rw [← HW.out]
    refine wp_region_held_drew (S := fun _ => True) (by kernel_rfl) trivial (fun hHeld => ?_)
    refine wpAnyH_take (i := 0) (v := ?_) (by simp only [List.getElem?_toArray, List.getElem?_cons_zero]; rfl) (by kernel_rfl) (by kernel_rfl) (by kernel_rfl) (by exact fun _ _ _ h => h) (Or.inl ⟨by rfl, ?_⟩) (by assumption) ?_; rotate_left; focus (intro w hSw; (try dsimp only at hSw); first | (go_simp; done) | (go_simp; with_reducible rfl))
    (try simp only [Act.put]); (try simp only [List.setIfInBounds_toArray]); (try simp only [List.set_cons_succ]); (try simp only [List.set_cons_zero])
    refine wpAnyH_take (i := 3) (v := ?_) (by simp only [List.getElem?_toArray, List.getElem?_cons_succ, List.getElem?_cons_zero]; rfl) (by kernel_rfl) (by kernel_rfl) (by kernel_rfl) (by exact fun _ _ _ h => h) (Or.inl ⟨by rfl, ?_⟩) (by assumption) ?_; rotate_left; focus (intro w hSw; (try dsimp only at hSw); first | (go_simp; done) | (go_simp; with_reducible rfl))
    (try simp only [Act.put]); (try simp only [List.setIfInBounds_toArray]); (try simp only [List.set_cons_succ]); (try simp only [List.set_cons_zero])
    refine wpAnyH_ready (rs := [1, 4]) (by kernel_rfl) (by simp) ?_
    refine AllReadyH.cons rfl (fun K hK => ?_) (AllReadyH.cons rfl (fun K hK => ?_) (AllReadyH.nil))
    · rw [if_pos (by rfl)]
      go_simp
      refine hK.out _ _ trivial (fun hHeld => ?_)
      clear hK K
      (try simp only [Act.put]); (try simp only [List.setIfInBounds_toArray]); (try simp only [List.set_cons_succ]); (try simp only [List.set_cons_zero])
      refine wpAnyH_take (i := 2) (v := ?_) (by simp only [List.getElem?_toArray, List.getElem?_cons_succ, List.getElem?_cons_zero]; rfl) (by kernel_rfl) (by kernel_rfl) (by kernel_rfl) (by exact fun _ _ _ h => h) (Or.inl ⟨by rfl, ?_⟩) (by assumption) ?_; rotate_left; focus (intro w hSw; (try dsimp only at hSw); first | (go_simp; done) | (go_simp; with_reducible rfl))
      (try simp only [Act.put]); (try simp only [List.setIfInBounds_toArray]); (try simp only [List.set_cons_succ]); (try simp only [List.set_cons_zero])
      refine wpAnyH_ready (rs := [4]) (by kernel_rfl) (by simp) ?_
      refine AllReadyH.cons rfl (fun K hK => ?_) (AllReadyH.nil)
      rw [if_pos (by rfl)]
      go_simp
      go_at_call 43
      refine (l01Below_any p 400 W.drew (by omega) (by omega) CW.out.drew).mono ?_
      rintro e wa ⟨y, rfl, y0, y1, hc, hg⟩
      have CA := Lib.hid hc
      have GA := Lib.hid (grown_trans (b := W.drew) ⟨GW.out.os, GW.out.tape, GW.out.output, GW.out.size, GW.out.block⟩ hg)
      have KA := Lib.hid (KW.out.drew.grown hg HNP.out)
      have JA := Lib.hid (JW.out.drew.grown hg HNJ.out)
      have va : wa.cell? ⟨w1.heap.size, 3, none⟩ = some (.int .i64 (15 * x)) := JA.out.cell 3
      have vb : wa.cell? ⟨w1.heap.size, 4, none⟩ = some (.int .i64 0) := JA.out.cell 4
      have fb : wa.frozen? ⟨w1.heap.size, 4, none⟩ = false := JA.out.free 4
      have hwy : IntKind.i64.wrap (15 * x + 60 + y) = 15 * x + 60 + y := by rw [IntKind.wrap_i64]; omega
      clear hc hg
      go_simp
      refine hK.out _ _ trivial (fun hHeld => ?_)
      clear hK K
      (try simp only [Act.put]); (try simp only [List.setIfInBounds_toArray]); (try simp only [List.set_cons_succ]); (try simp only [List.set_cons_zero])
      refine wpAnyH_take (i := 5) (v := ?_) (by simp only [List.getElem?_toArray, List.getElem?_cons_succ, List.getElem?_cons_zero]; rfl) (by kernel_rfl) (by kernel_rfl) (by kernel_rfl) (by exact fun _ _ _ h => h) (Or.inl ⟨by rfl, ?_⟩) (by assumption) ?_; rotate_left; focus (intro w hSw; (try dsimp only at hSw); first | (go_simp; done) | (go_simp; with_reducible rfl))
      (try simp only [Act.put]); (try simp only [List.setIfInBounds_toArray]); (try simp only [List.set_cons_succ]); (try simp only [List.set_cons_zero])
      refine wpAnyH_take (i := 6) (v := ?_) (by simp only [List.getElem?_toArray, List.getElem?_cons_succ, List.getElem?_cons_zero]; rfl) (by kernel_rfl) (by kernel_rfl) (by kernel_rfl) (by exact fun _ _ _ h => h) (Or.inl ⟨by rfl, ?_⟩) (by assumption) ?_; rotate_left; focus (intro w hSw; (try dsimp only at hSw); first | (go_simp; done) | (go_simp; with_reducible rfl))
      (try simp only [Act.put]); (try simp only [List.setIfInBounds_toArray]); (try simp only [List.set_cons_succ]); (try simp only [List.set_cons_zero])
      refine wpAnyH_ready (rs := [7]) (by kernel_rfl) (by simp) ?_
      refine AllReadyH.cons rfl (fun K hK => ?_) (AllReadyH.nil)
      rw [if_pos (by rfl)]
      go_simp
      refine hK.out _ _ trivial (fun hHeld => ?_)
      clear hK K
      (try simp only [Act.put]); (try simp only [List.setIfInBounds_toArray]); (try simp only [List.set_cons_succ]); (try simp only [List.set_cons_zero])
      refine wpAnyH_done (by kernel_rfl) ?_ _
      have JF := JA.out.set 4 (.int .i64 (15 * x + 60 + y))
      have KF := KA.out.other hnn 4 (.int .i64 (15 * x + 60 + y))
      have q0 : (wa.setCell ⟨w1.heap.size, 4, none⟩ (.int .i64 (15 * x + 60 + y))).cell? ⟨w1.heap.size, 0, none⟩ = some (.int .i64 i) := JF.cell 0
      have q1 : (wa.setCell ⟨w1.heap.size, 4, none⟩ (.int .i64 (15 * x + 60 + y))).cell? ⟨w1.heap.size, 1, none⟩ = some (.int .i64 3) := JF.cell 1
      have q2 : (wa.setCell ⟨w1.heap.size, 4, none⟩ (.int .i64 (15 * x + 60 + y))).cell? ⟨w1.heap.size, 2, none⟩ = some (.int .i64 0) := JF.cell 2
      have q3 : (wa.setCell ⟨w1.heap.size, 4, none⟩ (.int .i64 (15 * x + 60 + y))).cell? ⟨w1.heap.size, 3, none⟩ = some (.int .i64 (15 * x)) := JF.cell 3
      have q4 : (wa.setCell ⟨w1.heap.size, 4, none⟩ (.int .i64 (15 * x + 60 + y))).cell? ⟨w1.heap.size, 4, none⟩ = some (.int .i64 (15 * x + 60 + y)) := JF.cell 4
      have r0 : (wa.setCell ⟨w1.heap.size, 4, none⟩ (.int .i64 (15 * x + 60 + y))).cell? ⟨w.heap.size, 0, none⟩ = some (.int .i64 0) := KF.cell 0
      have s0 : (wa.setCell ⟨w1.heap.size, 4, none⟩ (.int .i64 (15 * x + 60 + y))).frozen? ⟨w.heap.size, 0, none⟩ = false := KF.free 0
      have r1 : (wa.setCell ⟨w1.heap.size, 4, none⟩ (.int .i64 (15 * x + 60 + y))).cell? ⟨w.heap.size, 1, none⟩ = some (.int .i64 0) := KF.cell 1
      have s1 : (wa.setCell ⟨w1.heap.size, 4, none⟩ (.int .i64 (15 * x + 60 + y))).frozen? ⟨w.heap.size, 1, none⟩ = false := KF.free 1
      have r2 : (wa.setCell ⟨w1.heap.size, 4, none⟩ (.int .i64 (15 * x + 60 + y))).cell? ⟨w.heap.size, 2, none⟩ = some (.int .i64 0) := KF.cell 2
      have s2 : (wa.setCell ⟨w1.heap.size, 4, none⟩ (.int .i64 (15 * x + 60 + y))).frozen? ⟨w.heap.size, 2, none⟩ = false := KF.free 2
      have r3 : (wa.setCell ⟨w1.heap.size, 4, none⟩ (.int .i64 (15 * x + 60 + y))).cell? ⟨w.heap.size, 3, none⟩ = some (.int .i64 0) := KF.cell 3
      have s3 : (wa.setCell ⟨w1.heap.size, 4, none⟩ (.int .i64 (15 * x + 60 + y))).frozen? ⟨w.heap.size, 3, none⟩ = false := KF.free 3
      have r4 : (wa.setCell ⟨w1.heap.size, 4, none⟩ (.int .i64 (15 * x + 60 + y))).cell? ⟨w.heap.size, 4, none⟩ = some (.int .i64 0) := KF.cell 4
      have s4 : (wa.setCell ⟨w1.heap.size, 4, none⟩ (.int .i64 (15 * x + 60 + y))).frozen? ⟨w.heap.size, 4, none⟩ = false := KF.free 4
      have CF := Lib.hid (CA.out.set hpj 4 (.int .i64 (15 * x + 60 + y)))
      have GF := Lib.hid (grown_setNew GA.out (show w.heap.size ≤ w1.heap.size by omega) (j := 4) (.int .i64 (15 * x + 60 + y)))
      obtain ⟨WF, hWF⟩ : ∃ WF, WF = wa.setCell ⟨w1.heap.size, 4, none⟩ (.int .i64 (15 * x + 60 + y)) := ⟨_, rfl⟩
      rw [← hWF] at q0 r0 s0 q1 r1 s1 q2 r2 s2 q3 r3 s3 q4 r4 s4 CF GF ⊢
      clear hWF JF KF va vb fb
      go_wp2
      refine bodyPost_ret (v := .agg #[.int .i64 i, .int .i64 3, .int .i64 0, .int .i64 (15 * x), .int .i64 (15 * x + 60 + y)]) (by simp [results, Try.results42, go_sem, *]) rfl ⟨⟨_, _, _, _, _⟩, rfl, ⟨rfl, .inr ⟨rfl, rfl⟩, by show 0 ≤ 15 * x; omega, by show 15 * x ≤ 435; omega, by show 15 * x + 60 ≤ 15 * x + 60 + y; omega, by show 15 * x + 60 + y < 15 * x + 460; omega⟩, ?_, ?_⟩
      · exact ((((CF.out.set hp _ _).set hp _ _).set hp _ _).set hp _ _).set hp _ _
      · exact grown_setNew (grown_setNew (grown_setNew (grown_setNew (grown_setNew GF.out (Nat.le_refl _) _) (Nat.le_refl _) _) (Nat.le_refl _) _) (Nat.le_refl _) _) (Nat.le_refl _) _
    · rw [if_pos (by rfl)]
      go_simp
      go_at_call 43
      refine (l01Below_any p 400 W.drew (by omega) (by omega) CW.out.drew).mono ?_
      rintro e wa ⟨y, rfl, y0, y1, hc, hg⟩
      have CA := Lib.hid hc
      have GA := Lib.hid (grown_trans (b := W.drew) ⟨GW.out.os, GW.out.tape, GW.out.output, GW.out.size, GW.out.block⟩ hg)
      have KA := Lib.hid (KW.out.drew.grown hg HNP.out)
      have JA := Lib.hid (JW.out.drew.grown hg HNJ.out)
      have va : wa.cell? ⟨w1.heap.size, 3, none⟩ = some (.int .i64 (15 * x)) := JA.out.cell 3
      have vb : wa.cell? ⟨w1.heap.size, 4, none⟩ = some (.int .i64 0) := JA.out.cell 4
      have fb : wa.frozen? ⟨w1.heap.size, 4, none⟩ = false := JA.out.free 4
      have hwy : IntKind.i64.wrap (15 * x + 60 + y) = 15 * x + 60 + y := by rw [IntKind.wrap_i64]; omega
      clear hc hg
      go_simp
      refine hK.out _ _ trivial (fun hHeld => ?_)
      clear hK K
      (try simp only [Act.put]); (try simp only [List.setIfInBounds_toArray]); (try simp only [List.set_cons_succ]); (try simp only [List.set_cons_zero])
      refine wpAnyH_ready (rs := [1]) (by kernel_rfl) (by simp) ?_
      refine AllReadyH.cons rfl (fun K hK => ?_) (AllReadyH.nil)
      rw [if_pos (by rfl)]
      go_simp
      refine hK.out _ _ trivial (fun hHeld => ?_)
      clear hK K
      (try simp only [Act.put]); (try simp only [List.setIfInBounds_toArray]); (try simp only [List.set_cons_succ]); (try simp only [List.set_cons_zero])
      refine wpAnyH_take (i := 2) (v := ?_) (by simp only [List.getElem?_toArray, List.getElem?_cons_succ, List.getElem?_cons_zero]; rfl) (by kernel_rfl) (by kernel_rfl) (by kernel_rfl) (by exact fun _ _ _ h => h) (Or.inl ⟨by rfl, ?_⟩) (by assumption) ?_; rotate_left; focus (intro w hSw; (try dsimp only at hSw); first | (go_simp; done) | (go_simp; with_reducible rfl))
      (try simp only [Act.put]); (try simp only [List.setIfInBounds_toArray]); (try simp only [List.set_cons_succ]); (try simp only [List.set_cons_zero])
      refine wpAnyH_take (i := 5) (v := ?_) (by simp only [List.getElem?_toArray, List.getElem?_cons_succ, List.getElem?_cons_zero]; rfl) (by kernel_rfl) (by kernel_rfl) (by kernel_rfl) (by exact fun _ _ _ h => h) (Or.inl ⟨by rfl, ?_⟩) (by assumption) ?_; rotate_left; focus (intro w hSw; (try dsimp only at hSw); first | (go_simp; done) | (go_simp; with_reducible rfl))
      (try simp only [Act.put]); (try simp only [List.setIfInBounds_toArray]); (try simp only [List.set_cons_succ]); (try simp only [List.set_cons_zero])
      refine wpAnyH_take (i := 6) (v := ?_) (by simp only [List.getElem?_toArray, List.getElem?_cons_succ, List.getElem?_cons_zero]; rfl) (by kernel_rfl) (by kernel_rfl) (by kernel_rfl) (by exact fun _ _ _ h => h) (Or.inl ⟨by rfl, ?_⟩) (by assumption) ?_; rotate_left; focus (intro w hSw; (try dsimp only at hSw); first | (go_simp; done) | (go_simp; with_reducible rfl))
      (try simp only [Act.put]); (try simp only [List.setIfInBounds_toArray]); (try simp only [List.set_cons_succ]); (try simp only [List.set_cons_zero])
      refine wpAnyH_ready (rs := [7]) (by kernel_rfl) (by simp) ?_
      refine AllReadyH.cons rfl (fun K hK => ?_) (AllReadyH.nil)
      rw [if_pos (by rfl)]
      go_simp
      refine hK.out _ _ trivial (fun hHeld => ?_)
      clear hK K
      (try simp only [Act.put]); (try simp only [List.setIfInBounds_toArray]); (try simp only [List.set_cons_succ]); (try simp only [List.set_cons_zero])
      refine wpAnyH_done (by kernel_rfl) ?_ _
      have JF := JA.out.set 4 (.int .i64 (15 * x + 60 + y))
      have KF := KA.out.other hnn 4 (.int .i64 (15 * x + 60 + y))
      have q0 : (wa.setCell ⟨w1.heap.size, 4, none⟩ (.int .i64 (15 * x + 60 + y))).cell? ⟨w1.heap.size, 0, none⟩ = some (.int .i64 i) := JF.cell 0
      have q1 : (wa.setCell ⟨w1.heap.size, 4, none⟩ (.int .i64 (15 * x + 60 + y))).cell? ⟨w1.heap.size, 1, none⟩ = some (.int .i64 3) := JF.cell 1
      have q2 : (wa.setCell ⟨w1.heap.size, 4, none⟩ (.int .i64 (15 * x + 60 + y))).cell? ⟨w1.heap.size, 2, none⟩ = some (.int .i64 0) := JF.cell 2
      have q3 : (wa.setCell ⟨w1.heap.size, 4, none⟩ (.int .i64 (15 * x + 60 + y))).cell? ⟨w1.heap.size, 3, none⟩ = some (.int .i64 (15 * x)) := JF.cell 3
      have q4 : (wa.setCell ⟨w1.heap.size, 4, none⟩ (.int .i64 (15 * x + 60 + y))).cell? ⟨w1.heap.size, 4, none⟩ = some (.int .i64 (15 * x + 60 + y)) := JF.cell 4
      have r0 : (wa.setCell ⟨w1.heap.size, 4, none⟩ (.int .i64 (15 * x + 60 + y))).cell? ⟨w.heap.size, 0, none⟩ = some (.int .i64 0) := KF.cell 0
      have s0 : (wa.setCell ⟨w1.heap.size, 4, none⟩ (.int .i64 (15 * x + 60 + y))).frozen? ⟨w.heap.size, 0, none⟩ = false := KF.free 0
      have r1 : (wa.setCell ⟨w1.heap.size, 4, none⟩ (.int .i64 (15 * x + 60 + y))).cell? ⟨w.heap.size, 1, none⟩ = some (.int .i64 0) := KF.cell 1
      have s1 : (wa.setCell ⟨w1.heap.size, 4, none⟩ (.int .i64 (15 * x + 60 + y))).frozen? ⟨w.heap.size, 1, none⟩ = false := KF.free 1
      have r2 : (wa.setCell ⟨w1.heap.size, 4, none⟩ (.int .i64 (15 * x + 60 + y))).cell? ⟨w.heap.size, 2, none⟩ = some (.int .i64 0) := KF.cell 2
      have s2 : (wa.setCell ⟨w1.heap.size, 4, none⟩ (.int .i64 (15 * x + 60 + y))).frozen? ⟨w.heap.size, 2, none⟩ = false := KF.free 2
      have r3 : (wa.setCell ⟨w1.heap.size, 4, none⟩ (.int .i64 (15 * x + 60 + y))).cell? ⟨w.heap.size, 3, none⟩ = some (.int .i64 0) := KF.cell 3
      have s3 : (wa.setCell ⟨w1.heap.size, 4, none⟩ (.int .i64 (15 * x + 60 + y))).frozen? ⟨w.heap.size, 3, none⟩ = false := KF.free 3
      have r4 : (wa.setCell ⟨w1.heap.size, 4, none⟩ (.int .i64 (15 * x + 60 + y))).cell? ⟨w.heap.size, 4, none⟩ = some (.int .i64 0) := KF.cell 4
      have s4 : (wa.setCell ⟨w1.heap.size, 4, none⟩ (.int .i64 (15 * x + 60 + y))).frozen? ⟨w.heap.size, 4, none⟩ = false := KF.free 4
      have CF := Lib.hid (CA.out.set hpj 4 (.int .i64 (15 * x + 60 + y)))
      have GF := Lib.hid (grown_setNew GA.out (show w.heap.size ≤ w1.heap.size by omega) (j := 4) (.int .i64 (15 * x + 60 + y)))
      obtain ⟨WF, hWF⟩ : ∃ WF, WF = wa.setCell ⟨w1.heap.size, 4, none⟩ (.int .i64 (15 * x + 60 + y)) := ⟨_, rfl⟩
      rw [← hWF] at q0 r0 s0 q1 r1 s1 q2 r2 s2 q3 r3 s3 q4 r4 s4 CF GF ⊢
      clear hWF JF KF va vb fb
      go_wp2
      refine bodyPost_ret (v := .agg #[.int .i64 i, .int .i64 3, .int .i64 0, .int .i64 (15 * x), .int .i64 (15 * x + 60 + y)]) (by simp [results, Try.results42, go_sem, *]) rfl ⟨⟨_, _, _, _, _⟩, rfl, ⟨rfl, .inr ⟨rfl, rfl⟩, by show 0 ≤ 15 * x; omega, by show 15 * x ≤ 435; omega, by show 15 * x + 60 ≤ 15 * x + 60 + y; omega, by show 15 * x + 60 + y < 15 * x + 460; omega⟩, ?_, ?_⟩
      · exact ((((CF.out.set hp _ _).set hp _ _).set hp _ _).set hp _ _).set hp _ _
      · exact grown_setNew (grown_setNew (grown_setNew (grown_setNew (grown_setNew GF.out (Nat.le_refl _) _) (Nat.le_refl _) _) (Nat.le_refl _) _) (Nat.le_refl _) _) (Nat.le_refl _) _
end Go.Proofs.Ytooeikimoheecaa
