
/- What ExactSailRoute and ExactFirstSail rests on, part 26: contracts and mathematics. -/
import Derived.Test.YtooeikimoheecaaGreatSf25
import Derived.Test.YtooeikimoheecaaGreatSf24
import Derived.Test.YtooeikimoheecaaGreatSf16
import Derived.Test.YtooeikimoheecaaGreatSf20
import Derived.Test.YtooeikimoheecaaGreatSf14
import Derived.Test.YtooeikimoheecaaGreatSf22
import Derived.Test.YtooeikimoheecaaGreatSf19
import Derived.Test.YtooeikimoheecaaGreatSf21
import Derived.Test.YtooeikimoheecaaGreatSf13
import Derived.Test.YtooeikimoheecaaGreatSf0
import Derived.Test.YtooeikimoheecaaGreatSf1
import Derived.StillTailTactics
namespace Go.Proofs.YtooeikimoheecaaGreat
open Go.RowKit
set_option maxRecDepth 100000
theorem minutesAtEnd_any (m : Int) (A A' : Option Addr) (n n' c c' : Nat) (level e0 : Int) (w : World) :
    Calls Tryz.prog 146 #[.agg #[.int .i64 m, .slice A n c, .slice A' n' c'], .int .i64 level, .int .i64 e0] w fun e w' => e = .returned (.func (.func 150) #[] #[.pointer (some ⟨w.heap.size, 0, none⟩), .pointer (some ⟨w.heap.size + 1 + 1, 0, none⟩), .pointer (some ⟨w.heap.size + 1, 0, none⟩)]) ∧
      w' = ((w.alloc (.cells #[.int .i64 m, .slice A n c, .slice A' n' c'] 44)).alloc (.cells #[.int .i64 level] 3)).alloc (.cells #[.int .i64 e0] 181) := by
  go_enter Tryz.func146, Tryz.ntmps146
  go_wp2
  go_ret
  exact ⟨rfl, rfl⟩
set_option maxHeartbeats 4000000 in
theorem windowsAtEnd_any (hi : Bool) (e0 : Int) (hEnd : EndAt hi e0) (m : Int) (v u : Value) (l : List PartD) (s : List SurgeD) (level : Int) (w : World) (h : SlP w v l) (h' : SlSurge w u s) :
    Calls Tryz.prog 136 #[.agg #[.int .i64 m, v, u], .int .i64 level, .int .i64 e0] w (NewWindow (wetL hi m l s level) w) := by
  have H := Lib.hid h
  have H' := Lib.hid h'
  have HEND := Lib.hid hEnd
  obtain ⟨A, c, rfl⟩ := h.at
  obtain ⟨A', c', rfl⟩ := h'.at
  have B0 := Lib.hid (Joins.below_alloc1 w (.cells #[.int .i64 m, .slice A l.length c, .slice A' s.length c'] 44))
  have X0 := Lib.hid (Blk.new w #[.int .i64 m, .slice A l.length c, .slice A' s.length c'] 44)
  clear h h' hEnd
  cases hok : fcB m l s with
  | false =>
    have E := Lib.hid (wetL_bad (hi := hi) (level := level) hok)
    have HOK := Lib.hid hok
    clear hok
    go_enter Tryz.func136, Tryz.ntmps136
    go_wp2_with fail
    refine (implForecastOk m _ _ l s _ (H.out.below B0.out) (H'.out.below B0.out)).mono ?_
    rw [HOK.out]
    rintro e w1 ⟨rfl, hb1⟩
    have B1 := Lib.hid (B0.out.trans (hb1.mono B0.out.size))
    clear hb1
    go_wp2
    go_ret
    exact NewWindow.empty B1.out E.out
  | true =>
    have E := Lib.hid (wetL_ok (hi := hi) (level := level) hok)
    have HOK := Lib.hid hok
    clear hok
    go_enter Tryz.func136, Tryz.ntmps136
    go_wp2_with fail
    refine (implForecastOk m _ _ l s _ (H.out.below B0.out) (H'.out.below B0.out)).mono ?_
    rw [HOK.out]
    rintro e w1 ⟨rfl, hb1⟩
    have B1 := Lib.hid (B0.out.trans (hb1.mono B0.out.size))
    have X1 := Lib.hid (X0.out.below hb1)
    have x0 : w1.cell? ⟨w.heap.size, 0, none⟩ = some (.int .i64 m) := X1.out.cell 0
    have x1 : w1.cell? ⟨w.heap.size, 1, none⟩ = some (.slice A l.length c) := X1.out.cell 1
    have x2 : w1.cell? ⟨w.heap.size, 2, none⟩ = some (.slice A' s.length c') := X1.out.cell 2
    clear hb1
    go_wp2_with fail
    refine (minutesAtEnd_any m A A' _ _ c c' level e0 w1).mono ?_
    rintro e w2 ⟨rfl, hw2⟩
    have hF0 := FBox.new (m := m) 44 (H.out.below B1.out) (H'.out.below B1.out)
    have hb2 : Below (w1.alloc (.cells #[.int .i64 m, .slice A l.length c, .slice A' s.length c'] 44)).heap.size (w1.alloc (.cells #[.int .i64 m, .slice A l.length c, .slice A' s.length c'] 44)) w2 := by rw [hw2]; exact Joins.below_alloc2 _ _ _
    have hF := hF0.below hb2
    have hal : Below w1.heap.size w1 w2 := (Joins.below_alloc1 w1 _).trans (hb2.mono (by simp))
    have be : w2.cell? ⟨w1.heap.size + 1 + 1, 0, none⟩ = some (.int .i64 e0) := by rw [hw2]; exact (Blk.newAt (by simp) _ _).cell 0
    have bl : w2.cell? ⟨w1.heap.size + 1, 0, none⟩ = some (.int .i64 level) := by rw [hw2]; exact ((Blk.newAt (by simp) _ _).below (Joins.below_alloc1 _ _)).cell 0
    have B2 := Lib.hid (B1.out.trans (hal.mono B1.out.size))
    have CC := Lib.hid (merge_any _ _ _ _ _ _ (minutes1 hi e0 HEND.out m A A' c c' l s level _ _ _ w2 hF be bl) (Nat.le_refl _) (enters_of Tryz.func150 (by kernel_rfl) rfl) (by omega))
    rw [minP_merge] at CC
    clear hw2 hF0 hb2 hF hal be bl x0 x1 x2
    go_wp2_with fail
    refine CC.out.mono ?_
    intro e w3 hnew
    obtain ⟨v3, rfl, h1, h2⟩ := hnew
    have K1 := Lib.hid h1
    have K2 := Lib.hid h2
    obtain ⟨A3, c3, rfl⟩ := own_form h1
    clear h1 h2
    go_wp2
    go_ret
    rw [E.out]
    exact ⟨_, rfl, own_lo K1.out B2.out.size, B2.out.trans (K2.out.mono B2.out.size)⟩
set_option maxHeartbeats 2000000 in
theorem implLowWindows (m : Int) (v u : Value) (l : List PartD) (s : List SurgeD) (level : Int) (w : World) (h : SlP w v l) (h' : SlSurge w u s) :
    Calls Tryz.prog 123 #[.agg #[.int .i64 m, v, u], .int .i64 level] w (NewWindow (wetL false m l s level) w) := by
  have B0 := Lib.hid (Joins.below_alloc1 w (.cells #[.int .i64 m, v, u] 44))
  have CC := Lib.hid (windowsAtEnd_any false _ endLo m v u l s level _ (h.below B0.out) (h'.below B0.out))
  obtain ⟨A, c, rfl⟩ := h.at
  obtain ⟨A', c', rfl⟩ := h'.at
  clear h h'
  go_enter Tryz.func123, Tryz.ntmps123
  go_wp2_with fail
  refine CC.out.mono ?_
  intro e w3 hnew
  obtain ⟨v3, rfl, h1, h2⟩ := hnew
  have K1 := Lib.hid h1
  have K2 := Lib.hid h2
  obtain ⟨A3, c3, rfl⟩ := own_form h1
  clear h1 h2
  go_wp2
  go_ret
  exact ⟨_, rfl, own_lo K1.out B0.out.size, B0.out.trans (K2.out.mono B0.out.size)⟩
/-- A list of marks that grows in a slot. -/
def GathM (w : World) (v : Value) (acc : List Bool) (wr : World) : Prop := wr.ownsRow w.heap.size 4 1 v acc.length (acc.map Value.bool) ∧ Below w.heap.size w wr
theorem GathM.made {w wr : World} (hb : Below w.heap.size w wr) : GathM w (.slice (some ⟨wr.heap.size, 0, none⟩) 0 0) [] (wr.alloc (.cells #[] 4)) :=
  ⟨⟨by simp, .inr ⟨wr.heap.size, 0, #[], rfl, hb.size, World.alloc_heap_new wr _, Nat.le_refl _, by omega, by simp, by simp⟩⟩, hb.alloc hb.size _⟩
theorem GathM.below {w wr W : World} {v : Value} {acc : List Bool} (h : GathM w v acc wr) (hb : Below wr.heap.size wr W) : GathM w v acc W := ⟨ownsRow_below h.1 hb, h.2.trans (hb.mono h.2.size)⟩
theorem GathM.next {w W w4 : World} {v : Value} {acc : List Bool} {b : Bool} {g4 cap4 : Nat} (h : GathM w v acc W)
    (hown : w4.ownsRow w.heap.size 4 1 (.slice (some ⟨g4, 0, none⟩) (acc.length + 1) cap4) (acc.length + 1) (acc.map Value.bool ++ [.bool b])) (hgr : W.grownBy w4 v.ownBlock) :
    GathM w (.slice (some ⟨g4, 0, none⟩) (acc.length + 1) cap4) (acc ++ [b]) w4 := by
  refine ⟨?_, h.2.grown hgr h.2.size (fun k hk => (World.ownsRow.lt h.1 k hk).1)⟩
  simpa using hown
theorem GathM.sl {w wr : World} {v : Value} {acc : List Bool} (h : GathM w v acc wr) (hl : acc.length ≤ 1000000000) : SlBool wr v acc := by
  refine own_sl (t := 4) (base := w.heap.size) boolLen ?_ hl
  unfold OwnOf
  rw [flat_bool]
  exact h.1
def rangeB (f : Nat → Bool) (k : Nat) : List Bool := (List.range k).map f
theorem rangeB_next (f : Nat → Bool) (k : Nat) : rangeB f (k + 1) = rangeB f k ++ [f k] := by unfold rangeB; rw [List.range_succ, List.map_append]; rfl
theorem rangeB_len (f : Nat → Bool) (k : Nat) : (rangeB f k).length = k := by simp [rangeB]
def sel (hi : Bool) (x : SurgeD) : Int := if hi = true then x.hi else x.lo
theorem wetF_at {hi : Bool} {m : Int} {l : List PartD} {s : List SurgeD} {level : Int} {k : Nat} (h : fcB m l s = true) (hk : k < 2881) : wetF hi m l s level k = decide (level ≤ levI m l (k : Int) + sel hi (atS s (k : Int))) := by
  unfold wetF endI sel
  rw [if_pos (sAt_mk h (decide_eq_true (by omega)))]
set_option maxHeartbeats 8000000 in
theorem l04Levels_any (hi : Bool) (m : Int) (v u : Value) (l : List PartD) (s : List SurgeD) (level : Int) (w : World) (h : SlP w v l) (h' : SlSurge w u s) (hok : fcB m l s = true) :
    Calls Tryz.prog 113 #[.agg #[.int .i64 m, v, u], .int .i64 level, .bool hi] w (NewWindow (ofMarks (wetF hi m l s level) 2881) w) := by
  obtain ⟨i0, hin, hz0, hzs, hz2⟩ := info_parts info_bool
  have HI := Lib.hid hin
  clear hin
  have hs0 : 0 < s.length := (fcB_true hok).2.1
  have HOK := Lib.hid hok
  have htide := (fcB_true hok).1
  have HTD := Lib.hid htide
  have H := Lib.hid h
  have H' := Lib.hid h'
  obtain ⟨A, c, rfl⟩ := h.at
  obtain ⟨A', c', rfl⟩ := h'.at
  have B0 := Lib.hid (Joins.below_alloc1 w (.cells #[.int .i64 m, .slice A l.length c, .slice A' s.length c'] 44))
  have X0 := Lib.hid (Blk.new w #[.int .i64 m, .slice A l.length c, .slice A' s.length c'] 44)
  clear h h' hok htide
  go_enter Tryz.func113, Tryz.ntmps113
  go_wp2
  have G0 := Lib.hid (GathM.made B0.out)
  have X1 := Lib.hid (X0.out.below (Joins.below_alloc1 _ (.cells #[] 4)))
  go_loopw [7, 8] (fun q p wr => ∃ k : Nat, k ≤ 2881 ∧ p = .int .i64 k ∧ Hid (GathM w q (rangeB (wetF hi m l s level) k) wr) ∧ Hid (Blk wr w.heap.size #[.int .i64 m, .slice A l.length c, .slice A' s.length c'] 44) ∧ Hid (q.ownBlock ≠ some w.heap.size)) (fun _ p _ => 2881 - (intOf p).toNat)
  case atStart => exact ⟨0, Nat.zero_le _, rfl, by simpa [rangeB] using G0, X1, Lib.hid (by simp [Value.ownBlock])⟩
  case round =>
    obtain ⟨k, hk, rfl, hG, hX, hN⟩ := hrel
    by_cases hlt : k < 2881
    rotate_left
    · obtain rfl : k = 2881 := by omega
      have CO := Lib.hid (l04Of_any _ _ wr (hG.out.sl (by rw [rangeB_len]; omega)) (by rw [rangeB_len]; omega))
      rw [show ofMarks (markF (rangeB (wetF hi m l s level) 2881)) (rangeB (wetF hi m l s level) 2881).length = ofMarks (wetF hi m l s level) 2881 from ofMarks_bits (wetF hi m l s level)] at CO
      have hsz := hG.out.2.size
      obtain ⟨A2, c2, rfl⟩ : ∃ A c, u7 = .slice A 2881 c := by
        rcases hG.out.1.2 with ⟨_, h0⟩ | ⟨g, cap, cur, e, _⟩
        · rw [rangeB_len] at h0; omega
        · rw [rangeB_len] at e; exact ⟨_, _, e⟩
      go_wp2_with fail
      refine CO.out.mono ?_
      rintro e w4 ⟨v4, rfl, h1, h2⟩
      have K1 := Lib.hid h1
      have K2 := Lib.hid h2
      obtain ⟨A3, c3, rfl⟩ := own_form h1
      clear h1 h2
      go_wp2
      go_ret
      exact ⟨_, rfl, own_lo K1.out hsz, hG.out.2.trans (K2.out.mono hsz)⟩
    · have EF := Lib.hid (rangeB_next (wetF hi m l s level) k)
      rw [wetF_at HOK.out hlt] at EF
      have hal := Nat.le_of_eq (rangeB_len (wetF hi m l s level) k)
      obtain ⟨acc, hacc⟩ : ∃ acc, rangeB (wetF hi m l s level) k = acc := ⟨_, rfl⟩
      rw [hacc] at hG hal EF
      clear hacc
      have hsz := hG.out.2.size
      have x0 : wr.cell? ⟨w.heap.size, 0, none⟩ = some (.int .i64 m) := hX.out.cell 0
      have x1 : wr.cell? ⟨w.heap.size, 1, none⟩ = some (.slice A l.length c) := hX.out.cell 1
      have x2 : wr.cell? ⟨w.heap.size, 2, none⟩ = some (.slice A' s.length c') := hX.out.cell 2
      have HT := Lib.hid (atS_ok (t := (k : Int)) hs0 (fcB_true HOK.out).2.2.2.2)
      have hfa := sAt_facts (sAt_mk (t := (k : Int)) HOK.out (decide_eq_true (by omega)))
      obtain ⟨_, _, _, f0, f1, f2, f3, f4⟩ := hfa
      obtain ⟨L, hL⟩ : ∃ L, levI m l (k : Int) = L := ⟨_, rfl⟩
      obtain ⟨z, hz⟩ : ∃ z, atS s (k : Int) = z := ⟨_, rfl⟩
      rw [hL, hz] at EF
      rw [hL] at f0 f1
      rw [hz] at f2 f3 f4
      have CS := Lib.hid (l03Surge_any m (.slice A l.length c) (.slice A' s.length c') l s (k : Int) wr (H.out.below hG.out.2) (H'.out.below hG.out.2) hs0)
      rw [hz] at CS
      have CL := Lib.hid (fun W hb => l02Level_any m (.slice A l.length c) l (k : Int) W (H.out.below hb) HTD.out (by omega) (by omega))
      rw [hL] at CL
      clear hL hz HT
      cases hi with
      | false =>
        go_wp2_with fail
        refine CS.out.mono ?_
        rintro e w1 ⟨rfl, hb1⟩
        have G1 := Lib.hid ((hG.out.below hb1).below (Joins.below_alloc1 w1 (.cells #[.int .i64 z.fr, .int .i64 z.lo, .int .i64 z.hi] 115)))
        have X2 := Lib.hid ((hX.out.below hb1).below (Joins.below_alloc1 w1 (.cells #[.int .i64 z.fr, .int .i64 z.lo, .int .i64 z.hi] 115)))
        have y0 : w1.cell? ⟨w.heap.size, 0, none⟩ = some (.int .i64 m) := (hX.out.below hb1).cell 0
        have y1 : w1.cell? ⟨w.heap.size, 1, none⟩ = some (.slice A l.length c) := (hX.out.below hb1).cell 1
        have hs1 := hb1.size
        have hlo1 : w.heap.size < w1.heap.size := by have := hX.out.lt; omega
        have hne1 : w.heap.size ≠ w1.heap.size := by omega
        clear hb1 x0 x1 x2
        go_wp2_with fail
        refine (CL.out _ G1.out.2).mono ?_
        rintro e w2 ⟨rfl, hb2⟩
        have G2 := Lib.hid (G1.out.below hb2)
        have X3 := Lib.hid (X2.out.below hb2)
        have hs2 : w1.heap.size < w2.heap.size := by have := hb2.size; simp at this; omega
        clear hb2 y0 y1
        rw [show sel false z = z.lo from rfl] at EF
        have GW := Lib.hid (G2.out.below (Joins.below_alloc1 w2 (.cells #[.bool (decide (level ≤ L + z.lo))] 4)))
        have X4 := Lib.hid (X3.out.below (Joins.below_alloc1 w2 (.cells #[.bool (decide (level ≤ L + z.lo))] 4)))
        have HN := Lib.hid (World.news_of_block (World.alloc_heap_new w2 (.cells #[.bool (decide (level ≤ L + z.lo))] 4)))
        go_wp2_with (at_builtin; refine wpList_append_lies _ rfl _ _ _ rfl w.heap.size 4 i0 _ 1 1 Tryz.underlying171 HI.out hz0 (by assumption) hz2 rfl (by omega) u7 acc.length (acc.map Value.bool) rfl GW.out.1 ⟨w2.heap.size, 0, none⟩ 1 1 [.bool (decide (level ≤ L + z.lo))] (by first | rfl | simp) rfl (by simpa using HN.out) (by simp [Value.oneCell']) (by omega) (by unfold maxLen; omega) (by omega) (by simp; omega) _ rfl ?_; intro g4 cap4 w4 hown4 hgrow4 hor4 hlt4; have GX := Lib.hid (GW.out.next hown4 hgrow4); have XX := Lib.hid (X4.out.grown hgrow4 (fun e => hN.out e.symm)); have NX := Lib.hid (show (Value.slice (some ⟨g4, 0, none⟩) (acc.length + 1) cap4).ownBlock ≠ some w.heap.size from fun e => by rcases hor4 with ho | ho; exact hN.out (by rw [ho]; exact e); (have e' : g4 = w.heap.size := by simpa [Value.ownBlock] using e); simp at ho; omega); clear hown4 hgrow4 hor4 hlt4)
        go_roundw
        case rel => exact ⟨k + 1, by omega, by go_num, by rw [EF.out]; exact GX, XX, NX⟩
        case measure => simp [intOf]; omega
      | true =>
        go_wp2_with fail
        refine CS.out.mono ?_
        rintro e w1 ⟨rfl, hb1⟩
        have G1 := Lib.hid ((hG.out.below hb1).below (Joins.below_alloc1 w1 (.cells #[.int .i64 z.fr, .int .i64 z.lo, .int .i64 z.hi] 115)))
        have X2 := Lib.hid ((hX.out.below hb1).below (Joins.below_alloc1 w1 (.cells #[.int .i64 z.fr, .int .i64 z.lo, .int .i64 z.hi] 115)))
        have y0 : w1.cell? ⟨w.heap.size, 0, none⟩ = some (.int .i64 m) := (hX.out.below hb1).cell 0
        have y1 : w1.cell? ⟨w.heap.size, 1, none⟩ = some (.slice A l.length c) := (hX.out.below hb1).cell 1
        have hs1 := hb1.size
        have hlo1 : w.heap.size < w1.heap.size := by have := hX.out.lt; omega
        have hne1 : w.heap.size ≠ w1.heap.size := by omega
        clear hb1 x0 x1 x2
        go_wp2_with fail
        refine (CL.out _ G1.out.2).mono ?_
        rintro e w2 ⟨rfl, hb2⟩
        have G2 := Lib.hid (G1.out.below hb2)
        have X3 := Lib.hid (X2.out.below hb2)
        have hs2 : w1.heap.size < w2.heap.size := by have := hb2.size; simp at this; omega
        clear hb2 y0 y1
        rw [show sel true z = z.hi from rfl] at EF
        have GW := Lib.hid (G2.out.below (Joins.below_alloc1 w2 (.cells #[.bool (decide (level ≤ L + z.hi))] 4)))
        have X4 := Lib.hid (X3.out.below (Joins.below_alloc1 w2 (.cells #[.bool (decide (level ≤ L + z.hi))] 4)))
        have HN := Lib.hid (World.news_of_block (World.alloc_heap_new w2 (.cells #[.bool (decide (level ≤ L + z.hi))] 4)))
        go_wp2_with (at_builtin; refine wpList_append_lies _ rfl _ _ _ rfl w.heap.size 4 i0 _ 1 1 Tryz.underlying171 HI.out hz0 (by assumption) hz2 rfl (by omega) u7 acc.length (acc.map Value.bool) rfl GW.out.1 ⟨w2.heap.size, 0, none⟩ 1 1 [.bool (decide (level ≤ L + z.hi))] (by first | rfl | simp) rfl (by simpa using HN.out) (by simp [Value.oneCell']) (by omega) (by unfold maxLen; omega) (by omega) (by simp; omega) _ rfl ?_; intro g4 cap4 w4 hown4 hgrow4 hor4 hlt4; have GX := Lib.hid (GW.out.next hown4 hgrow4); have XX := Lib.hid (X4.out.grown hgrow4 (fun e => hN.out e.symm)); have NX := Lib.hid (show (Value.slice (some ⟨g4, 0, none⟩) (acc.length + 1) cap4).ownBlock ≠ some w.heap.size from fun e => by rcases hor4 with ho | ho; exact hN.out (by rw [ho]; exact e); (have e' : g4 = w.heap.size := by simpa [Value.ownBlock] using e); simp at ho; omega); clear hown4 hgrow4 hor4 hlt4)
        go_roundw
        case rel => exact ⟨k + 1, by omega, by go_num, by rw [EF.out]; exact GX, XX, NX⟩
        case measure => simp [intOf]; omega
end Go.Proofs.YtooeikimoheecaaGreat
namespace Go.Proofs.YtooeikimoheecaaGreat
set_option maxRecDepth 100000
def needI (s : ShipD) : Int := if shipB s = true then s.draught + squatI s + 50 else 0
theorem needI_bad {s : ShipD} (h : shipB s = false) : needI s = 0 := if_neg (by rw [h]; simp)
theorem needI_ok {s : ShipD} (h : shipB s = true) : needI s = s.draught + squatI s + 50 := if_pos h
theorem squat_bnd {s : ShipD} (h : shipB s = true) : 0 ≤ squatI s ∧ squatI s ≤ 100 := by
  obtain ⟨-, -, -, d0, d1, -⟩ := shipB_true h
  unfold squatI
  rw [if_pos h]
  split
  · rw [Int.tdiv_eq_ediv_of_nonneg (by omega)]; omega
  · rw [Int.tdiv_eq_ediv_of_nonneg (by omega)]; omega
def levForI (d : ChartD) (i : Int) (s : ShipD) : Int := if sailB d i s = true then (match segAt d i with | some g => needI s - g.depth | none => 0) else 0
theorem levForI_bad {d : ChartD} {i : Int} {s : ShipD} (h : sailB d i s = false) : levForI d i s = 0 := if_neg (by rw [h]; simp)
theorem levForI_ok {d : ChartD} {i : Int} {s : ShipD} {g : SegmentD} (h : sailB d i s = true) (hg : segAt d i = some g) : levForI d i s = needI s - g.depth := by unfold levForI; rw [if_pos h, hg]
theorem levFor_bnd (d : ChartD) (i : Int) (s : ShipD) : -3000 ≤ levForI d i s ∧ levForI d i s ≤ 2150 := by
  cases h : sailB d i s with
  | false => rw [levForI_bad h]; omega
  | true =>
    obtain ⟨h1, h2, g, hg, _, _, _, hs⟩ := sailB_true h
    obtain ⟨-, -, -, d0, d1, -⟩ := shipB_true h2
    have := squat_bnd h2
    obtain ⟨-, -, -, -, -, q0, q1, -⟩ := segB_true hs
    rw [levForI_ok h hg, needI_ok h2]
    omega
/-- The minutes on the segment: from 1 to 480 where all is valid. -/
theorem minOn_bnd {d : ChartD} {i : Int} {s : ShipD} (h : sailB d i s = true) : 1 ≤ minOn d i s ∧ minOn d i s ≤ 480 := by
  obtain ⟨h1, h2, g, hg, _, _, _, hs⟩ := sailB_true h
  obtain ⟨-, -, -, -, -, -, -, m0, m1⟩ := segB_true hs
  rw [minOn_ok h1 h2 hg]
  unfold onMin
  split <;> omega
/-- The starts: sure ones at the lower end of the band, open ones at the upper end. -/
def startsL (hi : Bool) (f : ForecastD) (d : ChartD) (i : Int) (s : ShipD) : List WindowD := if fcB f.mean f.parts f.surges = true ∧ sailB d i s = true then shrinkL (wetL hi f.mean f.parts f.surges (levForI d i s)) (minOn d i s) else []
theorem startsL_bad {hi : Bool} {f : ForecastD} {d : ChartD} {i : Int} {s : ShipD} (h : fcB f.mean f.parts f.surges = false ∨ sailB d i s = false) : startsL hi f d i s = [] := if_neg (by rintro ⟨h1, h2⟩; rcases h with h | h <;> simp_all)
theorem startsL_ok {hi : Bool} {f : ForecastD} {d : ChartD} {i : Int} {s : ShipD} (h1 : fcB f.mean f.parts f.surges = true) (h2 : sailB d i s = true) : startsL hi f d i s = shrinkL (wetL hi f.mean f.parts f.surges (levForI d i s)) (minOn d i s) := if_pos ⟨h1, h2⟩
theorem starts_len (hi : Bool) (f : ForecastD) (d : ChartD) (i : Int) (s : ShipD) : (startsL hi f d i s).length ≤ 2881 := by
  unfold startsL
  split
  · unfold shrinkL
    split
    · exact Nat.le_trans (shrW_len _ _) (wetL_len _ _ _ _ _)
    · simp
  · simp
end Go.Proofs.YtooeikimoheecaaGreat
namespace Go.Proofs.YtooeikimoheecaaGreat
set_option maxRecDepth 100000
/-- The minutes of a ship on the segment that is named, whatever its chart. -/
def onSeg (d : ChartD) (s : ShipD) (i : Int) : Int := match segAt d i with | some g => onMin g s | none => 0
/-- Whether a ship may wait at a point. -/
def waitAt (d : ChartD) (p : Int) : Bool := match d.points[p.toNat]? with | some x => x.wait | none => false
/-- The start on a segment whose windows are L, of a ship that arrives at m at the point p: none, if there is none. -/
def goOn (d : ChartD) (p : Int) (L : List WindowD) (m : Int) : Option Int := if nextI L m < 0 then none else if nextI L m ≠ m ∧ waitAt d p = false then none else some (nextI L m)
theorem goOn_no {d : ChartD} {p m n : Int} {L : List WindowD} (hn : nextI L m = n) (h : n < 0) : goOn d p L m = none := by unfold goOn; rw [hn, if_pos h]
theorem goOn_stay {d : ChartD} {p m n : Int} {L : List WindowD} (hn : nextI L m = n) (h : ¬ n < 0) (h1 : n ≠ m) (h2 : waitAt d p = false) : goOn d p L m = none := by unfold goOn; rw [hn, if_neg h, if_pos ⟨h1, h2⟩]
theorem goOn_yes {d : ChartD} {p m n : Int} {L : List WindowD} (hn : nextI L m = n) (h : ¬ n < 0) (h1 : n = m ∨ waitAt d p = true) : goOn d p L m = some n := by
  unfold goOn
  rw [hn, if_neg h, if_neg (by
    rintro ⟨a, b⟩
    rcases h1 with e | e
    · exact a e
    · rw [e] at b; cases b)]
/-- The starts on the first k segments of a route. -/
def sailTo (d : ChartD) (s : ShipD) (pts route : List Int) (W : List (List WindowD)) (start : Int) : Nat → Option (List Int)
  | 0 => none
  | 1 => if hasB (W.getD 0 []) start = true then some [start] else none
  | k + 2 => match sailTo d s pts route W start (k + 1) with
    | none => none
    | some out => match goOn d (pts.getD (k + 1) 0) (W.getD (k + 1) []) (out.getD k 0 + onSeg d s (route.getD k 0)) with
      | none => none
      | some n => some (out ++ [n])
theorem sailTo_len {d : ChartD} {s : ShipD} {pts route : List Int} {W : List (List WindowD)} {start : Int} : ∀ k {out : List Int}, sailTo d s pts route W start k = some out → out.length = k
  | 0, out, h => by cases h
  | 1, out, h => by
    unfold sailTo at h
    split at h
    · cases h; rfl
    · cases h
  | k + 2, out, h => by
    unfold sailTo at h
    cases h1 : sailTo d s pts route W start (k + 1) with
    | none => rw [h1] at h; cases h
    | some o =>
      rw [h1] at h
      simp only at h
      have := sailTo_len (k + 1) h1
      split at h
      · cases h
      · cases h; simp [this]
theorem sailTo_stop {d : ChartD} {s : ShipD} {pts route : List Int} {W : List (List WindowD)} {start : Int} {k : Nat} (h : sailTo d s pts route W start (k + 1) = none) : ∀ n, sailTo d s pts route W start (k + 1 + n) = none
  | 0 => h
  | n + 1 => by
    have ih := sailTo_stop h n
    rw [show k + 1 + (n + 1) = (k + n) + 2 by omega]
    rw [show k + 1 + n = (k + n) + 1 by omega] at ih
    unfold sailTo
    rw [ih]
theorem sailTo_none {d : ChartD} {s : ShipD} {pts route : List Int} {W : List (List WindowD)} {start : Int} {k : Nat} (h : sailTo d s pts route W start (k + 1) = none) (n : Nat) (hn : k + 1 ≤ n) : sailTo d s pts route W start n = none := by
  obtain ⟨j, rfl⟩ : ∃ j, n = k + 1 + j := ⟨n - (k + 1), by omega⟩
  exact sailTo_stop h j
theorem sailTo_next {d : ChartD} {s : ShipD} {pts route : List Int} {W : List (List WindowD)} {start : Int} {k : Nat} {out : List Int} {m : Int} {p : Int} {L : List WindowD} {i : Int} {g : SegmentD} (h : sailTo d s pts route W start (k + 1) = some out)
    (hm : out[k]? = some m) (hp : pts[k + 1]? = some p) (hL : W[k + 1]? = some L) (hi : route[k]? = some i) (hg : segAt d i = some g) :
    sailTo d s pts route W start (k + 2) = (match goOn d p L (m + onMin g s) with | none => none | some n => some (out ++ [n])) := by
  show (match sailTo d s pts route W start (k + 1) with
    | none => none
    | some out => match goOn d (pts.getD (k + 1) 0) (W.getD (k + 1) []) (out.getD k 0 + onSeg d s (route.getD k 0)) with
      | none => none
      | some n => some (out ++ [n])) = _
  rw [h]
  simp only [List.getD_eq_getElem?_getD, hm, hp, hL, hi, Option.getD_some, onSeg, hg]
/-- The sure starts on each segment of a route. -/
def winsL (f : ForecastD) (d : ChartD) (s : ShipD) (route : List Int) : List (List WindowD) := route.map (fun k => startsL false f d k s)
/-- What must hold before a route is sailed. -/
def sailPre (f : ForecastD) (d : ChartD) (s : ShipD) (fr : Int) (route : List Int) : Bool := fcB f.mean f.parts f.surges && shipB s && routeB d fr route && !(route.isEmpty)
def sailO (f : ForecastD) (d : ChartD) (s : ShipD) (fr : Int) (route : List Int) (start : Int) : Option (List Int) := if sailPre f d s fr route = true then sailTo d s (rteL d fr route) route (winsL f d s route) start route.length else none
theorem sailO_bad {f : ForecastD} {d : ChartD} {s : ShipD} {fr : Int} {route : List Int} {start : Int} (h : sailPre f d s fr route = false) : sailO f d s fr route start = none := if_neg (by rw [h]; simp)
theorem sailO_ok {f : ForecastD} {d : ChartD} {s : ShipD} {fr : Int} {route : List Int} {start : Int} (h : sailPre f d s fr route = true) : sailO f d s fr route start = sailTo d s (rteL d fr route) route (winsL f d s route) start route.length := if_pos h
theorem sailO_len (f : ForecastD) (d : ChartD) (s : ShipD) (fr : Int) (route : List Int) (start : Int) : ((sailO f d s fr route start).getD []).length ≤ route.length := by
  cases h : sailO f d s fr route start with
  | none => simp
  | some out =>
    unfold sailO at h
    split at h
    · have := sailTo_len _ h
      simp [this]
    · cases h
/-- The first start from m on, among n minutes, at which a route can be sailed. -/
def firstO (f : ForecastD) (d : ChartD) (s : ShipD) (fr : Int) (route : List Int) (m : Int) : Nat → Option (List Int)
  | 0 => none
  | n + 1 => match sailO f d s fr route m with | some out => some out | none => firstO f d s fr route (m + 1) n
def firstSail (f : ForecastD) (d : ChartD) (s : ShipD) (fr : Int) (route : List Int) (ready : Int) : Option (List Int) := firstO f d s fr route (max 0 ready) (2881 - max 0 ready).toNat
theorem firstO_len {f : ForecastD} {d : ChartD} {s : ShipD} {fr : Int} {route : List Int} : ∀ n m, ((firstO f d s fr route m n).getD []).length ≤ route.length
  | 0, m => by simp [firstO]
  | n + 1, m => by
    unfold firstO
    have := sailO_len f d s fr route m
    cases h : sailO f d s fr route m with
    | none => simp only; exact firstO_len n (m + 1)
    | some out => rw [h] at this; exact this
theorem firstO_bad {f : ForecastD} {d : ChartD} {s : ShipD} {fr : Int} {route : List Int} (h : sailPre f d s fr route = false) : ∀ n m, firstO f d s fr route m n = none
  | 0, m => rfl
  | n + 1, m => by unfold firstO; rw [sailO_bad h]; exact firstO_bad h n (m + 1)
theorem firstSail_bad {f : ForecastD} {d : ChartD} {s : ShipD} {fr : Int} {route : List Int} {ready : Int} (h : sailPre f d s fr route = false) : firstSail f d s fr route ready = none := firstO_bad h _ _
end Go.Proofs.YtooeikimoheecaaGreat
