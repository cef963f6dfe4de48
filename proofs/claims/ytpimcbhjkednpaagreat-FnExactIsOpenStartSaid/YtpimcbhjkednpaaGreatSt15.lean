
/- What ExactSureStarts and ExactOpenStarts and ExactIsSure and ExactIsOpenStart and ExactDraughtFor rests on, part 15: contracts and mathematics. -/
import Derived.Test.YtpimcbhjkednpaaGreatSt14
import Derived.Test.YtpimcbhjkednpaaGreatSt11
import Derived.Test.YtpimcbhjkednpaaGreatSt12
import Derived.Test.YtpimcbhjkednpaaGreatSt10
import Derived.Test.YtpimcbhjkednpaaGreatSt6
import Derived.Test.YtpimcbhjkednpaaGreatSt0
import Derived.StillTailTactics
import Derived.Test.YtpimcbhjkednpaaGreatSt1
import Derived.Maps.AppendAt
import Derived.Test.YtpimcbhjkednpaaGreatSt4
import Derived.Test.YtpimcbhjkednpaaGreatSt8
import Derived.Deep.AppendLies
namespace Go.Proofs.YtpimcbhjkednpaaGreat
open Go.RowKit
set_option maxRecDepth 100000
theorem minutesAtEnd_any (m : Int) (A A' : Option Addr) (n n' c c' : Nat) (level e0 : Int) (w : World) :
    Calls Tryz.prog 119 #[.agg #[.int .i64 m, .slice A n c, .slice A' n' c'], .int .i64 level, .int .i64 e0] w fun e w' => e = .returned (.func (.func 125) #[] #[.pointer (some ⟨w.heap.size, 0, none⟩), .pointer (some ⟨w.heap.size + 1 + 1, 0, none⟩), .pointer (some ⟨w.heap.size + 1, 0, none⟩)]) ∧
      w' = ((w.alloc (.cells #[.int .i64 m, .slice A n c, .slice A' n' c'] 44)).alloc (.cells #[.int .i64 level] 3)).alloc (.cells #[.int .i64 e0] 139) := by
  go_enter Tryz.func119, Tryz.ntmps119
  go_wp2
  go_ret
  exact ⟨rfl, rfl⟩
set_option maxHeartbeats 4000000 in
theorem windowsAtEnd_any (hi : Bool) (e0 : Int) (hEnd : EndAt hi e0) (m : Int) (v u : Value) (l : List PartD) (s : List SurgeD) (level : Int) (w : World) (h : SlP w v l) (h' : SlSurge w u s) :
    Calls Tryz.prog 103 #[.agg #[.int .i64 m, v, u], .int .i64 level, .int .i64 e0] w (NewWindow (wetL hi m l s level) w) := by
  have H := Lib.hid h
  have H' := Lib.hid h'
  have HEND := Lib.hid hEnd
  obtain ⟨A, c, rfl⟩ := h.at
  obtain ⟨A', c', rfl⟩ := h'.at
  have B0 := Lib.hid (Joins.below_alloc1 w (.cells #[.int .i64 m, .slice A l.length c, .slice A' s.length c'] 44))
  have X0 := Lib.hid (Blk.new w #[.int .i64 m, .slice A l.length c, .slice A' s.length c'] 44)
  clear h h' hEnd
  cases hok : fcB m l s with
  | false =>
    have E := Lib.hid (wetL_bad (hi := hi) (level := level) hok)
    have HOK := Lib.hid hok
    clear hok
    go_enter Tryz.func103, Tryz.ntmps103
    go_wp2_with fail
    refine (implForecastOk m _ _ l s _ (H.out.below B0.out) (H'.out.below B0.out)).mono ?_
    rw [HOK.out]
    rintro e w1 ⟨rfl, hb1⟩
    have B1 := Lib.hid (B0.out.trans (hb1.mono B0.out.size))
    clear hb1
    go_wp2
    go_ret
    exact NewWindow.empty B1.out E.out
  | true =>
    have E := Lib.hid (wetL_ok (hi := hi) (level := level) hok)
    have HOK := Lib.hid hok
    clear hok
    go_enter Tryz.func103, Tryz.ntmps103
    go_wp2_with fail
    refine (implForecastOk m _ _ l s _ (H.out.below B0.out) (H'.out.below B0.out)).mono ?_
    rw [HOK.out]
    rintro e w1 ⟨rfl, hb1⟩
    have B1 := Lib.hid (B0.out.trans (hb1.mono B0.out.size))
    have X1 := Lib.hid (X0.out.below hb1)
    have x0 : w1.cell? ⟨w.heap.size, 0, none⟩ = some (.int .i64 m) := X1.out.cell 0
    have x1 : w1.cell? ⟨w.heap.size, 1, none⟩ = some (.slice A l.length c) := X1.out.cell 1
    have x2 : w1.cell? ⟨w.heap.size, 2, none⟩ = some (.slice A' s.length c') := X1.out.cell 2
    clear hb1
    go_wp2_with fail
    refine (minutesAtEnd_any m A A' _ _ c c' level e0 w1).mono ?_
    rintro e w2 ⟨rfl, hw2⟩
    have hF0 := FBox.new (m := m) 44 (H.out.below B1.out) (H'.out.below B1.out)
    have hb2 : Below (w1.alloc (.cells #[.int .i64 m, .slice A l.length c, .slice A' s.length c'] 44)).heap.size (w1.alloc (.cells #[.int .i64 m, .slice A l.length c, .slice A' s.length c'] 44)) w2 := by rw [hw2]; exact Joins.below_alloc2 _ _ _
    have hF := hF0.below hb2
    have hal : Below w1.heap.size w1 w2 := (Joins.below_alloc1 w1 _).trans (hb2.mono (by simp))
    have be : w2.cell? ⟨w1.heap.size + 1 + 1, 0, none⟩ = some (.int .i64 e0) := by rw [hw2]; exact (Blk.newAt (by simp) _ _).cell 0
    have bl : w2.cell? ⟨w1.heap.size + 1, 0, none⟩ = some (.int .i64 level) := by rw [hw2]; exact ((Blk.newAt (by simp) _ _).below (Joins.below_alloc1 _ _)).cell 0
    have B2 := Lib.hid (B1.out.trans (hal.mono B1.out.size))
    have CC := Lib.hid (merge_any _ _ _ _ _ _ (minutes1 hi e0 HEND.out m A A' c c' l s level _ _ _ w2 hF be bl) (Nat.le_refl _) (enters_of Tryz.func125 (by kernel_rfl) rfl) (by omega))
    rw [minP_merge] at CC
    clear hw2 hF0 hb2 hF hal be bl x0 x1 x2
    go_wp2_with fail
    refine CC.out.mono ?_
    intro e w3 hnew
    obtain ⟨v3, rfl, h1, h2⟩ := hnew
    have K1 := Lib.hid h1
    have K2 := Lib.hid h2
    obtain ⟨A3, c3, rfl⟩ := own_form h1
    clear h1 h2
    go_wp2
    go_ret
    rw [E.out]
    exact ⟨_, rfl, own_lo K1.out B2.out.size, B2.out.trans (K2.out.mono B2.out.size)⟩
set_option maxHeartbeats 2000000 in
theorem implLowWindows (m : Int) (v u : Value) (l : List PartD) (s : List SurgeD) (level : Int) (w : World) (h : SlP w v l) (h' : SlSurge w u s) :
    Calls Tryz.prog 75 #[.agg #[.int .i64 m, v, u], .int .i64 level] w (NewWindow (wetL false m l s level) w) := by
  have B0 := Lib.hid (Joins.below_alloc1 w (.cells #[.int .i64 m, v, u] 44))
  have CC := Lib.hid (windowsAtEnd_any false _ endLo m v u l s level _ (h.below B0.out) (h'.below B0.out))
  obtain ⟨A, c, rfl⟩ := h.at
  obtain ⟨A', c', rfl⟩ := h'.at
  clear h h'
  go_enter Tryz.func75, Tryz.ntmps75
  go_wp2_with fail
  refine CC.out.mono ?_
  intro e w3 hnew
  obtain ⟨v3, rfl, h1, h2⟩ := hnew
  have K1 := Lib.hid h1
  have K2 := Lib.hid h2
  obtain ⟨A3, c3, rfl⟩ := own_form h1
  clear h1 h2
  go_wp2
  go_ret
  exact ⟨_, rfl, own_lo K1.out B0.out.size, B0.out.trans (K2.out.mono B0.out.size)⟩
set_option maxHeartbeats 2000000 in
theorem implHighWindows (m : Int) (v u : Value) (l : List PartD) (s : List SurgeD) (level : Int) (w : World) (h : SlP w v l) (h' : SlSurge w u s) :
    Calls Tryz.prog 82 #[.agg #[.int .i64 m, v, u], .int .i64 level] w (NewWindow (wetL true m l s level) w) := by
  have B0 := Lib.hid (Joins.below_alloc1 w (.cells #[.int .i64 m, v, u] 44))
  have CC := Lib.hid (windowsAtEnd_any true _ endHi m v u l s level _ (h.below B0.out) (h'.below B0.out))
  obtain ⟨A, c, rfl⟩ := h.at
  obtain ⟨A', c', rfl⟩ := h'.at
  clear h h'
  go_enter Tryz.func82, Tryz.ntmps82
  go_wp2_with fail
  refine CC.out.mono ?_
  intro e w3 hnew
  obtain ⟨v3, rfl, h1, h2⟩ := hnew
  have K1 := Lib.hid h1
  have K2 := Lib.hid h2
  obtain ⟨A3, c3, rfl⟩ := own_form h1
  clear h1 h2
  go_wp2
  go_ret
  exact ⟨_, rfl, own_lo K1.out B0.out.size, B0.out.trans (K2.out.mono B0.out.size)⟩
/-- A list of marks that grows in a slot. -/
def GathM (w : World) (v : Value) (acc : List Bool) (wr : World) : Prop := wr.ownsRow w.heap.size 4 1 v acc.length (acc.map Value.bool) ∧ Below w.heap.size w wr
theorem GathM.made {w wr : World} (hb : Below w.heap.size w wr) : GathM w (.slice (some ⟨wr.heap.size, 0, none⟩) 0 0) [] (wr.alloc (.cells #[] 4)) :=
  ⟨⟨by simp, .inr ⟨wr.heap.size, 0, #[], rfl, hb.size, World.alloc_heap_new wr _, Nat.le_refl _, by omega, by simp, by simp⟩⟩, hb.alloc hb.size _⟩
theorem GathM.below {w wr W : World} {v : Value} {acc : List Bool} (h : GathM w v acc wr) (hb : Below wr.heap.size wr W) : GathM w v acc W := ⟨ownsRow_below h.1 hb, h.2.trans (hb.mono h.2.size)⟩
theorem GathM.next {w W w4 : World} {v : Value} {acc : List Bool} {b : Bool} {g4 cap4 : Nat} (h : GathM w v acc W)
    (hown : w4.ownsRow w.heap.size 4 1 (.slice (some ⟨g4, 0, none⟩) (acc.length + 1) cap4) (acc.length + 1) (acc.map Value.bool ++ [.bool b])) (hgr : W.grownBy w4 v.ownBlock) :
    GathM w (.slice (some ⟨g4, 0, none⟩) (acc.length + 1) cap4) (acc ++ [b]) w4 := by
  refine ⟨?_, h.2.grown hgr h.2.size (fun k hk => (World.ownsRow.lt h.1 k hk).1)⟩
  simpa using hown
theorem GathM.sl {w wr : World} {v : Value} {acc : List Bool} (h : GathM w v acc wr) (hl : acc.length ≤ 1000000000) : SlBool wr v acc := by
  refine own_sl (t := 4) (base := w.heap.size) boolLen ?_ hl
  unfold OwnOf
  rw [flat_bool]
  exact h.1
def rangeB (f : Nat → Bool) (k : Nat) : List Bool := (List.range k).map f
theorem rangeB_next (f : Nat → Bool) (k : Nat) : rangeB f (k + 1) = rangeB f k ++ [f k] := by unfold rangeB; rw [List.range_succ, List.map_append]; rfl
theorem rangeB_len (f : Nat → Bool) (k : Nat) : (rangeB f k).length = k := by simp [rangeB]
def sel (hi : Bool) (x : SurgeD) : Int := if hi = true then x.hi else x.lo
theorem wetF_at {hi : Bool} {m : Int} {l : List PartD} {s : List SurgeD} {level : Int} {k : Nat} (h : fcB m l s = true) (hk : k < 2881) : wetF hi m l s level k = decide (level ≤ levI m l (k : Int) + sel hi (atS s (k : Int))) := by
  unfold wetF endI sel
  rw [if_pos (sAt_mk h (decide_eq_true (by omega)))]
set_option maxHeartbeats 8000000 in
theorem l04Levels_any (hi : Bool) (m : Int) (v u : Value) (l : List PartD) (s : List SurgeD) (level : Int) (w : World) (h : SlP w v l) (h' : SlSurge w u s) (hok : fcB m l s = true) :
    Calls Tryz.prog 66 #[.agg #[.int .i64 m, v, u], .int .i64 level, .bool hi] w (NewWindow (ofMarks (wetF hi m l s level) 2881) w) := by
  obtain ⟨i0, hin, hz0, hzs, hz2⟩ := info_parts info_bool
  have HI := Lib.hid hin
  clear hin
  have hs0 : 0 < s.length := (fcB_true hok).2.1
  have HOK := Lib.hid hok
  have htide := (fcB_true hok).1
  have HTD := Lib.hid htide
  have H := Lib.hid h
  have H' := Lib.hid h'
  obtain ⟨A, c, rfl⟩ := h.at
  obtain ⟨A', c', rfl⟩ := h'.at
  have B0 := Lib.hid (Joins.below_alloc1 w (.cells #[.int .i64 m, .slice A l.length c, .slice A' s.length c'] 44))
  have X0 := Lib.hid (Blk.new w #[.int .i64 m, .slice A l.length c, .slice A' s.length c'] 44)
  clear h h' hok htide
  go_enter Tryz.func66, Tryz.ntmps66
  go_wp2
  have G0 := Lib.hid (GathM.made B0.out)
  have X1 := Lib.hid (X0.out.below (Joins.below_alloc1 _ (.cells #[] 4)))
  go_loopw [7, 8] (fun q p wr => ∃ k : Nat, k ≤ 2881 ∧ p = .int .i64 k ∧ Hid (GathM w q (rangeB (wetF hi m l s level) k) wr) ∧ Hid (Blk wr w.heap.size #[.int .i64 m, .slice A l.length c, .slice A' s.length c'] 44) ∧ Hid (q.ownBlock ≠ some w.heap.size)) (fun _ p _ => 2881 - (intOf p).toNat)
  case atStart => exact ⟨0, Nat.zero_le _, rfl, by simpa [rangeB] using G0, X1, Lib.hid (by simp [Value.ownBlock])⟩
  case round =>
    obtain ⟨k, hk, rfl, hG, hX, hN⟩ := hrel
    by_cases hlt : k < 2881
    rotate_left
    · obtain rfl : k = 2881 := by omega
      have CO := Lib.hid (l04Of_any _ _ wr (hG.out.sl (by rw [rangeB_len]; omega)) (by rw [rangeB_len]; omega))
      rw [show ofMarks (markF (rangeB (wetF hi m l s level) 2881)) (rangeB (wetF hi m l s level) 2881).length = ofMarks (wetF hi m l s level) 2881 from ofMarks_bits (wetF hi m l s level)] at CO
      have hsz := hG.out.2.size
      obtain ⟨A2, c2, rfl⟩ : ∃ A c, u7 = .slice A 2881 c := by
        rcases hG.out.1.2 with ⟨_, h0⟩ | ⟨g, cap, cur, e, _⟩
        · rw [rangeB_len] at h0; omega
        · rw [rangeB_len] at e; exact ⟨_, _, e⟩
      go_wp2_with fail
      refine CO.out.mono ?_
      rintro e w4 ⟨v4, rfl, h1, h2⟩
      have K1 := Lib.hid h1
      have K2 := Lib.hid h2
      obtain ⟨A3, c3, rfl⟩ := own_form h1
      clear h1 h2
      go_wp2
      go_ret
      exact ⟨_, rfl, own_lo K1.out hsz, hG.out.2.trans (K2.out.mono hsz)⟩
    · have EF := Lib.hid (rangeB_next (wetF hi m l s level) k)
      rw [wetF_at HOK.out hlt] at EF
      have hal := Nat.le_of_eq (rangeB_len (wetF hi m l s level) k)
      obtain ⟨acc, hacc⟩ : ∃ acc, rangeB (wetF hi m l s level) k = acc := ⟨_, rfl⟩
      rw [hacc] at hG hal EF
      clear hacc
      have hsz := hG.out.2.size
      have x0 : wr.cell? ⟨w.heap.size, 0, none⟩ = some (.int .i64 m) := hX.out.cell 0
      have x1 : wr.cell? ⟨w.heap.size, 1, none⟩ = some (.slice A l.length c) := hX.out.cell 1
      have x2 : wr.cell? ⟨w.heap.size, 2, none⟩ = some (.slice A' s.length c') := hX.out.cell 2
      have HT := Lib.hid (atS_ok (t := (k : Int)) hs0 (fcB_true HOK.out).2.2.2.2)
      have hfa := sAt_facts (sAt_mk (t := (k : Int)) HOK.out (decide_eq_true (by omega)))
      obtain ⟨_, _, _, f0, f1, f2, f3, f4⟩ := hfa
      obtain ⟨L, hL⟩ : ∃ L, levI m l (k : Int) = L := ⟨_, rfl⟩
      obtain ⟨z, hz⟩ : ∃ z, atS s (k : Int) = z := ⟨_, rfl⟩
      rw [hL, hz] at EF
      rw [hL] at f0 f1
      rw [hz] at f2 f3 f4
      have CS := Lib.hid (l03Surge_any m (.slice A l.length c) (.slice A' s.length c') l s (k : Int) wr (H.out.below hG.out.2) (H'.out.below hG.out.2) hs0)
      rw [hz] at CS
      have CL := Lib.hid (fun W hb => l02Level_any m (.slice A l.length c) l (k : Int) W (H.out.below hb) HTD.out (by omega) (by omega))
      rw [hL] at CL
      clear hL hz HT
      cases hi with
      | false =>
        go_wp2_with fail
        refine CS.out.mono ?_
        rintro e w1 ⟨rfl, hb1⟩
        have G1 := Lib.hid ((hG.out.below hb1).below (Joins.below_alloc1 w1 (.cells #[.int .i64 z.fr, .int .i64 z.lo, .int .i64 z.hi] 102)))
        have X2 := Lib.hid ((hX.out.below hb1).below (Joins.below_alloc1 w1 (.cells #[.int .i64 z.fr, .int .i64 z.lo, .int .i64 z.hi] 102)))
        have y0 : w1.cell? ⟨w.heap.size, 0, none⟩ = some (.int .i64 m) := (hX.out.below hb1).cell 0
        have y1 : w1.cell? ⟨w.heap.size, 1, none⟩ = some (.slice A l.length c) := (hX.out.below hb1).cell 1
        have hs1 := hb1.size
        have hlo1 : w.heap.size < w1.heap.size := by have := hX.out.lt; omega
        have hne1 : w.heap.size ≠ w1.heap.size := by omega
        clear hb1 x0 x1 x2
        go_wp2_with fail
        refine (CL.out _ G1.out.2).mono ?_
        rintro e w2 ⟨rfl, hb2⟩
        have G2 := Lib.hid (G1.out.below hb2)
        have X3 := Lib.hid (X2.out.below hb2)
        have hs2 : w1.heap.size < w2.heap.size := by have := hb2.size; simp at this; omega
        clear hb2 y0 y1
        rw [show sel false z = z.lo from rfl] at EF
        have GW := Lib.hid (G2.out.below (Joins.below_alloc1 w2 (.cells #[.bool (decide (level ≤ L + z.lo))] 4)))
        have X4 := Lib.hid (X3.out.below (Joins.below_alloc1 w2 (.cells #[.bool (decide (level ≤ L + z.lo))] 4)))
        have HN := Lib.hid (World.news_of_block (World.alloc_heap_new w2 (.cells #[.bool (decide (level ≤ L + z.lo))] 4)))
        go_wp2_with (at_builtin; refine wpList_append_lies _ rfl _ _ _ rfl w.heap.size 4 i0 _ 1 1 Tryz.underlying131 HI.out hz0 (by assumption) hz2 rfl (by omega) u7 acc.length (acc.map Value.bool) rfl GW.out.1 ⟨w2.heap.size, 0, none⟩ 1 1 [.bool (decide (level ≤ L + z.lo))] (by first | rfl | simp) rfl (by simpa using HN.out) (by simp [Value.oneCell']) (by omega) (by unfold maxLen; omega) (by omega) (by simp; omega) _ rfl ?_; intro g4 cap4 w4 hown4 hgrow4 hor4 hlt4; have GX := Lib.hid (GW.out.next hown4 hgrow4); have XX := Lib.hid (X4.out.grown hgrow4 (fun e => hN.out e.symm)); have NX := Lib.hid (show (Value.slice (some ⟨g4, 0, none⟩) (acc.length + 1) cap4).ownBlock ≠ some w.heap.size from fun e => by rcases hor4 with ho | ho; exact hN.out (by rw [ho]; exact e); (have e' : g4 = w.heap.size := by simpa [Value.ownBlock] using e); simp at ho; omega); clear hown4 hgrow4 hor4 hlt4)
        go_roundw
        case rel => exact ⟨k + 1, by omega, by go_num, by rw [EF.out]; exact GX, XX, NX⟩
        case measure => simp [intOf]; omega
      | true =>
        go_wp2_with fail
        refine CS.out.mono ?_
        rintro e w1 ⟨rfl, hb1⟩
        have G1 := Lib.hid ((hG.out.below hb1).below (Joins.below_alloc1 w1 (.cells #[.int .i64 z.fr, .int .i64 z.lo, .int .i64 z.hi] 102)))
        have X2 := Lib.hid ((hX.out.below hb1).below (Joins.below_alloc1 w1 (.cells #[.int .i64 z.fr, .int .i64 z.lo, .int .i64 z.hi] 102)))
        have y0 : w1.cell? ⟨w.heap.size, 0, none⟩ = some (.int .i64 m) := (hX.out.below hb1).cell 0
        have y1 : w1.cell? ⟨w.heap.size, 1, none⟩ = some (.slice A l.length c) := (hX.out.below hb1).cell 1
        have hs1 := hb1.size
        have hlo1 : w.heap.size < w1.heap.size := by have := hX.out.lt; omega
        have hne1 : w.heap.size ≠ w1.heap.size := by omega
        clear hb1 x0 x1 x2
        go_wp2_with fail
        refine (CL.out _ G1.out.2).mono ?_
        rintro e w2 ⟨rfl, hb2⟩
        have G2 := Lib.hid (G1.out.below hb2)
        have X3 := Lib.hid (X2.out.below hb2)
        have hs2 : w1.heap.size < w2.heap.size := by have := hb2.size; simp at this; omega
        clear hb2 y0 y1
        rw [show sel true z = z.hi from rfl] at EF
        have GW := Lib.hid (G2.out.below (Joins.below_alloc1 w2 (.cells #[.bool (decide (level ≤ L + z.hi))] 4)))
        have X4 := Lib.hid (X3.out.below (Joins.below_alloc1 w2 (.cells #[.bool (decide (level ≤ L + z.hi))] 4)))
        have HN := Lib.hid (World.news_of_block (World.alloc_heap_new w2 (.cells #[.bool (decide (level ≤ L + z.hi))] 4)))
        go_wp2_with (at_builtin; refine wpList_append_lies _ rfl _ _ _ rfl w.heap.size 4 i0 _ 1 1 Tryz.underlying131 HI.out hz0 (by assumption) hz2 rfl (by omega) u7 acc.length (acc.map Value.bool) rfl GW.out.1 ⟨w2.heap.size, 0, none⟩ 1 1 [.bool (decide (level ≤ L + z.hi))] (by first | rfl | simp) rfl (by simpa using HN.out) (by simp [Value.oneCell']) (by omega) (by unfold maxLen; omega) (by omega) (by simp; omega) _ rfl ?_; intro g4 cap4 w4 hown4 hgrow4 hor4 hlt4; have GX := Lib.hid (GW.out.next hown4 hgrow4); have XX := Lib.hid (X4.out.grown hgrow4 (fun e => hN.out e.symm)); have NX := Lib.hid (show (Value.slice (some ⟨g4, 0, none⟩) (acc.length + 1) cap4).ownBlock ≠ some w.heap.size from fun e => by rcases hor4 with ho | ho; exact hN.out (by rw [ho]; exact e); (have e' : g4 = w.heap.size := by simpa [Value.ownBlock] using e); simp at ho; omega); clear hown4 hgrow4 hor4 hlt4)
        go_roundw
        case rel => exact ⟨k + 1, by omega, by go_num, by rw [EF.out]; exact GX, XX, NX⟩
        case measure => simp [intOf]; omega
end Go.Proofs.YtpimcbhjkednpaaGreat
namespace Go.Proofs.YtpimcbhjkednpaaGreat
open Go.ChangeShapes Go.WideShapes Go.ChangeAt Go.Deep Go.RowKit
set_option maxRecDepth 100000
section
variable {H : Type} {enc : TypeId × Value → H} {w : World} {base : Nat} {held : Bool}
theorem dec_fc (n : Nat) (cs : List Value) (y : DataW H × List MemPlace) (h : DataW.trod enc Tryz.prog w base (fun _ => true) held n 27 cs = some y) :
    ∃ m A c l A' c' s, cs = [.int .i64 m, .slice A l.length c, .slice A' s.length c'] ∧ FcIn w m A c l A' c' s := by
  obtain ⟨xs, n1, _, _, hlen, hxl, hf⟩ := DataW.trod_struct Tryz.underlying27 h
  rw [show Tryz.prog.cellsOf 27 = 3 by kernel_rfl] at hlen
  match cs, hlen with
  | [c0, c1, c2], _ =>
    have h0 : DataW.trod enc Tryz.prog w base (fun _ => true) held n1 24 (([c0, c1, c2].drop 0).take (Tryz.prog.cellsOf 24)) = xs[0]? := hf 0 _ rfl
    have h1 : DataW.trod enc Tryz.prog w base (fun _ => true) held n1 25 (([c0, c1, c2].drop 2).take (Tryz.prog.cellsOf 25)) = xs[1]? := hf 1 _ rfl
    obtain ⟨x0, hx0⟩ : ∃ x, xs[0]? = some x := ⟨_, List.getElem?_eq_getElem (by rw [hxl]; decide)⟩
    obtain ⟨x1, hx1⟩ : ∃ x, xs[1]? = some x := ⟨_, List.getElem?_eq_getElem (by rw [hxl]; decide)⟩
    rw [hx0] at h0
    rw [hx1] at h1
    rw [show Tryz.prog.cellsOf 24 = 2 by kernel_rfl] at h0
    rw [show Tryz.prog.cellsOf 25 = 1 by kernel_rfl] at h1
    obtain ⟨_, g0⟩ := struct_cells Tryz.underlying24 (by kernel_rfl) (by kernel_rfl) h0
    obtain ⟨v0, n2, y0, e0, k0⟩ := g0 0 _ rfl
    obtain ⟨v1, n3, y1, e1, k1⟩ := g0 1 _ rfl
    simp at e0 e1
    subst e0 e1
    obtain ⟨m, hm, _, wm⟩ := DataW.trod_int Tryz.underlying3 k0
    simp only [List.cons.injEq, and_true] at hm
    subst hm
    obtain ⟨A, c, l, rfl, gl⟩ := open_parts k1
    obtain ⟨A', c', s, hs, gs⟩ := open_surges (v := c2) h1
    subst hs
    exact ⟨m, A, c, l, A', c', s, rfl, wm, gl.1, gs.1, gl.2.1, gs.2.1, gl.2.2, gs.2.2⟩
theorem open_fc_arg {r : Reach} {b0 : Nat} {v : Value} {d : DataW H} {ps : List MemPlace} (hval : Value.okWide Tryz.prog w r b0 27 v) (hd : DataW.Trod enc Tryz.prog w 0 (fun _ => true) true 27 v d ps) :
    ∃ m A c l A' c' s, v = .agg #[.int .i64 m, .slice A l.length c, .slice A' s.length c'] ∧ FcIn w m A c l A' c' s := by
  obtain ⟨cs, rfl, hsz⟩ := okWide_struct Tryz.underlying27 hval
  obtain ⟨fuel, hf⟩ := hd
  obtain ⟨m, A, c, l, A', c', s, hp, g⟩ := dec_fc _ _ _ hf
  refine ⟨m, A, c, l, A', c', s, ?_, g⟩
  obtain ⟨ls⟩ := cs
  simp [Value.cells] at hp
  rw [hp]
end
end Go.Proofs.YtpimcbhjkednpaaGreat
namespace Go.Proofs.YtpimcbhjkednpaaGreat
open Go.ChangeShapes Go.WideShapes Go.ChangeAt Go.Deep Go.RowKit
set_option maxRecDepth 100000
set_option maxHeartbeats 1000000 in
theorem markPartS_any (v : Value) (l : List PartD) (k : Int) (w : World) (h : SlP w v l) (hfz : ∀ g, v.ownBlock = some g → ∀ j, w.frozen? ⟨g, j, none⟩ = false) (h0 : 0 ≤ k) (h1 : k ≤ 100000000) (h2 : l.length ≤ 10000000) :
    Calls Tryz.prog 80 #[v, .int .i64 k] w fun e w' => e = .returned (.int .i64 (k + (l.length : Int) * 3)) ∧ Marked w' v (l.length * 3) k ∧ w.grownBy w' v.ownBlock := by
  obtain ⟨hl, h⟩ := h
  rcases h with ⟨rfl, A, c, rfl⟩ | ⟨g, o, c, rfl, hp, hcap, hc⟩
  · go_enter Tryz.func80, Tryz.ntmps80
    go_wp2
    refine wp_loop_rounds 1 ?_
    rw [rounds_succ]
    go_wp2
    go_ret
    exact ⟨ret_int (by simp), .inl (by simp), World.grownBy.refl _ _⟩
  · have hs : MarkRow w g o (l.length * 3) k (0 * 3) w := MarkRow.start (ints_of (fun x : PartD => [x.amp, x.per, x.pha]) (fun x => rfl) (by omega) partLen hc) (fun j => hfz g rfl j)
    have HS := Lib.hid hs
    clear hs hc hfz
    go_enter Tryz.func80, Tryz.ntmps80
    go_wp2
    go_loopw [1, 5] (fun q i wr => ∃ j : Nat, j ≤ l.length ∧ i = .int .i64 j ∧ q = .int .i64 (k + (j : Int) * 3) ∧ Hid (MarkRow w g o (l.length * 3) k (j * 3) wr)) (fun _ i _ => l.length - (intOf i).toNat)
    case atStart => exact ⟨0, Nat.zero_le _, rfl, by simp, HS⟩
    case round =>
      obtain ⟨j, hj, rfl, rfl, hM⟩ := hrel
      by_cases hlt : j < l.length
      · have fz := hM.out.2.2.2
        obtain ⟨x0, c0⟩ := hM.out.read (j * 3 + 0) (by omega) (by omega) (o + j * 3) (by omega)
        have f0 := fz (o + j * 3)
        have M0 := hM.out.next' (by omega) (o + j * 3) (by omega) (k + (j : Int) * 3) (by omega) (j * 3 + 1) rfl
        obtain ⟨x1, c1⟩ := hM.out.read (j * 3 + 1) (by omega) (by omega) (o + j * 3 + 1) (by omega)
        have f1 := fz (o + j * 3 + 1)
        have M1 := M0.next' (by omega) (o + j * 3 + 1) (by omega) (k + (j : Int) * 3 + 1) (by omega) (j * 3 + 2) rfl
        obtain ⟨x2, c2⟩ := hM.out.read (j * 3 + 2) (by omega) (by omega) (o + j * 3 + 2) (by omega)
        have f2 := fz (o + j * 3 + 2)
        have M2 := M1.next' (by omega) (o + j * 3 + 2) (by omega) (k + (j : Int) * 3 + 1 + 1) (by omega) (j * 3 + 3) rfl
        have HM := Lib.hid M2
        clear fz M0 M1 M2
        go_wp2
        go_roundw
        case rel =>
          refine ⟨j + 1, by omega, by go_num, ?_, ?_⟩
          · congr 1; omega
          · rw [show (j + 1) * 3 = j * 3 + 3 by omega]; exact HM
        case measure => simp [intOf]; omega
      · go_wp2
        go_ret
        obtain rfl : j = l.length := by omega
        exact ⟨rfl, .inr ⟨g, o, l.length, c, rfl, hM.out.2.1⟩, hM.out.1⟩
end Go.Proofs.YtpimcbhjkednpaaGreat
namespace Go.Proofs.YtpimcbhjkednpaaGreat
open Go.RowKit
set_option maxRecDepth 100000
def Free (w : World) (v : Value) : Prop := ∀ g, v.ownBlock = some g → ∀ j, w.frozen? ⟨g, j, none⟩ = false
theorem Free.below {w w' : World} {v : Value} (h : Free w v) (hl : ∀ g, v.ownBlock = some g → g < w.heap.size) (hb : Below w.heap.size w w') : Free w' v := fun g hg j => (hb.frozen (p := ⟨g, j, none⟩) (hl g hg)).trans (h g hg j)
theorem markTide_any (m : Int) (v : Value) (l : List PartD) (k : Int) (w : World) (h : SlP w v l) (hfz : Free w v) (hlt : ∀ g, v.ownBlock = some g → g < w.heap.size) (h0 : 0 ≤ k) (h1 : k ≤ 100000000) (h2 : l.length ≤ 10000000) :
    Calls Tryz.prog 47 #[.agg #[.int .i64 m, v], .int .i64 k] w fun e w' => e = .returned (.int .i64 (k + (l.length : Int) * 3)) ∧ Marked w' v (l.length * 3) k ∧ w.grownBy w' v.ownBlock := by
  have hal := Joins.below_alloc1 w (.cells #[.int .i64 m, v] 41)
  have C := Lib.hid (markPartS_any v l k (w.alloc (.cells #[.int .i64 m, v] 41)) (h.below hal) (hfz.below hlt hal) h0 h1 h2)
  have HAL := Lib.hid hal
  obtain ⟨A, c, rfl⟩ := h.at
  clear hal h hfz hlt
  go_enter Tryz.func47, Tryz.ntmps47
  go_wp2_with fail
  refine C.out.mono ?_
  rintro e w1 ⟨rfl, hm, hg⟩
  go_wp2
  go_ret
  exact ⟨rfl, hm, (grown_of_below HAL.out _).trans hg⟩
/-- What markForecast leaves. -/
def MarkF (v u : Value) (a b : Nat) (k : Int) (w : World) (e : Ending) (w' : World) : Prop :=
  e = .returned (.int .i64 (k + (a : Int) * 3 + (b : Int) * 3)) ∧ Marked w' v (a * 3) k ∧ Marked w' u (b * 3) (k + (a : Int) * 3) ∧ ∃ w1, w.grownBy w1 v.ownBlock ∧ w1.grownBy w' u.ownBlock
theorem SlSurge.grownS {w w' : World} {v : Value} {l : List SurgeD} {row : Option Nat} (h : SlSurge w v l) (hg : w.grownBy w' row) (hne : v.ownBlock = none ∨ v.ownBlock ≠ row) : SlSurge w' v l := SlOf.grown h hg hne
theorem SlP.grownS {w w' : World} {v : Value} {l : List PartD} {row : Option Nat} (h : SlP w v l) (hg : w.grownBy w' row) (hne : v.ownBlock = none ∨ v.ownBlock ≠ row) : SlP w' v l := SlOf.grown h hg hne
theorem apart_ne {v u : Value} (h : Apart v u) : (u.ownBlock = none ∨ u.ownBlock ≠ v.ownBlock) ∧ (v.ownBlock = none ∨ v.ownBlock ≠ u.ownBlock) := by
  cases hv : v.ownBlock with
  | none => exact ⟨by cases hu : u.ownBlock with | none => exact .inl rfl | some g => exact .inr (by simp), .inl rfl⟩
  | some g => exact ⟨.inr (h g hv), .inr (fun e => h g hv e.symm)⟩
theorem Free.grownS {w w' : World} {v : Value} {row : Option Nat} (h : Free w v) (hl : ∀ g, v.ownBlock = some g → g < w.heap.size) (hg : w.grownBy w' row) (hne : v.ownBlock = none ∨ v.ownBlock ≠ row) : Free w' v := fun g hgv j => by
  have e := hg.block g (hl g hgv) (fun e => by
    rcases hne with hn | hn
    · rw [hgv] at hn; cases hn
    · exact hn (hgv.trans e))
  have := h g hgv j
  simpa [World.frozen?, e] using this
set_option maxHeartbeats 1000000 in
theorem markForecast_any (m : Int) (v u : Value) (l : List PartD) (s : List SurgeD) (k : Int) (w : World) (h : SlP w v l) (h' : SlSurge w u s) (ha : Apart v u) (hfz : Free w v) (hfz' : Free w u) (hlt : ∀ g, v.ownBlock = some g → g < w.heap.size) (hlt' : ∀ g, u.ownBlock = some g → g < w.heap.size) (h0 : 0 ≤ k) (h1 : k ≤ 1000) (h2 : l.length ≤ 10000000) (h3 : s.length ≤ 10000000) :
    Calls Tryz.prog 19 #[.agg #[.int .i64 m, v, u], .int .i64 k] w (MarkF v u l.length s.length k w) := by
  obtain ⟨n1, n2⟩ := apart_ne ha
  have hal := Joins.below_alloc1 w (.cells #[.int .i64 m, v, u] 44)
  have C := Lib.hid (markTide_any m v l k (w.alloc (.cells #[.int .i64 m, v, u] 44)) (h.below hal) (hfz.below hlt hal) (fun g hg => Nat.lt_of_lt_of_le (hlt g hg) hal.size) h0 (by omega) h2)
  have C2 : ∀ w1, (w.alloc (.cells #[.int .i64 m, v, u] 44)).grownBy w1 v.ownBlock → Hid (Calls Tryz.prog 48 #[u, .int .i64 (k + (l.length : Int) * 3)] w1 fun e w' => e = .returned (.int .i64 (k + (l.length : Int) * 3 + (s.length : Int) * 3)) ∧ Marked w' u (s.length * 3) (k + (l.length : Int) * 3) ∧ w1.grownBy w' u.ownBlock) := fun w1 hg =>
    Lib.hid (markSurgeS_any u s (k + (l.length : Int) * 3) w1 ((h'.below hal).grownS hg n1) ((hfz'.below hlt' hal).grownS (fun g hg => Nat.lt_of_lt_of_le (hlt' g hg) hal.size) hg n1) (by omega) (by omega) h3)
  have B0 := Blk.new w #[.int .i64 m, v, u] 44
  have X : ∀ w1, (w.alloc (.cells #[.int .i64 m, v, u] 44)).grownBy w1 v.ownBlock → w1.cell? ⟨w.heap.size, 2, none⟩ = some u := fun w1 hg => (B0.grown hg (fun e => by have := hlt _ e.symm; omega)).cell 2
  have HX := Lib.hid X
  have HAL := Lib.hid hal
  have N2 := Lib.hid n2
  obtain ⟨A, c, rfl⟩ := h.at
  obtain ⟨A', c', rfl⟩ := h'.at
  clear hal h hfz hlt h' hfz' hlt' n1 n2 B0 X ha
  go_enter Tryz.func19, Tryz.ntmps19
  go_wp2_with fail
  refine C.out.mono ?_
  rintro e w1 ⟨rfl, hm, hg⟩
  have C3 := C2 w1 hg
  have hx := HX.out w1 hg
  have HM := Lib.hid hm
  have HG := Lib.hid hg
  clear C C2 hm hg
  go_wp2_with fail
  refine C3.out.mono ?_
  rintro e w2 ⟨rfl, hm2, hg2⟩
  have HM2 := Lib.hid hm2
  have HG2 := Lib.hid hg2
  clear hm2 hg2 hx
  go_wp2
  go_ret
  exact ⟨rfl, HM.out.grown HG2.out N2.out, HM2.out, w1, (grown_of_below HAL.out _).trans HG.out, HG2.out⟩
end Go.Proofs.YtpimcbhjkednpaaGreat
namespace Go.Proofs.YtpimcbhjkednpaaGreat
open Go.ChangeShapes Go.WideShapes Go.ChangeAt Go.Deep Go.RowKit
set_option maxRecDepth 100000
structure ForecastD where
  mean : Int
  parts : List PartD
  surges : List SurgeD
def SlPart : World → Value → List PartD → Prop := SlP
def OwnPart : World → Nat → Value → List PartD → Prop := OwnP
theorem OwnPart.sl {w : World} {base : Nat} {v : Value} {l : List PartD} (h : OwnPart w base v l) (hl : l.length ≤ 1000000000) : SlPart w v l := OwnP.sl h hl
def RdForecast (w : World) (v0 v1 : Value) (d : ForecastD) : Prop := SlP w v0 d.parts ∧ SlSurge w v1 d.surges
theorem RdForecast.below {w w' : World} {v0 v1 : Value} {d : ForecastD} (h : RdForecast w v0 v1 d) (hb : Below w.heap.size w w') : RdForecast w' v0 v1 d := ⟨h.1.below hb, h.2.below hb⟩
def NewForecast (d : ForecastD) (w : World) (e : Ending) (w' : World) : Prop :=
  ∃ v0 v1, e = .returned (.agg #[.int .i64 d.mean, v0, v1]) ∧ OwnPart w' w.heap.size v0 d.parts ∧ OwnSurge w' w.heap.size v1 d.surges ∧ ApartV v0 v1 ∧ Below w.heap.size w w'
theorem toForecastC_any (v0 v1 : Value) (d : ForecastD) (w : World) (h : RdForecast w v0 v1 d) :
    Calls Tryz.prog 12 #[.agg #[.int .i64 d.mean, v0, v1]] w (NewForecast d w) :=
  (toForecast_any d.mean v0 v1 d.parts d.surges w h.1 h.2).mono fun _ _ hN => hN
def bulkForecast (d : ForecastD) : Int := (d.parts.length : Int) + (d.surges.length : Int)
theorem bulkForecast_pos (d : ForecastD) : 0 ≤ bulkForecast d := by unfold bulkForecast; omega
theorem bulkForecast_le (d : ForecastD) : (d.parts.length : Int) ≤ bulkForecast d ∧ (d.surges.length : Int) ≤ bulkForecast d := by unfold bulkForecast; omega
def SizForecast (w : World) (A0 A1 : Option Addr) (c0 c1 : Nat) (d : ForecastD) : Prop := d.parts.length ≤ 9223372036854775807 ∧ (d.parts.length ≤ 1000000000 → SlPart w (.slice A0 d.parts.length c0) d.parts) ∧ (∀ x ∈ d.parts, PartD.wf x) ∧ d.surges.length ≤ 9223372036854775807 ∧ (d.surges.length ≤ 1000000000 → SlSurge w (.slice A1 d.surges.length c1) d.surges) ∧ (∀ x ∈ d.surges, SurgeD.wf x)
theorem SizForecast.below {w w' : World} {A0 A1 : Option Addr} {c0 c1 : Nat} {d : ForecastD} (h : SizForecast w A0 A1 c0 c1 d) (hb : Below w.heap.size w w') : SizForecast w' A0 A1 c0 c1 d := by
  obtain ⟨l0, s0, f0, l1, s1, f1⟩ := h
  exact ⟨l0, fun h => SlOf.below (s0 h) hb, f0, l1, fun h => (s1 h).below hb, f1⟩
set_option maxHeartbeats 1000000 in
theorem szForecastC_any (A0 A1 : Option Addr) (c0 c1 : Nat) (d : ForecastD) (w : World) (h : SizForecast w A0 A1 c0 c1 d) (lim : Int) (h0 : 0 ≤ lim) (h1 : lim ≤ 1048576) :
    Calls Tryz.prog 8 #[.agg #[.int .i64 d.mean, .slice A0 d.parts.length c0, .slice A1 d.surges.length c1], .int .i64 lim] w fun e w' => e = .returned (.int .i64 (leftOf lim (bulkForecast d))) ∧ Below w.heap.size w w' := by
  obtain ⟨hn, -, -, hn', -, -⟩ := h
  obtain ⟨m, l, s⟩ := d
  obtain ⟨r, hr⟩ : ∃ r, leftOf lim (bulkForecast ⟨m, l, s⟩) = r := ⟨_, rfl⟩
  rw [hr]
  dsimp only at hn hn' ⊢
  obtain ⟨n, hnl⟩ : ∃ n, l.length = n := ⟨_, rfl⟩
  obtain ⟨n', hnl'⟩ : ∃ n', s.length = n' := ⟨_, rfl⟩
  rw [show bulkForecast ⟨m, l, s⟩ = (n : Int) + (n' : Int) by unfold bulkForecast; rw [← hnl, ← hnl']] at hr
  rw [hnl] at hn ⊢
  rw [hnl'] at hn' ⊢
  clear hnl hnl'
  have HR := Lib.hid hr
  clear hr
  have C := fun W => Lib.hid (szTide_any m A0 n c0 W hn lim h0 h1)
  by_cases hlt : lim < (n : Int)
  · rw [if_pos hlt] at C
    have E := Lib.hid (show r = -1 by rw [← HR.out]; exact leftOf_no (by omega))
    clear HR
    go_enter Tryz.func8, Tryz.ntmps8
    go_wp2_with fail
    refine (C _).out.mono ?_
    rintro e w1 ⟨rfl, hb1⟩
    clear C
    go_wp2
    go_ret
    exact ⟨ret_int E.out.symm, (Joins.below_alloc1 _ _).trans (hb1.mono (by simp))⟩
  · rw [if_neg hlt] at C
    have C' := fun W => Lib.hid (szSurgeS_any A1 n' c1 W hn' (lim - (n : Int)) (by omega) (by omega))
    have hz : ¬ lim - (n : Int) < 0 := by omega
    by_cases hlt' : lim - (n : Int) < (n' : Int)
    · rw [if_pos hlt'] at C'
      have E := Lib.hid (show r = -1 by rw [← HR.out]; exact leftOf_no (by omega))
      clear HR
      go_enter Tryz.func8, Tryz.ntmps8
      go_wp2_with fail
      refine (C _).out.mono ?_
      rintro e w1 ⟨rfl, hb1⟩
      obtain ⟨hc, hf⟩ := bcell hb1
      go_wp2_with fail
      refine (C' _).out.mono ?_
      rintro e w2 ⟨rfl, rfl⟩
      clear C C'
      go_wp2
      go_ret
      exact ⟨ret_int E.out.symm, (Joins.below_alloc1 _ _).trans (hb1.mono (by simp))⟩
    · rw [if_neg hlt'] at C'
      have E := Lib.hid (show r = lim - (n : Int) - (n' : Int) by rw [← HR.out, leftOf_yes (by omega)]; omega)
      have hz' : ¬ lim - (n : Int) - (n' : Int) < 0 := by omega
      clear HR
      go_enter Tryz.func8, Tryz.ntmps8
      go_wp2_with fail
      refine (C _).out.mono ?_
      rintro e w1 ⟨rfl, hb1⟩
      obtain ⟨hc, hf⟩ := bcell hb1
      go_wp2_with fail
      refine (C' _).out.mono ?_
      rintro e w2 ⟨rfl, rfl⟩
      clear C C'
      go_wp2
      go_ret
      exact ⟨ret_int E.out.symm, (Joins.below_alloc1 _ _).trans (hb1.mono (by simp))⟩
theorem eqForecastC_same (va0 va1 vb0 vb1 : Value) (d : ForecastD) (w : World) (ha : RdForecast w va0 va1 d) (hb : RdForecast w vb0 vb1 d) :
    Calls Tryz.prog 17 #[.agg #[.int .i64 d.mean, va0, va1], .agg #[.int .i64 d.mean, vb0, vb1]] w fun e w' => e = .returned (.bool true) ∧ Below w.heap.size w w' :=
  eqForecast_same d.mean va0 va1 vb0 vb1 d.parts d.surges w ha.1 ha.2 hb.1 hb.2
theorem markForecastC_any (v0 v1 : Value) (d : ForecastD) (k : Int) (a b : Nat) (w : World) (h : RdForecast w v0 v1 d) (f0 : FreeV w v0) (f1 : FreeV w v1) (r0 : RangeV v0 a b) (r1 : RangeV v1 a b) (p0_1 : ApartV v0 v1) (h0 : 0 ≤ k) (h1 : k ≤ 1000) (l0 : d.parts.length ≤ 10000000) (l1 : d.surges.length ≤ 10000000) :
    Calls Tryz.prog 19 #[.agg #[.int .i64 d.mean, v0, v1], .int .i64 k] w fun e w' => e = .returned (.int .i64 (k + (d.parts.length : Int) * 3 + (d.surges.length : Int) * 3)) ∧ Marked w' v0 (d.parts.length * 3) k ∧ Marked w' v1 (d.surges.length * 3) (k + (d.parts.length : Int) * 3) ∧ TouchR w w' a b :=
  (markForecast_any d.mean v0 v1 d.parts d.surges k w h.1 h.2 p0_1 (fun g hg => (f0 g hg).1) (fun g hg => (f1 g hg).1) (fun g hg => (f0 g hg).2) (fun g hg => (f1 g hg).2) h0 h1 l0 l1).mono
    fun _ _ ⟨he, m0, m1, _, g0, g1⟩ => ⟨he, m0, m1, (touch_grown g0 r0).trans (touch_grown g1 r1)⟩
def ForecastBox (w : World) (b : Nat) (v0 v1 : Value) (d : ForecastD) : Prop := w.cell? ⟨b, 0, none⟩ = some (.int .i64 d.mean) ∧ w.cell? ⟨b, 1, none⟩ = some (v0) ∧ w.cell? ⟨b, 2, none⟩ = some (v1) ∧ RdForecast w v0 v1 d
theorem ForecastBox.below {w w' : World} {b : Nat} {v0 v1 : Value} {d : ForecastD} (h : ForecastBox w b v0 v1 d) (hb : Below w.heap.size w w') : ForecastBox w' b v0 v1 d := by
  obtain ⟨h0, h1, h2, hr⟩ := h
  exact ⟨cell_onV h0 hb, cell_onV h1 hb, cell_onV h2 hb, hr.below hb⟩
theorem ForecastBox.new {w : World} {v0 v1 : Value} {d : ForecastD} (t : TypeId) (h : RdForecast w v0 v1 d) : ForecastBox (w.alloc (.cells #[.int .i64 d.mean, v0, v1] t)) w.heap.size v0 v1 d := by
  refine ⟨?_, ?_, ?_, h.below (Joins.below_alloc1 _ _)⟩
  all_goals (rw [World.cell?_alloc_at _ _ _ _ rfl]; rfl)
theorem NewForecast.rd {d : ForecastD} {w w' : World} {e : Ending} (h : NewForecast d w e w') (hl0 : d.parts.length ≤ 1000000000) (hl1 : d.surges.length ≤ 1000000000) :
    ∃ A0 c0 A1 c1, e = .returned (.agg #[.int .i64 d.mean, .slice A0 d.parts.length c0, .slice A1 d.surges.length c1]) ∧ RdForecast w' (.slice A0 d.parts.length c0) (.slice A1 d.surges.length c1) d ∧ Below w.heap.size w w' := by
  obtain ⟨v0, v1, rfl, o0, o1, _, hb⟩ := h
  have s0 := OwnPart.sl o0 hl0
  obtain ⟨A0, c0, rfl⟩ := own_form o0
  have s1 := own_sl surgeLen o1 hl1
  obtain ⟨A1, c1, rfl⟩ := own_form o1
  exact ⟨A0, c0, A1, c1, rfl, ⟨s0, s1⟩, hb⟩
section
variable {H : Type} {enc : TypeId × Value → H} {w : World} {base : Nat} {spare : Nat → Bool} {held : Bool}
def ForecastIn (w : World) (A0 A1 : Option Addr) (c0 c1 : Nat) (d : ForecastD) : Prop := (Lit.int .i64 d.mean).wf = true ∧ SizForecast w A0 A1 c0 c1 d
theorem open_forecast_arg {r : Reach} {b0 : Nat} {v : Value} {y : DataW H} {ps : List MemPlace} (hval : Value.okWide Tryz.prog w r b0 27 v) (hd : DataW.Trod enc Tryz.prog w 0 (fun _ => true) true 27 v y ps) :
    ∃ A0 c0 A1 c1 d, v = .agg #[.int .i64 d.mean, .slice A0 d.parts.length c0, .slice A1 d.surges.length c1] ∧ ForecastIn w A0 A1 c0 c1 d := by
  obtain ⟨m, A, c, l, A', c', s, hv, h1, h2, h3, h4, h5, h6, h7⟩ := open_fc_arg hval hd
  unfold maxLen at h2 h3
  exact ⟨A, c, A', c', ⟨m, l, s⟩, hv, h1, by show l.length ≤ _; omega, h4, h6, by show s.length ≤ _; omega, h5, h7⟩
end
end Go.Proofs.YtpimcbhjkednpaaGreat
namespace Go.Proofs.YtpimcbhjkednpaaGreat
set_option maxRecDepth 100000
def needI (s : ShipD) : Int := if shipB s = true then s.draught + squatI s + 50 else 0
theorem needI_bad {s : ShipD} (h : shipB s = false) : needI s = 0 := if_neg (by rw [h]; simp)
theorem needI_ok {s : ShipD} (h : shipB s = true) : needI s = s.draught + squatI s + 50 := if_pos h
theorem squat_bnd {s : ShipD} (h : shipB s = true) : 0 ≤ squatI s ∧ squatI s ≤ 100 := by
  obtain ⟨-, -, -, d0, d1, -⟩ := shipB_true h
  unfold squatI
  rw [if_pos h]
  split
  · rw [Int.tdiv_eq_ediv_of_nonneg (by omega)]; omega
  · rw [Int.tdiv_eq_ediv_of_nonneg (by omega)]; omega
def levForI (d : ChartD) (i : Int) (s : ShipD) : Int := if sailB d i s = true then (match segAt d i with | some g => needI s - g.depth | none => 0) else 0
theorem levForI_bad {d : ChartD} {i : Int} {s : ShipD} (h : sailB d i s = false) : levForI d i s = 0 := if_neg (by rw [h]; simp)
theorem levForI_ok {d : ChartD} {i : Int} {s : ShipD} {g : SegmentD} (h : sailB d i s = true) (hg : segAt d i = some g) : levForI d i s = needI s - g.depth := by unfold levForI; rw [if_pos h, hg]
theorem levFor_bnd (d : ChartD) (i : Int) (s : ShipD) : -3000 ≤ levForI d i s ∧ levForI d i s ≤ 2150 := by
  cases h : sailB d i s with
  | false => rw [levForI_bad h]; omega
  | true =>
    obtain ⟨h1, h2, g, hg, _, _, _, hs⟩ := sailB_true h
    obtain ⟨-, -, -, d0, d1, -⟩ := shipB_true h2
    have := squat_bnd h2
    obtain ⟨-, -, -, -, -, q0, q1, -⟩ := segB_true hs
    rw [levForI_ok h hg, needI_ok h2]
    omega
/-- The minutes on the segment: from 1 to 480 where all is valid. -/
theorem minOn_bnd {d : ChartD} {i : Int} {s : ShipD} (h : sailB d i s = true) : 1 ≤ minOn d i s ∧ minOn d i s ≤ 480 := by
  obtain ⟨h1, h2, g, hg, _, _, _, hs⟩ := sailB_true h
  obtain ⟨-, -, -, -, -, -, -, m0, m1⟩ := segB_true hs
  rw [minOn_ok h1 h2 hg]
  unfold onMin
  split <;> omega
/-- The starts: sure ones at the lower end of the band, open ones at the upper end. -/
def startsL (hi : Bool) (f : ForecastD) (d : ChartD) (i : Int) (s : ShipD) : List WindowD := if fcB f.mean f.parts f.surges = true ∧ sailB d i s = true then shrinkL (wetL hi f.mean f.parts f.surges (levForI d i s)) (minOn d i s) else []
theorem startsL_bad {hi : Bool} {f : ForecastD} {d : ChartD} {i : Int} {s : ShipD} (h : fcB f.mean f.parts f.surges = false ∨ sailB d i s = false) : startsL hi f d i s = [] := if_neg (by rintro ⟨h1, h2⟩; rcases h with h | h <;> simp_all)
theorem startsL_ok {hi : Bool} {f : ForecastD} {d : ChartD} {i : Int} {s : ShipD} (h1 : fcB f.mean f.parts f.surges = true) (h2 : sailB d i s = true) : startsL hi f d i s = shrinkL (wetL hi f.mean f.parts f.surges (levForI d i s)) (minOn d i s) := if_pos ⟨h1, h2⟩
def startB (hi : Bool) (f : ForecastD) (d : ChartD) (i : Int) (s : ShipD) (t : Int) : Bool := hasB (startsL hi f d i s) t
/-- What takes n minutes can begin at m of valid windows exactly if all minutes from m to m + n lie in them. -/
theorem shr_has {n m : Int} {l : List WindowD} (hw : WOk l) (hn : 0 ≤ n) : Has (shrW n l) m ↔ ∀ j : Int, m ≤ j → j ≤ m + n → Has l j := by
  constructor
  · rintro ⟨z, hz, h1, h2⟩ j hj1 hj2
    obtain ⟨x, hx, hp, rfl⟩ := mem_shr.1 hz
    simp only at h1 h2
    exact ⟨x, hx, by omega, by omega⟩
  · intro h
    obtain ⟨x, hx, x1, x2⟩ := h m (by omega) (by omega)
    by_cases hb : m + n ≤ x.tt
    · exact ⟨⟨x.fr, x.tt - n⟩, mem_shr.2 ⟨x, hx, by omega, rfl⟩, x1, by show m ≤ x.tt - n; omega⟩
    · obtain ⟨y, hy, y1, y2⟩ := h (x.tt + 1) (by omega) (by omega)
      rcases hw.cmp hx hy with e | e | e
      · subst e; omega
      · omega
      · omega
theorem wet_at {hi : Bool} {f : ForecastD} {level j : Int} (h : fcB f.mean f.parts f.surges = true) : Has (wetL hi f.mean f.parts f.surges level) j ↔ 0 ≤ j ∧ j ≤ 2880 ∧ level ≤ endI hi f.mean f.parts f.surges j := by
  have e : wetL hi f.mean f.parts f.surges level = ofMarks (wetF hi f.mean f.parts f.surges level) 2881 := if_pos h
  rw [e, (ofMarks_spec _ 2881 (by omega)).2 j]
  constructor
  · rintro ⟨k, rfl, hk, hf⟩
    exact ⟨by omega, by omega, of_decide_eq_true hf⟩
  · rintro ⟨h0, h1, h2⟩
    exact ⟨j.toNat, by omega, by omega, by unfold wetF; rw [show ((j.toNat : Nat) : Int) = j by omega]; exact decide_eq_true h2⟩
theorem bool_iff {b : Bool} {p : Prop} [Decidable p] (h : b = true ↔ p) : b = decide p := by
  cases b with
  | true => exact (decide_eq_true (h.1 rfl)).symm
  | false => exact (decide_eq_false (fun hp => by have := h.2 hp; cases this)).symm
/-- A minute is a start exactly if the level is reached at every minute from it on, until the segment's end. -/
theorem start_iff {hi : Bool} {f : ForecastD} {d : ChartD} {i : Int} {s : ShipD} {t : Int} (h1 : fcB f.mean f.parts f.surges = true) (h2 : sailB d i s = true) :
    startB hi f d i s t = true ↔ 0 ≤ t ∧ t + minOn d i s ≤ 2880 ∧ ∀ j : Int, t ≤ j → j ≤ t + minOn d i s → levForI d i s ≤ endI hi f.mean f.parts f.surges j := by
  obtain ⟨n0, n1⟩ := minOn_bnd h2
  have e : wetL hi f.mean f.parts f.surges (levForI d i s) = ofMarks (wetF hi f.mean f.parts f.surges (levForI d i s)) 2881 := if_pos h1
  have hw : WOk (wetL hi f.mean f.parts f.surges (levForI d i s)) := by rw [e]; exact (ofMarks_spec _ 2881 (by omega)).1
  unfold startB
  rw [startsL_ok h1 h2, has_iff]
  unfold shrinkL
  rw [if_pos ⟨hw.to, inB_mk (by omega) (by omega)⟩, shr_has hw (by omega)]
  constructor
  · intro h
    have a := (wet_at h1).1 (h t (by omega) (by omega))
    have b := (wet_at h1).1 (h (t + minOn d i s) (by omega) (by omega))
    exact ⟨a.1, b.2.1, fun j hj1 hj2 => ((wet_at h1).1 (h j hj1 hj2)).2.2⟩
  · rintro ⟨t0, t1, h⟩ j hj1 hj2
    exact (wet_at h1).2 ⟨by omega, by omega, h j hj1 hj2⟩
/-- The least of the lower levels at t .. t + k. -/
def leastTo (f : ForecastD) (t : Int) : Nat → Int
  | 0 => endI false f.mean f.parts f.surges t
  | k + 1 => min (leastTo f t k) (endI false f.mean f.parts f.surges (t + ((k + 1 : Nat) : Int)))
theorem le_leastTo {f : ForecastD} {t level : Int} : ∀ k : Nat, level ≤ leastTo f t k ↔ ∀ j : Int, t ≤ j → j ≤ t + (k : Int) → level ≤ endI false f.mean f.parts f.surges j := by
  intro k
  induction k with
  | zero =>
    constructor
    · intro h j h1 h2
      rw [show j = t by omega]; exact h
    · intro h; exact h t (by omega) (by omega)
  | succ k ih =>
    unfold leastTo
    constructor
    · intro h j h1 h2
      by_cases e : j = t + ((k + 1 : Nat) : Int)
      · rw [e]; omega
      · exact ih.1 (by omega) j h1 (by omega)
    · intro h
      have a := ih.2 (fun j h1 h2 => h j h1 (by omega))
      have b := h (t + ((k + 1 : Nat) : Int)) (by omega) (by omega)
      omega
/-- The ship with another draught. -/
def withDr (s : ShipD) (x : Int) : ShipD := { s with draught := x }
/-- The greatest draught from x down to 100 at which p holds, or 0. -/
def greatest (p : Int → Bool) : Nat → Int
  | 0 => 0
  | k + 1 => if p (99 + ((k + 1 : Nat) : Int)) = true then 99 + ((k + 1 : Nat) : Int) else greatest p k
def draughtI (f : ForecastD) (d : ChartD) (i : Int) (s : ShipD) (t : Int) : Int := if fcB f.mean f.parts f.surges = true ∧ sailB d i s = true then greatest (fun x => startB false f d i (withDr s x) t) 1901 else 0
theorem greatest_congr {p q : Int → Bool} : ∀ k : Nat, (∀ x : Int, 100 ≤ x → x ≤ 99 + (k : Int) → p x = q x) → greatest p k = greatest q k := by
  intro k
  induction k with
  | zero => intro _; rfl
  | succ k ih =>
    intro h
    unfold greatest
    rw [h _ (by omega) (by omega), ih (fun x h1 h2 => h x h1 (by omega))]
theorem greatest_none {p : Int → Bool} : ∀ k : Nat, (∀ x : Int, 100 ≤ x → x ≤ 99 + (k : Int) → p x = false) → greatest p k = 0 := by
  intro k
  induction k with
  | zero => intro _; rfl
  | succ k ih =>
    intro h
    unfold greatest
    rw [h _ (by omega) (by omega)]
    exact ih (fun x h1 h2 => h x h1 (by omega))
theorem starts_len (hi : Bool) (f : ForecastD) (d : ChartD) (i : Int) (s : ShipD) : (startsL hi f d i s).length ≤ 2881 := by
  unfold startsL
  split
  · unfold shrinkL
    split
    · exact Nat.le_trans (shrW_len _ _) (wetL_len _ _ _ _ _)
    · simp
  · simp
end Go.Proofs.YtpimcbhjkednpaaGreat
namespace Go.Proofs.YtpimcbhjkednpaaGreat
open Go.RowKit
variable {α : Type} {k : Nat} {cs : α → List Value} {t : TypeId}
/-- The value v is a list over memory that is new since w; what w held is as it was. -/
def GathO (k : Nat) (cs : α → List Value) (t : TypeId) (w : World) (v : Value) (acc : List α) (wr : World) : Prop := OwnOf k cs t wr w.heap.size v acc ∧ Below w.heap.size w wr
theorem GathO.size {w wr : World} {v : Value} {acc : List α} (h : GathO k cs t w v acc wr) : w.heap.size ≤ wr.heap.size := h.2.size
theorem GathO.empty {w wr : World} (hb : Below w.heap.size w wr) : GathO k cs t w (.slice none 0 0) [] wr := ⟨⟨by simp, .inl ⟨rfl, rfl⟩⟩, hb⟩
theorem GathO.made {w wr : World} (hb : Below w.heap.size w wr) : GathO k cs t w (.slice (some ⟨wr.heap.size, 0, none⟩) 0 0) [] (wr.alloc (.cells #[] t)) :=
  ⟨⟨by simp, .inr ⟨wr.heap.size, 0, #[], rfl, hb.size, heap_alloc_new wr _, Nat.le_refl _, by omega, by simp, by simp⟩⟩, hb.alloc hb.size _⟩
theorem GathO.below {w wr W : World} {v : Value} {acc : List α} (h : GathO k cs t w v acc wr) (hb : Below wr.heap.size wr W) : GathO k cs t w v acc W :=
  ⟨own_below h.1 hb, h.2.trans (hb.mono h.size)⟩
theorem GathO.next {w W w4 : World} {v : Value} {acc : List α} {x : α} {g4 cap4 : Nat} (h : GathO k cs t w v acc W)
    (hown : w4.ownsRow w.heap.size t k (.slice (some ⟨g4, 0, none⟩) (acc.length + 1) cap4) (acc.length + 1) (acc.flatMap cs ++ cs x)) (hgr : W.grownBy w4 v.ownBlock) :
    GathO k cs t w (.slice (some ⟨g4, 0, none⟩) (acc.length + 1) cap4) (acc ++ [x]) w4 := by
  refine ⟨?_, h.2.grown hgr h.size (fun b hb => (World.ownsRow.lt h.1 b hb).1)⟩
  simpa [OwnOf] using hown
theorem GathO.form {w wr : World} {v : Value} {acc : List α} (h : GathO k cs t w v acc wr) : ∃ A c, v = .slice A acc.length c := own_form h.1
end Go.Proofs.YtpimcbhjkednpaaGreat
