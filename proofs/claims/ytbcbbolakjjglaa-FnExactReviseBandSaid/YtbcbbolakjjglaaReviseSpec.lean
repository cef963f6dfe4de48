/- ReviseBand of the model: contract. -/
import Derived.Test.YtbcbbolakjjglaaReviseSpec0
import Derived.Deep.DeepCutAuto
namespace Go.Proofs.Ytbcbbolakjjglaa
open Go.RowKit
set_option maxRecDepth 100000

/-- A forecast's variable whose list of surges grows: the block b10 holds it, the list lies from base on, nothing below b10 changes. -/
def GathU (b10 base : Nat) (wA : World) (m : Int) (v u : Value) (acc : List SurgeD) (wr : World) : Prop :=
  Below b10 wA wr ∧ b10 < base ∧ base ≤ wr.heap.size ∧ Blk wr b10 #[.int .i64 m, v, u] 28 ∧ OwnSurge wr base u acc
theorem GathU.own_ge {b10 base : Nat} {wA : World} {m : Int} {v u : Value} {acc : List SurgeD} {wr : World} (h : GathU b10 base wA m v u acc wr) (g : Nat) (hg : u.ownBlock = some g) : base ≤ g ∧ g < wr.heap.size := World.ownsRow.lt h.2.2.2.2 g hg
theorem GathU.next {b10 base : Nat} {wA : World} {m : Int} {v u : Value} {acc : List SurgeD} {wr W w4 : World} {x : SurgeD} {g4 cap4 : Nat} (h : GathU b10 base wA m v u acc wr) (hW : Below wr.heap.size wr W)
    (hown : w4.ownsRow base 44 3 (.slice (some ⟨g4, 0, none⟩) (acc.length + 1) cap4) (acc.length + 1) (acc.flatMap SurgeD.cells ++ x.cells)) (hgr : W.grownBy w4 u.ownBlock) :
    Blk w4 b10 #[.int .i64 m, v, u] 28 ∧ GathU b10 base wA m v (.slice (some ⟨g4, 0, none⟩) (acc.length + 1) cap4) (acc ++ [x]) (w4.setCell ⟨b10, 2, none⟩ (.slice (some ⟨g4, 0, none⟩) (acc.length + 1) cap4)) ∧ ∀ b cs t, b < base → b ≠ b10 → Blk wr b cs t → Blk (w4.setCell ⟨b10, 2, none⟩ (.slice (some ⟨g4, 0, none⟩) (acc.length + 1) cap4)) b cs t := by
  have hge := h.own_ge
  obtain ⟨h1, h2, h3, h4, h5⟩ := h
  have hne : ∀ b, b < base → some b ≠ u.ownBlock := fun b hb e => by have := (hge b e.symm).1; omega
  have k4 : Blk w4 b10 #[.int .i64 m, v, u] 28 := (h4.below hW).grown hgr (hne b10 h2)
  have hsz : wr.heap.size ≤ w4.heap.size := Nat.le_trans hW.size hgr.size
  refine ⟨k4, ⟨?_, h2, ?_, ?_, ?_⟩, fun b cs t hb hbn hk => ?_⟩
  · have hb4 : Below b10 wr w4 := (hW.mono (by omega)).grown hgr (Nat.le_trans (by omega) hW.size) (fun k hk => by have := (hge k hk).1; omega)
    exact (h1.trans hb4).setCell (Nat.le_refl _) _
  · simp; omega
  · have := k4.set 2 (.slice (some ⟨g4, 0, none⟩) (acc.length + 1) cap4)
    exact this
  · refine own_set_under ?_ h2 _
    simpa [OwnSurge, OwnOf] using hown
  · exact (((hk.below hW).grown hgr (hne b hb)).other hbn 2 _)

theorem filter_snoc (p : SurgeD → Bool) (l : List SurgeD) (k : Nat) (x : SurgeD) (h : l[k]? = some x) : (l.take (k + 1)).filter p = (l.take k).filter p ++ if p x = true then [x] else [] := by
  rw [take_snoc' l k x h, List.filter_append]
  simp [List.filter_cons]
theorem filter_yes {p : SurgeD → Bool} {l : List SurgeD} {k : Nat} {x : SurgeD} (h : l[k]? = some x) (hp : p x = true) : (l.take (k + 1)).filter p = (l.take k).filter p ++ [x] := by rw [filter_snoc p l k x h, if_pos hp]
theorem filter_no {p : SurgeD → Bool} {l : List SurgeD} {k : Nat} {x : SurgeD} (h : l[k]? = some x) (hp : p x = false) : (l.take (k + 1)).filter p = (l.take k).filter p := by rw [filter_snoc p l k x h, if_neg (by rw [hp]; simp), List.append_nil]
theorem filter_len (p : SurgeD → Bool) (l : List SurgeD) (k : Nat) : ((l.take k).filter p).length ≤ l.length := Nat.le_trans (List.length_filter_le _ _) (by rw [List.length_take]; omega)
theorem GathU.belowK {b10 base : Nat} {wA : World} {m : Int} {v u : Value} {acc : List SurgeD} {wr w' : World} (h : GathU b10 base wA m v u acc wr) (hb : Below wr.heap.size wr w') : GathU b10 base wA m v u acc w' := by
  obtain ⟨h1, h2, h3, h4, h5⟩ := h
  exact ⟨h1.trans (hb.mono (by omega)), h2, Nat.le_trans h3 hb.size, h4.below hb, own_below h5 hb⟩
theorem GathU.drew {b10 base : Nat} {wA : World} {m : Int} {v u : Value} {acc : List SurgeD} {wr : World} (h : GathU b10 base wA m v u acc wr) : GathU b10 base wA m v u acc wr.drew :=
  ⟨h.1.drew, h.2.1, h.2.2.1, h.2.2.2.1, h.2.2.2.2⟩
theorem GathU.setOther {b10 base : Nat} {wA : World} {m : Int} {v u : Value} {acc : List SurgeD} {wr : World} (h : GathU b10 base wA m v u acc wr) (b j : Nat) (h1 : b10 < b) (h2 : b < base) (x : Value) : GathU b10 base wA m v u acc (wr.setCell ⟨b, j, none⟩ x) :=
  ⟨h.1.setCell (by show b10 ≤ b; omega) _, h.2.1, by have := h.2.2.1; simpa [World.setCell] using this, h.2.2.2.1.other (by omega) j x, own_set_under h.2.2.2.2 h2 x⟩

set_option maxHeartbeats 8000000 in
theorem specReviseBand (m : Int) (v u : Value) (l : List PartD) (s : List SurgeD) (t lo hi : Int) (w : World) (h : SlP w v l) (h' : SlSurge w u s) :
    Calls Try.prog 35 #[.agg #[.int .i64 m, v, u], .int .i64 t, .int .i64 lo, .int .i64 hi] w (RevPost m l s t lo hi w) := by
  have H := Lib.hid h
  have H' := Lib.hid h'
  obtain ⟨A, c, rfl⟩ := h.at
  obtain ⟨A', c', rfl⟩ := h'.at
  have F0 := FBox.new 28 (m := m) H.out H'.out
  have hal := Joins.below_alloc1 (w.alloc (.cells #[.int .i64 m, .slice A l.length c, .slice A' s.length c'] 28)) (.cells #[.int .i64 0, .slice none 0 0, .slice none 0 0] 28)
  have F1 := Lib.hid (F0.below hal)
  have B1 := Lib.hid ((Joins.below_alloc1 w (.cells #[.int .i64 m, .slice A l.length c, .slice A' s.length c'] 28)).trans (hal.mono (by simp)))
  clear F0 hal h
  have eS : ((w.alloc (.cells #[.int .i64 m, .slice A l.length c, .slice A' s.length c'] 28)).alloc (.cells #[.int .i64 0, .slice none 0 0, .slice none 0 0] 28)).heap.size = w.heap.size + 2 := by simp
  have ES := Lib.hid eS
  clear eS
  cases hf : fcB m l s with
  | false =>
    have HF := Lib.hid hf
    have E := Lib.hid (revB_no1 (lo := lo) (hi := hi) (sAt_no1 (t := t) hf))
    clear hf h'
    go_enter Try.func35, Try.ntmps35
    go_wp2_with fail
    refine (specForecastOk m _ _ l s _ F1.out.2.2.2.1 F1.out.2.2.2.2).mono ?_
    rw [HF.out]
    rintro e w1 ⟨rfl, hb1⟩
    have B2 := Lib.hid (B1.out.trans (hb1.mono B1.out.size))
    obtain ⟨hc, hfz⟩ := bcell hb1
    clear hb1
    go_wp2
    refine bodyPost_ret (v := .tuple #[.agg #[.int .i64 0, .slice none 0 0, .slice none 0 0], .bool false]) (by simp [results, Try.results35, go_sem, *]) rfl (rev_no E.out ?_)
    repeat (first | exact B2.out | refine Below.setCell ?_ (by simp <;> omega) _)
  | true =>
    cases hm : inB t 0 2880 with
    | false =>
      have HF := Lib.hid hf
      have HM := Lib.hid hm
      have E := Lib.hid (revB_no1 (lo := lo) (hi := hi) (sAt_no2 (m := m) (l := l) (s := s) hm))
      clear hf hm h'
      go_enter Try.func35, Try.ntmps35
      go_wp2_with fail
      refine (specForecastOk m _ _ l s _ F1.out.2.2.2.1 F1.out.2.2.2.2).mono ?_
      rw [HF.out]
      rintro e w1 ⟨rfl, hb1⟩
      have B2 := Lib.hid (B1.out.trans (hb1.mono B1.out.size))
      obtain ⟨hc, hfz⟩ := bcell hb1
      clear hb1
      go_wp2_with fail
      refine (l01In_any _ _ _ _).mono ?_
      rw [HM.out]
      rintro e w2 ⟨rfl, rfl⟩
      go_wp2
      refine bodyPost_ret (v := .tuple #[.agg #[.int .i64 0, .slice none 0 0, .slice none 0 0], .bool false]) (by simp [results, Try.results35, go_sem, *]) rfl (rev_no E.out ?_)
      repeat (first | exact B2.out | refine Below.setCell ?_ (by simp <;> omega) _)
    | true =>
      obtain ⟨_, s0, s6, hh, hall⟩ := fcB_true hf
      have hat := sAt_mk hf hm
      have s0 : 0 < s.length := s0
      have HF := Lib.hid hf
      have HM := Lib.hid hm
      have ER := Lib.hid (revB_yes (lo := lo) (hi := hi) hat)
      obtain ⟨x, ex⟩ : ∃ x, atS s t = x := ⟨_, rfl⟩
      obtain ⟨xa, xl, xh⟩ := x
      have EX := Lib.hid ex
      obtain ⟨i0, hin, hz0, hz1, hz2⟩ := info_parts (P := Try.prog) (e := 44) (z := .agg #[.int .i64 0, .int .i64 0, .int .i64 0]) (size := 3) (bytes := 24) (by kernel_rfl)
      have HI := Lib.hid hin
      obtain ⟨_, h'⟩ := h'
      rcases h' with ⟨rfl, _⟩ | ⟨g, o, c1, hsl, hp, hcap, hc⟩
      · exact absurd s0 (by simp)
      injection hsl with hsl1 _ hsl2
      subst hsl1 hsl2
      have HC := Lib.hid hc
      have hgw : g < w.heap.size := by
        obtain ⟨y, hy⟩ : ∃ x, s[0]? = some x := ⟨_, List.getElem?_eq_getElem hp⟩
        exact World.block_lt_of_cell? w _ (hc 0 y hy 0 _ rfl)
      clear hf hm hat hh hall ex hin hc
      go_enter Try.func35, Try.ntmps35
      go_wp2_with fail
      refine (specForecastOk m _ _ l s _ F1.out.2.2.2.1 F1.out.2.2.2.2).mono ?_
      rw [HF.out]
      rintro e w1 ⟨rfl, hb1⟩
      have F2 := Lib.hid (F1.out.below hb1)
      have B2 := Lib.hid (B1.out.trans (hb1.mono B1.out.size))
      have RB1 := Lib.hid ((Blk.newAt (w := w.alloc (.cells #[.int .i64 m, .slice A l.length c, .slice (some ⟨g, o, none⟩) s.length c'] 28)) (b := w.heap.size + 1) (by simp) #[.int .i64 0, .slice none 0 0, .slice none 0 0] 28).below hb1)
      have hz1 : w.heap.size + 2 ≤ w1.heap.size := by have := hb1.size; rw [ES.out] at this; exact this
      clear hb1
      obtain ⟨x0, x1, x2, _⟩ := F2.out
      go_wp2_with fail
      refine (l01In_any _ _ _ _).mono ?_
      rw [HM.out]
      rintro e w2 ⟨rfl, rfl⟩
      go_wp2_with fail
      refine (l03Tide_any m _ l _ F2.out.2.2.2.1).mono ?_
      rintro e w3 ⟨v3, rfl, ho3, hb3⟩
      obtain ⟨A3, c3, rfl⟩ := own_form ho3
      have hal := Joins.below_alloc1 w3 (.cells #[.int .i64 m, .slice A3 l.length c3, .slice none 0 0] 28)
      have hb4 := hb3.trans (hal.mono hb3.size)
      have F3 := Lib.hid (F2.out.below hb3)
      have F4 := Lib.hid (F2.out.below hb4)
      have B4 := Lib.hid (B2.out.trans (hb4.mono B2.out.size))
      have RB3 := Lib.hid (RB1.out.below hb3)
      have O3 := Lib.hid ho3
      have B3 := Lib.hid (B2.out.trans (hb3.mono B2.out.size))
      have K10 := Lib.hid (Blk.new w3 #[.int .i64 m, .slice A3 l.length c3, .slice none 0 0] 28)
      have hz3 := hb3.size
      have BA := Lib.hid (show Below w3.heap.size w3 (w3.alloc (.cells #[.int .i64 m, .slice A3 l.length c3, .slice none 0 0] 28)) from hal)
      clear ho3 hb3 hal hb4 x0 x1 x2
      obtain ⟨x0, x1, x2, _⟩ := F4.out
      go_wp2_with fail
      refine (l03Surge_any m _ _ l s t _ F4.out.2.2.2.1 F4.out.2.2.2.2 s0).mono ?_
      rw [EX.out]
      rintro e w5 ⟨rfl, hb5⟩
      have hz5 : w3.heap.size + 1 ≤ w5.heap.size := by have := hb5.size; simpa using this
      have hal := Joins.below_alloc1 w5 (.cells #[.int .i64 xa, .int .i64 xl, .int .i64 xh] 44)
      have hb6 := hb5.trans (hal.mono hb5.size)
      have F6 := Lib.hid (F4.out.below hb6)
      have G6 := Lib.hid (show GathU w3.heap.size (w5.heap.size + 1) w3 m (.slice A3 l.length c3) (.slice none 0 0) [] (w5.alloc (.cells #[.int .i64 xa, .int .i64 xl, .int .i64 xh] 44)) from ⟨BA.out.trans (hb6.mono BA.out.size), by omega, by simp, K10.out.below hb6, World.ownsRow_nil _ _ _ _⟩)
      have K11 := Lib.hid (Blk.new w5 #[.int .i64 xa, .int .i64 xl, .int .i64 xh] 44)
      clear hb5 hal hb6 x0 x1 x2 F4 K10 BA
      obtain ⟨x0, x1, x2, _⟩ := F6.out
      go_wp2
      clear x0 x1 x2 F6
      go_loopw [35] (fun i wr => ∃ (k : Nat) (u : Value), k ≤ s.length ∧ i = .int .i64 k ∧ Hid (GathU w3.heap.size (w5.heap.size + 1) w3 m (.slice A3 l.length c3) u ((s.take k).filter (befB t)) wr) ∧ Hid (Blk wr w5.heap.size #[.int .i64 xa, .int .i64 xl, .int .i64 xh] 44)) (fun i _ => s.length - (intOf i).toNat)
      case atStart => exact ⟨0, _, Nat.zero_le _, rfl, G6, K11⟩
      case round =>
        obtain ⟨k, u, hk, rfl, hG, hK⟩ := hrel
        obtain ⟨gB, gb, gs, gk, go⟩ := hG.out
        have hz : w3.heap.size ≤ wr.heap.size := gB.size
        have j0 := gk.cell 0
        have j1 := gk.cell 1
        have j2 := gk.cell 2
        simp at j0 j1 j2
        have jf := gk.free 2
        have hb10 : w3.heap.size < wr.heap.size := gk.lt
        have GO := Lib.hid go
        have GS := gs
        by_cases hlt : k < s.length
        · obtain ⟨y, hy⟩ : ∃ x, s[k]? = some x := ⟨_, List.getElem?_eq_getElem hlt⟩
          obtain ⟨p0, p1, p2⟩ := SlSurge.cells HC.out k y hy
          have bw := (B3.out.trans (gB.mono B3.out.size))
          have a0 := (bw.cell (p := ⟨g, o + k * 3, none⟩) hgw).trans p0
          have a1 := (bw.cell (p := ⟨g, o + k * 3 + 1, none⟩) hgw).trans p1
          have a2 := (bw.cell (p := ⟨g, o + k * 3 + 2, none⟩) hgw).trans p2
          have HY := Lib.hid hy
          have HL := filter_len (befB t) s k
          obtain ⟨ya, yl, yh⟩ := y
          simp only at a0 a1 a2
          clear p0 p1 p2 hy bw gB gk go
          by_cases hlt2 : ya < t
          · have hd : decide (ya < t) = true := decide_eq_true hlt2
            have EF := Lib.hid (filter_yes (p := befB t) HY.out hd)
            obtain ⟨acc, hacc⟩ : ∃ acc, (s.take k).filter (befB t) = acc := ⟨_, rfl⟩
            rw [hacc] at GO hG
            have HA := Lib.hid hacc
            have hal : acc.length ≤ 13 := by rw [← hacc]; omega
            clear hacc HL
            have hW := Lib.hid (Joins.below_alloc2 wr (.cells #[.int .i64 ya, .int .i64 yl, .int .i64 yh] 44) (.cells #[.int .i64 ya, .int .i64 yl, .int .i64 yh] 44))
            have OW := Lib.hid (own_below GO.out hW.out)
            have HN := Lib.hid (World.news_of_block (heap_alloc_new (wr.alloc (.cells #[.int .i64 ya, .int .i64 yl, .int .i64 yh] 44)) (.cells #[.int .i64 ya, .int .i64 yl, .int .i64 yh] 44)))
            go_wp2_with (at_builtin; refine wpList_append_lies _ rfl _ _ _ rfl (w5.heap.size + 1) 44 i0 _ 3 24 Try.underlying26 HI.out hz0 (by assumption) hz2 rfl (by omega) u acc.length (acc.flatMap SurgeD.cells) rfl OW.out ⟨wr.heap.size + 1, 0, none⟩ 1 1 (SurgeD.cells ⟨ya, yl, yh⟩) rfl rfl (by simpa using HN.out) (surge_one _) (by omega) (by unfold maxLen; omega) (by omega) (by simp; omega) _ rfl ?_; intro g4 cap4 w4 hown4 hgrow4 hor4 hlt4; obtain ⟨t1, t2, t3⟩ := hG.out.next hW.out hown4 hgrow4; have T2 := Lib.hid t2; have T3 := Lib.hid t3; have v2 := t1.cell 2; have v3 := t1.free 2; simp at v2; clear hown4 hgrow4 hor4 t1 t2 t3)
            go_roundw
            case rel =>
              refine ⟨k + 1, .slice (some ⟨g4, 0, none⟩) (acc.length + 1) cap4, by omega, by go_num, Lib.hid ?_, Lib.hid (T3.out _ _ _ (by omega) (by omega) hK.out)⟩
              rw [EF.out, HA.out]
              exact T2.out
            case measure => simp [intOf]; omega
          · have hd : decide (ya < t) = false := decide_eq_false hlt2
            have EF := Lib.hid (filter_no (p := befB t) HY.out hd)
            have hW := Lib.hid (Joins.below_alloc1 wr (.cells #[.int .i64 ya, .int .i64 yl, .int .i64 yh] 44))
            go_wp2
            go_roundw
            case rel =>
              refine ⟨k + 1, u, by omega, by go_num, Lib.hid ?_, Lib.hid (hK.out.below hW.out)⟩
              rw [EF.out]
              exact hG.out.belowK hW.out
            case measure => simp [intOf]; omega
        · obtain rfl : k = s.length := by omega
          have eT : s.take s.length = s := List.take_length
          rw [eT] at hG
          obtain ⟨acc, hacc⟩ : ∃ acc, s.filter (befB t) = acc := ⟨_, rfl⟩
          have hal : acc.length ≤ s.length := by rw [← hacc]; exact List.length_filter_le _ _
          rw [hacc] at hG
          have HA := Lib.hid hacc
          obtain ⟨W1, hW1⟩ : ∃ W1, W1 = wr.setCell ⟨w5.heap.size, 0, none⟩ (.int .i64 t) := ⟨_, rfl⟩
          have G1 := Lib.hid (show GathU w3.heap.size (w5.heap.size + 1) w3 m (.slice A3 l.length c3) u acc W1 from by rw [hW1]; exact hG.out.setOther _ _ (by omega) (by omega) _)
          have K1 := Lib.hid (show Blk W1 w5.heap.size #[.int .i64 t, .int .i64 xl, .int .i64 xh] 44 from by rw [hW1]; exact hK.out.set 0 _)
          have HW1 := Lib.hid hW1
          have k0 := hK.out.cell 0
          simp at k0
          have kf := hK.out.free 0
          have n0 := K1.out.cell 0
          have n1 := K1.out.cell 1
          have n2 := K1.out.cell 2
          have n3 := G1.out.2.2.2.1.cell 2
          simp at n0 n1 n2 n3
          clear gB gk go GO hG j0 j1 j2 jf hacc hW1 eT
          go_upto_region 12 with fail
          rw [← HW1.out]
          clear HW1 k0 kf hK
          go_cut [] (fun wx => ∃ u8, Hid (GathU w3.heap.size (w5.heap.size + 1) w3 m (.slice A3 l.length c3) u8 (acc ++ [⟨t, max xl lo, min xh hi⟩]) wx))
          case first =>
            go_region_law (first
              | (go_simp; go_at_call 67; refine (l03Cut_any ⟨t, xl, xh⟩ lo hi _).mono ?_; rintro e w7 ⟨rfl, hb7⟩; have GA := Lib.hid (G1.out.drew.belowK hb7); have j3 := GA.out.2.2.2.1.cell 2; simp at j3; have j4 := (GA.out.2.2.2.1.below (Joins.below_alloc1 w7 (.cells #[.int .i64 t, .int .i64 (max xl lo), .int .i64 (min xh hi)] 44))).cell 2; simp at j4; have ow7 := Lib.hid (own_below GA.out.2.2.2.2 (Joins.below_alloc1 w7 (.cells #[.int .i64 t, .int .i64 (max xl lo), .int .i64 (min xh hi)] 44))); have hs7 := GA.out.2.2.1; clear hb7)
              | (refine step_append_lies _ (by rfl) _ _ _ (by rfl) (w5.heap.size + 1) 44 i0 _ 3 24 Try.underlying26 HI.out hz0 (by assumption) hz2 rfl (by omega) u acc.length (acc.flatMap SurgeD.cells) (by rfl) ow7.out ⟨w7.heap.size, 0, none⟩ 1 1 (SurgeD.cells ⟨t, max xl lo, min xh hi⟩) (by rfl) (by rfl) (World.news_of_block (heap_alloc_new w7 _)) (surge_one _) (by omega) (by unfold maxLen; omega) (by omega) (by simp; omega) _ rfl ?_; intro g4 cap4 w4 hown4 hgrow4 hor4 hlt4; obtain ⟨t1, t2, t3⟩ := GA.out.next (Joins.below_alloc1 w7 (.cells #[.int .i64 t, .int .i64 (max xl lo), .int .i64 (min xh hi)] 44)) hown4 hgrow4; have T2 := Lib.hid t2; have v2 := t1.cell 2; have v3 := t1.free 2; simp at v2; clear hown4 hgrow4 hor4 t1 t2 t3))
            all_goals
              go_wp2_with fail
              go_meet
              exact ⟨_, T2⟩
          case rest =>
            obtain ⟨u8, G8⟩ := hcut
            obtain ⟨ab, hab⟩ : ∃ ab, acc ++ [⟨t, max xl lo, min xh hi⟩] = ab := ⟨_, rfl⟩
            rw [hab] at G8
            have habl : ab.length ≤ 7 := by rw [← hab]; simp; omega
            have HAB := Lib.hid hab
            have x2 := (F3.out.below G8.out.1).2.2.1
            clear hab G1 K1 n0 n1 n2 n3
            go_wp2
            clear x2
            go_loopw [64] (fun i wr => ∃ (k : Nat) (u : Value), k ≤ s.length ∧ i = .int .i64 k ∧ Hid (GathU w3.heap.size (w5.heap.size + 1) w3 m (.slice A3 l.length c3) u (ab ++ (s.take k).filter (aftB t)) wr)) (fun i _ => s.length - (intOf i).toNat)
            case atStart => exact ⟨0, _, Nat.zero_le _, rfl, Lib.hid (by simpa using G8.out)⟩
            case round =>
              obtain ⟨k, u, hk, rfl, hG⟩ := hrel
              obtain ⟨gB, gb, gs, gk, go⟩ := hG.out
              have hz : w3.heap.size ≤ wr.heap.size := gB.size
              have j0 := gk.cell 0
              have j1 := gk.cell 1
              have j2 := gk.cell 2
              simp at j0 j1 j2
              have jf := gk.free 2
              have hb10 : w3.heap.size < wr.heap.size := gk.lt
              have GO := Lib.hid go
              have GS := gs
              by_cases hlt : k < s.length
              · obtain ⟨y, hy⟩ : ∃ x, s[k]? = some x := ⟨_, List.getElem?_eq_getElem hlt⟩
                obtain ⟨p0, p1, p2⟩ := SlSurge.cells HC.out k y hy
                have bw := (B3.out.trans (gB.mono B3.out.size))
                have a0 := (bw.cell (p := ⟨g, o + k * 3, none⟩) hgw).trans p0
                have a1 := (bw.cell (p := ⟨g, o + k * 3 + 1, none⟩) hgw).trans p1
                have a2 := (bw.cell (p := ⟨g, o + k * 3 + 2, none⟩) hgw).trans p2
                have HY := Lib.hid hy
                have HL := filter_len (aftB t) s k
                obtain ⟨ya, yl, yh⟩ := y
                simp only at a0 a1 a2
                clear p0 p1 p2 hy bw gB gk go
                by_cases hlt2 : t < ya
                · have hd : decide (t < ya) = true := decide_eq_true hlt2
                  have EF := Lib.hid (filter_yes (p := aftB t) HY.out hd)
                  obtain ⟨acc, hacc⟩ : ∃ acc, ab ++ (s.take k).filter (aftB t) = acc := ⟨_, rfl⟩
                  rw [hacc] at GO hG
                  have HA := Lib.hid hacc
                  have hal : acc.length ≤ 13 := by rw [← hacc]; rw [List.length_append]; omega
                  clear hacc HL
                  have hW := Lib.hid (Joins.below_alloc2 wr (.cells #[.int .i64 ya, .int .i64 yl, .int .i64 yh] 44) (.cells #[.int .i64 ya, .int .i64 yl, .int .i64 yh] 44))
                  have OW := Lib.hid (own_below GO.out hW.out)
                  have HN := Lib.hid (World.news_of_block (heap_alloc_new (wr.alloc (.cells #[.int .i64 ya, .int .i64 yl, .int .i64 yh] 44)) (.cells #[.int .i64 ya, .int .i64 yl, .int .i64 yh] 44)))
                  go_wp2_with (at_builtin; refine wpList_append_lies _ rfl _ _ _ rfl (w5.heap.size + 1) 44 i0 _ 3 24 Try.underlying26 HI.out hz0 (by assumption) hz2 rfl (by omega) u acc.length (acc.flatMap SurgeD.cells) rfl OW.out ⟨wr.heap.size + 1, 0, none⟩ 1 1 (SurgeD.cells ⟨ya, yl, yh⟩) rfl rfl (by simpa using HN.out) (surge_one _) (by omega) (by unfold maxLen; omega) (by omega) (by simp; omega) _ rfl ?_; intro g4 cap4 w4 hown4 hgrow4 hor4 hlt4; obtain ⟨t1, t2, t3⟩ := hG.out.next hW.out hown4 hgrow4; have T2 := Lib.hid t2; have T3 := Lib.hid t3; have v2 := t1.cell 2; have v3 := t1.free 2; simp at v2; clear hown4 hgrow4 hor4 t1 t2 t3)
                  go_roundw
                  case rel =>
                    refine ⟨k + 1, .slice (some ⟨g4, 0, none⟩) (acc.length + 1) cap4, by omega, by go_num, Lib.hid ?_⟩
                    rw [EF.out, ← List.append_assoc, HA.out]
                    exact T2.out
                  case measure => simp [intOf]; omega
                · have hd : decide (t < ya) = false := decide_eq_false hlt2
                  have EF := Lib.hid (filter_no (p := aftB t) HY.out hd)
                  have hW := Lib.hid (Joins.below_alloc1 wr (.cells #[.int .i64 ya, .int .i64 yl, .int .i64 yh] 44))
                  go_wp2
                  go_roundw
                  case rel =>
                    refine ⟨k + 1, u, by omega, by go_num, Lib.hid ?_⟩
                    rw [EF.out]
                    exact hG.out.belowK hW.out
                  case measure => simp [intOf]; omega
              · obtain rfl : k = s.length := by omega
                have eT : s.take s.length = s := List.take_length
                rw [eT] at hG GO
                have eR : ab ++ s.filter (aftB t) = revL s t lo hi := by
                  rw [← HAB.out]
                  unfold revL
                  rw [HA.out, EX.out]
                  simp [readS]
                rw [eR] at hG GO
                obtain ⟨A9, c9, rfl⟩ := own_form GO.out
                have hrl : (revL s t lo hi).length ≤ 13 := by
                  rw [← eR, List.length_append]
                  have := List.length_filter_le (aftB t) s
                  omega
                have O9 := Lib.hid (own_below O3.out gB)
                have S9 := Lib.hid (OwnOf_sl O9.out F2.out.2.2.2.1.1)
                have S5 := Lib.hid (OwnSurge_sl rfl GO.out (by omega))
                have RB9 := Lib.hid (RB3.out.below gB)
                have B9 := Lib.hid (B3.out.trans (gB.mono B3.out.size))
                have GK := Lib.hid gk
                have L3 := Lib.hid (World.ownsRow.lt O3.out)
                have L9 := Lib.hid (World.ownsRow.lt GO.out)
                clear eT eR gB gk go hG
                cases hr : fcB m l (revL s t lo hi) with
                | false =>
                  have HR := Lib.hid hr
                  have E := Lib.hid (ER.out.trans hr)
                  clear hr
                  go_wp2_with fail
                  refine (specForecastOk m _ _ l (revL s t lo hi) _ S9.out S5.out).mono ?_
                  rw [HR.out]
                  rintro e w8 ⟨rfl, hb8⟩
                  have B8 := Lib.hid (B9.out.trans (hb8.mono B9.out.size))
                  have RB8 := RB9.out.below hb8
                  have r0 := RB8.cell 0
                  have r1 := RB8.cell 1
                  have r2 := RB8.cell 2
                  simp at r0 r1 r2
                  have q0 := RB8.free 0
                  have q1 := RB8.free 1
                  have q2 := RB8.free 2
                  clear hb8 RB8
                  go_wp2
                  refine bodyPost_ret (v := .tuple #[.agg #[.int .i64 0, .slice none 0 0, .slice none 0 0], .bool false]) (by simp [results, Try.results35, go_sem, *]) rfl (rev_no E.out ?_)
                  repeat (first | exact B8.out | refine Below.setCell ?_ (by simp <;> omega) _)
                | true =>
                  have HR := Lib.hid hr
                  have E := Lib.hid (ER.out.trans hr)
                  clear hr
                  go_wp2_with fail
                  refine (specForecastOk m _ _ l (revL s t lo hi) _ S9.out S5.out).mono ?_
                  rw [HR.out]
                  rintro e w8 ⟨rfl, hb8⟩
                  have B8 := Lib.hid (B9.out.trans (hb8.mono B9.out.size))
                  have RB8 := RB9.out.below hb8
                  have X8 := GK.out.below hb8
                  have O68 := Lib.hid (own_below O9.out hb8)
                  have O58 := Lib.hid (own_below GO.out hb8)
                  have r0 := RB8.cell 0
                  have r1 := RB8.cell 1
                  have r2 := RB8.cell 2
                  have y0 := X8.cell 0
                  have y1 := X8.cell 1
                  have y2 := X8.cell 2
                  simp at r0 r1 r2 y0 y1 y2
                  have q0 := RB8.free 0
                  have q1 := RB8.free 1
                  have q2 := RB8.free 2
                  clear hb8 RB8 X8 j0 j1 j2 jf
                  go_wp2
                  refine bodyPost_ret (v := .tuple #[.agg #[.int .i64 m, .slice A3 l.length c3, .slice A9 (revL s t lo hi).length c9], .bool true]) (by simp [results, Try.results35, go_sem, *]) rfl (rev_yes E.out ?_ ?_ ?_ ?_)
                  · refine own_lo (base := w.heap.size + 2) ?_ (by omega)
                    repeat (first | exact own_lo O68.out (by omega) | refine own_set_under ?_ (by simp <;> omega) _)
                  · refine own_lo (base := w.heap.size + 2) ?_ (by omega)
                    repeat (first | exact own_lo O58.out (by omega) | refine own_set_under ?_ (by simp <;> omega) _)
                  · intro g hg hg'
                    have h1 := (L3.out g hg).2
                    have h2 := (L9.out g hg').1
                    omega
                  · repeat (first | exact B8.out | refine Below.setCell ?_ (by simp <;> omega) _)

end Go.Proofs.Ytbcbbolakjjglaa
