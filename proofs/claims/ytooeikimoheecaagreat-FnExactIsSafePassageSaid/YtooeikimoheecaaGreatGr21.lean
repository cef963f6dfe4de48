
/- What ExactIsSafePassage and ExactSailRoute and ExactFirstSail rests on, part 21: contracts and mathematics. -/
import Derived.Test.YtooeikimoheecaaGreatGr17
import Derived.Test.YtooeikimoheecaaGreatGr19
import Derived.Test.YtooeikimoheecaaGreatGr6
import Derived.Test.YtooeikimoheecaaGreatGr5
import Derived.StillTailTactics
import Derived.Test.YtooeikimoheecaaGreatGr16
import Derived.Test.YtooeikimoheecaaGreatGr12
import Derived.Test.YtooeikimoheecaaGreatGr20
import Derived.Test.YtooeikimoheecaaGreatGr13
import Derived.BigRegionIn
import Derived.Sort.CutIn
import Derived.Test.YtooeikimoheecaaGreatGr1
namespace Go.Proofs.YtooeikimoheecaaGreat
open Go.RowKit
set_option maxRecDepth 100000
@[reducible] def boolCells (b : Bool) : List Value := [.bool b]
theorem boolLen (b : Bool) : (boolCells b).length = 1 := rfl
def SlBool : World → Value → List Bool → Prop := SlOf 1 boolCells
def markF (l : List Bool) (j : Nat) : Bool := l[j]?.getD false
theorem markF_at {l : List Bool} {k : Nat} {b : Bool} (h : l[k]? = some b) : markF l k = b := by unfold markF; rw [h]; rfl
theorem GathW.set {w wr : World} {acc : List WindowD} {y : WindowD} {g cap : Nat} (t : Int) (h : GathW w (.slice (some ⟨g, 0, none⟩) (acc.length + 1) cap) (acc ++ [y]) wr) :
    GathW w (.slice (some ⟨g, 0, none⟩) (acc.length + 1) cap) (acc ++ [⟨y.fr, t⟩]) (wr.setCell ⟨g, acc.length * 2 + 1, none⟩ (.int .i64 t)) := by
  have hrow : wr.ownsRow w.heap.size 145 2 (.slice (some ⟨g, 0, none⟩) (acc.length + 1) cap) (acc.length + 1) ((acc ++ [y]).flatMap WindowD.cells) := by
    have := h.1
    unfold OwnWindow OwnOf at this
    rw [show (acc ++ [y]).length = acc.length + 1 by simp] at this
    exact this
  have hst := (World.ownsRow.stored hrow (acc.length * 2 + 1) (.int .i64 t)).1
  rw [flat_set] at hst
  refine ⟨?_, h.2.setCell (p := ⟨g, acc.length * 2 + 1, none⟩) (World.ownsRow.lt hrow g rfl).1 _⟩
  show World.ownsRow _ _ _ _ _ _ _
  rw [show (acc ++ [(⟨y.fr, t⟩ : WindowD)]).length = acc.length + 1 by simp]
  exact hst
theorem GathW.last {w wr : World} {acc : List WindowD} {y : WindowD} {v : Value} (h : GathW w v (acc ++ [y]) wr) :
    ∃ g cap, v = .slice (some ⟨g, 0, none⟩) (acc.length + 1) cap ∧ wr.cell? ⟨g, acc.length * 2 + 1, none⟩ = some (.int .i64 y.tt) ∧ wr.frozen? ⟨g, acc.length * 2 + 1, none⟩ = false := by
  have hrow : wr.ownsRow w.heap.size 145 2 v (acc.length + 1) ((acc ++ [y]).flatMap WindowD.cells) := by
    have := h.1
    unfold OwnWindow OwnOf at this
    rw [show (acc ++ [y]).length = acc.length + 1 by simp] at this
    exact this
  obtain ⟨g, cap, rfl⟩ := ownsRow_succ hrow
  exact ⟨g, cap, rfl, (World.ownsRow.cellAt hrow (acc.length * 2 + 1) (by omega)).trans (flat_last acc y).2, World.ownsRow.frozenAt hrow _⟩
theorem GathW.nextN {w W w4 : World} {v : Value} {acc : List WindowD} {x : WindowD} {g4 cap4 n : Nat} (e : n = acc.length) (h : GathW w v acc W)
    (hown : w4.ownsRow w.heap.size 145 2 (.slice (some ⟨g4, 0, none⟩) (n + 1) cap4) (n + 1) (acc.flatMap WindowD.cells ++ x.cells)) (hgr : W.grownBy w4 v.ownBlock) :
    GathW w (.slice (some ⟨g4, 0, none⟩) (n + 1) cap4) (acc ++ [x]) w4 := by subst e; exact h.next hown hgr
theorem GathW.row {w W : World} {v : Value} {acc : List WindowD} {n : Nat} (e : n = acc.length) (h : GathW w v acc W) : W.ownsRow w.heap.size 145 2 v n (acc.flatMap WindowD.cells) := by subst e; exact h.1
set_option maxHeartbeats 8000000 in
theorem l04Of_any (v : Value) (l : List Bool) (w : World) (h : SlBool w v l) (hlen : l.length ≤ 100000) :
    Calls Tryz.prog 128 #[v] w (NewWindow (ofMarks (markF l) l.length) w) := by
  obtain ⟨i0, hin, hz0, hzs, hz2⟩ := info_parts info_window
  have HI := Lib.hid hin
  clear hin
  obtain ⟨hl, h⟩ := h
  rcases h with ⟨rfl, A, c, rfl⟩ | ⟨g, o, c, rfl, hp, hcap, hc⟩
  · go_enter Tryz.func128, Tryz.ntmps128
    go_wp2
    have G0 := Lib.hid (GathW.made (Below.refl w.heap.size w))
    refine wp_loop_rounds 1 ?_
    rw [rounds_succ]
    go_wp2
    go_ret
    exact G0.out.new rfl
  · have HC := Lib.hid hc
    clear hc
    go_enter Tryz.func128, Tryz.ntmps128
    go_wp2
    have G0 := Lib.hid (GathW.made (Below.refl w.heap.size w))
    go_loopw [3, 9] (fun s i wr => ∃ (k : Nat) (acc : List WindowD), k ≤ l.length ∧ i = .int .i64 k ∧ Hid (ofMarks (markF l) k = acc) ∧ Hid (GathW w s acc wr)) (fun _ i _ => l.length - (intOf i).toNat)
    case atStart => exact ⟨0, [], Nat.zero_le _, rfl, Lib.hid rfl, G0⟩
    case round =>
      obtain ⟨k, acc, hk, rfl, hE, hG⟩ := hrel
      have hal := ofMarks_len (markF l) k
      rw [hE.out] at hal
      have hsz := hG.out.size
      by_cases hlt : k < l.length
      rotate_left
      · obtain rfl : k = l.length := by omega
        go_wp2
        go_ret
        exact hG.out.new hE.out
      · obtain ⟨b, hb⟩ : ∃ b, l[k]? = some b := ⟨_, List.getElem?_eq_getElem hlt⟩
        have p0 := HC.out k b hb 0 _ rfl
        simp only [Nat.mul_one, Nat.add_zero] at p0
        have hg : g < w.heap.size := World.block_lt_of_cell? w ⟨g, o + k, none⟩ p0
        have a0 := (hG.out.2.cell (p := ⟨g, o + k, none⟩) hg).trans p0
        have hF := markF_at hb
        clear p0 hb
        cases b with
        | false =>
          have EF := Lib.hid ((ofMarks_no hF).trans hE.out)
          clear hF
          go_wp2
          go_roundw
          case rel => exact ⟨k + 1, _, by omega, by go_num, EF, hG⟩
          case measure => simp [intOf]; omega
        | true =>
          have EF := Lib.hid (ofMarks_yes hF)
          rw [hE.out] at EF
          clear hF
          rcases snoc_or acc with e | ⟨acc', y, e⟩
          · subst e
            rw [markStep_nil] at EF
            obtain ⟨A, c', rfl⟩ := hG.out.form
            have hW := Lib.hid (Joins.below_alloc1 wr (.cells #[.int .i64 k, .int .i64 k] 145))
            have GW := Lib.hid (hG.out.below hW.out)
            have HN := Lib.hid (World.news_of_block (heap_alloc_new wr (.cells #[.int .i64 k, .int .i64 k] 145)))
            go_wp2_with (at_builtin; refine wpList_append_lies _ rfl _ _ _ rfl w.heap.size 145 i0 _ 2 16 Tryz.underlying111 HI.out hz0 (by assumption) hz2 rfl (by omega) _ ([] : List WindowD).length (([] : List WindowD).flatMap WindowD.cells) rfl GW.out.1 ⟨wr.heap.size, 0, none⟩ 1 1 (WindowD.cells ⟨k, k⟩) (by first | rfl | simp) rfl (by simpa using HN.out) (window_one _) (by omega) (by unfold maxLen; omega) (by omega) (by simp; omega) _ rfl ?_; intro g4 cap4 w4 hown4 hgrow4 hor4 hlt4; have GX := Lib.hid (GW.out.next (x := ⟨k, k⟩) hown4 hgrow4); clear hown4 hgrow4 hor4 hlt4)
            go_roundw
            case rel => exact ⟨k + 1, _, by omega, by go_num, EF, GX⟩
            case measure => simp [intOf]; omega
          · subst e
            obtain ⟨g', cap, rfl, q1, q2⟩ := hG.out.last
            have hidx : (acc'.length : Int) < (acc'.length : Int) + 1 := by omega
            have hla : acc'.length + 1 ≤ k := by simpa using hal
            by_cases hy : y.tt = (k : Int) - 1
            · rw [markStep_join hy] at EF
              have GS := Lib.hid (hG.out.set (k : Int))
              go_wp2
              go_roundw
              case rel => exact ⟨k + 1, _, by omega, by go_num, EF, GS⟩
              case measure => simp [intOf]; omega
            · rw [markStep_apart hy] at EF
              have hW := Lib.hid (Joins.below_alloc1 wr (.cells #[.int .i64 k, .int .i64 k] 145))
              have GW := Lib.hid (hG.out.below hW.out)
              have HN := Lib.hid (World.news_of_block (heap_alloc_new wr (.cells #[.int .i64 k, .int .i64 k] 145)))
              have hel : acc'.length + 1 = (acc' ++ [y]).length := by simp
              obtain ⟨acc, hacc⟩ : ∃ acc, acc' ++ [y] = acc := ⟨_, rfl⟩
              rw [hacc] at hel GW EF
              have HEL := Lib.hid hel
              clear hacc hel
              go_wp2_with (at_builtin; refine wpList_append_lies _ rfl _ _ _ rfl w.heap.size 145 i0 _ 2 16 Tryz.underlying111 HI.out hz0 (by assumption) hz2 rfl (by omega) _ (acc'.length + 1) (acc.flatMap WindowD.cells) rfl (GW.out.row HEL.out) ⟨wr.heap.size, 0, none⟩ 1 1 (WindowD.cells ⟨k, k⟩) (by first | rfl | simp) rfl (by simpa using HN.out) (window_one _) (by omega) (by unfold maxLen; omega) (by omega) (by simp; omega) _ rfl ?_; intro g4 cap4 w4 hown4 hgrow4 hor4 hlt4; have GX := Lib.hid (GW.out.nextN (x := ⟨k, k⟩) HEL.out hown4 hgrow4); clear hown4 hgrow4 hor4 hlt4)
              go_roundw
              case rel => exact ⟨k + 1, _, by omega, by go_num, EF, GX⟩
              case measure => simp [intOf]; omega
end Go.Proofs.YtooeikimoheecaaGreat
namespace Go.Proofs.YtooeikimoheecaaGreat
open Go.RowKit
set_option maxRecDepth 100000
set_option maxHeartbeats 2000000 in
theorem specSquatOf (s : ShipD) (w : World) (hw : s.wf) :
    Calls Tryz.prog 139 #[s.val] w fun e w' => e = .returned (.int .i64 (squatI s)) ∧ Below w.heap.size w w' := by
  have B := Lib.hid (Joins.below_alloc1 w (.cells #[.string s.name, .int .i64 s.length, .int .i64 s.draught, .int .i64 s.line, .int .i64 s.tugs, .bool s.slow] 65))
  have K := Lib.hid (Blk.new w #[.string s.name, .int .i64 s.length, .int .i64 s.draught, .int .i64 s.line, .int .i64 s.tugs, .bool s.slow] 65)
  obtain ⟨t, ht⟩ : ∃ t, shipB s = t := ⟨_, rfl⟩
  have HT := Lib.hid ht
  cases t with
  | false =>
    have E := Lib.hid (show squatI s = 0 from if_neg (by rw [ht]; simp))
    clear ht
    go_enter Tryz.func139, Tryz.ntmps139
    go_wp2_with fail
    refine (specShipOk s _ hw).mono ?_
    rw [HT.out]
    rintro e w1 ⟨rfl, hb1⟩
    have B1 := Lib.hid (B.out.trans (hb1.mono B.out.size))
    clear hb1
    go_wp2
    go_ret
    exact ⟨ret_int E.out.symm, B1.out⟩
  | true =>
    obtain ⟨-, -, -, d0, d1, -⟩ := shipB_true ht
    have v1 : IntKind.i64.wrap (s.draught.tdiv 50) = s.draught.tdiv 50 := by rw [IntKind.wrap_i64, Int.tdiv_eq_ediv_of_nonneg (by omega)]; omega
    have v2 : IntKind.i64.wrap (s.draught.tdiv 20) = s.draught.tdiv 20 := by rw [IntKind.wrap_i64, Int.tdiv_eq_ediv_of_nonneg (by omega)]; omega
    have E0 : squatI s = (if s.slow = true then s.draught.tdiv 50 else s.draught.tdiv 20) := if_pos ht
    clear ht
    cases hs : s.slow with
    | true =>
      have E := Lib.hid (E0.trans (if_pos hs))
      have HSL := Lib.hid hs
      clear E0 hs
      go_enter Tryz.func139, Tryz.ntmps139
      go_wp2_with fail
      refine (specShipOk s _ hw).mono ?_
      rw [HT.out]
      rintro e w1 ⟨rfl, hb1⟩
      have K1 := K.out.below hb1
      have z2 := K1.cell 2
      have z5 := K1.cell 5
      simp at z2 z5
      rw [HSL.out] at z5
      have B1 := Lib.hid (B.out.trans (hb1.mono B.out.size))
      clear hb1 K1
      go_wp2
      go_ret
      exact ⟨ret_int E.out.symm, B1.out⟩
    | false =>
      have E := Lib.hid (E0.trans (if_neg (by rw [hs]; simp)))
      have HSL := Lib.hid hs
      clear E0 hs
      go_enter Tryz.func139, Tryz.ntmps139
      go_wp2_with fail
      refine (specShipOk s _ hw).mono ?_
      rw [HT.out]
      rintro e w1 ⟨rfl, hb1⟩
      have K1 := K.out.below hb1
      have z2 := K1.cell 2
      have z5 := K1.cell 5
      simp at z2 z5
      rw [HSL.out] at z5
      have B1 := Lib.hid (B.out.trans (hb1.mono B.out.size))
      clear hb1 K1
      go_wp2
      go_ret
      exact ⟨ret_int E.out.symm, B1.out⟩
set_option maxHeartbeats 2000000 in
theorem implSquatOf (s : ShipD) (w : World) (hw : s.wf) :
    Calls Tryz.prog 143 #[s.val] w fun e w' => e = .returned (.int .i64 (squatI s)) ∧ Below w.heap.size w w' := by
  have B := Lib.hid (Joins.below_alloc1 w (.cells #[.string s.name, .int .i64 s.length, .int .i64 s.draught, .int .i64 s.line, .int .i64 s.tugs, .bool s.slow] 65))
  have K := Lib.hid (Blk.new w #[.string s.name, .int .i64 s.length, .int .i64 s.draught, .int .i64 s.line, .int .i64 s.tugs, .bool s.slow] 65)
  obtain ⟨t, ht⟩ : ∃ t, shipB s = t := ⟨_, rfl⟩
  have HT := Lib.hid ht
  cases t with
  | false =>
    have E := Lib.hid (show squatI s = 0 from if_neg (by rw [ht]; simp))
    clear ht
    go_enter Tryz.func143, Tryz.ntmps143
    go_wp2_with fail
    refine (implShipOk s _ hw).mono ?_
    rw [HT.out]
    rintro e w1 ⟨rfl, hb1⟩
    have B1 := Lib.hid (B.out.trans (hb1.mono B.out.size))
    clear hb1
    go_wp2
    go_ret
    exact ⟨ret_int E.out.symm, B1.out⟩
  | true =>
    obtain ⟨-, -, -, d0, d1, -⟩ := shipB_true ht
    have v1 : IntKind.i64.wrap (s.draught.tdiv 50) = s.draught.tdiv 50 := by rw [IntKind.wrap_i64, Int.tdiv_eq_ediv_of_nonneg (by omega)]; omega
    have v2 : IntKind.i64.wrap (s.draught.tdiv 20) = s.draught.tdiv 20 := by rw [IntKind.wrap_i64, Int.tdiv_eq_ediv_of_nonneg (by omega)]; omega
    have E0 : squatI s = (if s.slow = true then s.draught.tdiv 50 else s.draught.tdiv 20) := if_pos ht
    clear ht
    cases hs : s.slow with
    | true =>
      have E := Lib.hid (E0.trans (if_pos hs))
      have HSL := Lib.hid hs
      clear E0 hs
      go_enter Tryz.func143, Tryz.ntmps143
      go_wp2_with fail
      refine (implShipOk s _ hw).mono ?_
      rw [HT.out]
      rintro e w1 ⟨rfl, hb1⟩
      have K1 := K.out.below hb1
      have z2 := K1.cell 2
      have z5 := K1.cell 5
      simp at z2 z5
      rw [HSL.out] at z5
      have B1 := Lib.hid (B.out.trans (hb1.mono B.out.size))
      clear hb1 K1
      go_wp2
      go_ret
      exact ⟨ret_int E.out.symm, B1.out⟩
    | false =>
      have E := Lib.hid (E0.trans (if_neg (by rw [hs]; simp)))
      have HSL := Lib.hid hs
      clear E0 hs
      go_enter Tryz.func143, Tryz.ntmps143
      go_wp2_with fail
      refine (implShipOk s _ hw).mono ?_
      rw [HT.out]
      rintro e w1 ⟨rfl, hb1⟩
      have K1 := K.out.below hb1
      have z2 := K1.cell 2
      have z5 := K1.cell 5
      simp at z2 z5
      rw [HSL.out] at z5
      have B1 := Lib.hid (B.out.trans (hb1.mono B.out.size))
      clear hb1 K1
      go_wp2
      go_ret
      exact ⟨ret_int E.out.symm, B1.out⟩
end Go.Proofs.YtooeikimoheecaaGreat
namespace Go.Proofs.YtooeikimoheecaaGreat
open Go.RowKit
set_option maxRecDepth 100000
/-- The other end of the i-th segment, or -1. -/
def endP (d : ChartD) (i p : Int) : Int := match segAt d i with | some s => otherI s p | none => -1
theorem endP_none {d : ChartD} {i p : Int} (h : segAt d i = none) : endP d i p = -1 := by unfold endP; rw [h]
theorem endP_some {d : ChartD} {i p : Int} {s : SegmentD} (h : segAt d i = some s) : endP d i p = otherI s p := by unfold endP; rw [h]
/-- Where a route that has come along out goes on by segment i; negative: nowhere. -/
def nextPt (d : ChartD) (out : List Int) (i : Int) : Int := if out.any (· == endP d i (out.getLast?.getD 0)) = true then -1 else endP d i (out.getLast?.getD 0)
theorem stepP_nextI (d : ChartD) (out : List Int) (i : Int) : stepP d (some out) i = if nextPt d out i < 0 then none else some (out ++ [nextPt d out i]) := by
  unfold stepP nextPt endP
  cases h : segAt d i with
  | none => simp
  | some s =>
    simp only
    by_cases h1 : out.any (· == otherI s (out.getLast?.getD 0)) = true
    · rw [if_pos h1, if_pos (.inr h1)]; simp
    · rw [if_neg h1]
      by_cases h2 : otherI s (out.getLast?.getD 0) < 0
      · rw [if_pos (.inl h2), if_pos h2]
      · rw [if_neg (by rintro (h | h) <;> contradiction), if_neg h2]
set_option maxHeartbeats 2000000 in
theorem implOther (v0 v1 : Value) (d : ChartD) (i p : Int) (w : World) (h : RdChart w v0 v1 d) :
    Calls Tryz.prog 124 #[.agg #[v0, v1], .int .i64 i, .int .i64 p] w fun e w' => e = .returned (.int .i64 (endP d i p)) ∧ Below w.heap.size w w' := by
  obtain ⟨h0, h1⟩ := h
  obtain ⟨A0, c0, rfl⟩ := h0.at
  obtain ⟨A1, c1, rfl⟩ := h1.at
  have B := Lib.hid (Joins.below_alloc1 w (.cells #[.slice A0 d.points.length c0, .slice A1 d.segs.length c1] 49))
  have H1 := Lib.hid h1
  have hl1 := h1.1
  clear h0 h1
  cases hin : inB i 0 ((d.segs.length : Int) - 1) with
  | false =>
    have HIN := Lib.hid hin
    have E := Lib.hid (endP_none (p := p) (segAt_out hin))
    clear hin
    go_enter Tryz.func124, Tryz.ntmps124
    go_wp2_with fail
    refine (isIndex_any _ _ _).mono ?_
    rw [HIN.out]
    rintro e w2 ⟨rfl, rfl⟩
    go_wp2
    go_ret
    exact ⟨ret_int E.out.symm, B.out⟩
  | true =>
    have HIN := Lib.hid hin
    obtain ⟨s, hs, hx, i0, ilt⟩ := segAt_in hin
    obtain ⟨k, rfl⟩ : ∃ k : Nat, i = (k : Int) := ⟨i.toNat, by omega⟩
    simp only [Int.toNat_natCast] at hx ilt
    have E0 := Lib.hid (endP_some (p := p) hs)
    clear hin hs i0
    rcases H1.out.2 with ⟨he, _⟩ | ⟨g, o, c, e, hpos, hcap, hc⟩
    · rw [he] at ilt; simp at ilt
    · injection e with hA _ hcp
      subst hA hcp
      obtain ⟨q0, q1, q2, q3, q4⟩ := SlSegment.cells hc k s hx
      have hg : g < w.heap.size := World.block_lt_of_cell? w ⟨g, o + k * 5, none⟩ q0
      have y0 := (B.out.cell (p := ⟨g, o + k * 5, none⟩) hg).trans q0
      have y1 := (B.out.cell (p := ⟨g, o + k * 5 + 1, none⟩) hg).trans q1
      have y2 := (B.out.cell (p := ⟨g, o + k * 5 + 2, none⟩) hg).trans q2
      have y3 := (B.out.cell (p := ⟨g, o + k * 5 + 3, none⟩) hg).trans q3
      have y4 := (B.out.cell (p := ⟨g, o + k * 5 + 4, none⟩) hg).trans q4
      obtain ⟨sa, sb, sd, sm, se⟩ := s
      clear q0 q1 q2 q3 q4 hx hc
      by_cases h1 : p = sa
      · have E := Lib.hid (show endP d (k : Int) p = sb by rw [E0.out]; exact if_pos h1)
        subst h1
        go_enter Tryz.func124, Tryz.ntmps124
        go_wp2_with fail
        refine (isIndex_any _ _ _).mono ?_
        rw [HIN.out]
        rintro e w2 ⟨rfl, rfl⟩
        go_wp2
        go_ret
        exact ⟨ret_int E.out.symm, B.out.alloc B.out.size _⟩
      · have e1 : (p == sa) = false := by simpa using h1
        by_cases h2 : p = sb
        · have E := Lib.hid (show endP d (k : Int) p = sa by rw [E0.out]; unfold otherI; rw [if_neg h1, if_pos h2])
          subst h2
          go_enter Tryz.func124, Tryz.ntmps124
          go_wp2_with fail
          refine (isIndex_any _ _ _).mono ?_
          rw [HIN.out]
          rintro e w2 ⟨rfl, rfl⟩
          go_wp2
          go_ret
          exact ⟨ret_int E.out.symm, B.out.alloc B.out.size _⟩
        · have e2 : (p == sb) = false := by simpa using h2
          have E := Lib.hid (show endP d (k : Int) p = -1 by rw [E0.out]; unfold otherI; rw [if_neg h1, if_neg h2])
          clear h1 h2
          go_enter Tryz.func124, Tryz.ntmps124
          go_wp2_with fail
          refine (isIndex_any _ _ _).mono ?_
          rw [HIN.out]
          rintro e w2 ⟨rfl, rfl⟩
          go_wp2
          go_ret
          exact ⟨ret_int E.out.symm, B.out.alloc B.out.size _⟩
set_option maxHeartbeats 1000000 in
theorem indexInt_any (v : Value) (l : List Int) (t : Int) (w : World) (h : SlInt w v l) :
    Calls Tryz.prog 137 #[v, .int .i64 t] w fun e w' => e = .returned (.int .i64 (firstI (fun x => t == x) l)) ∧ w = w' := by
  obtain ⟨hl, h⟩ := h
  rcases h with ⟨rfl, A, c, rfl⟩ | ⟨g, o, c, rfl, hp, hcap, hc⟩
  · go_enter Tryz.func137, Tryz.ntmps137
    go_wp2
    refine wp_loop_rounds 1 ?_
    rw [rounds_succ]
    go_wp2
    go_ret
    exact ⟨rfl, rfl⟩
  · have HC := Lib.hid hc
    clear hc
    go_enter Tryz.func137, Tryz.ntmps137
    go_wp2
    go_loop [8] (fun i => ∃ k : Nat, k ≤ l.length ∧ i = .int .i64 k ∧ Hid (NoOne (fun x => t == x) l k)) (fun i => l.length - (intOf i).toNat)
    case atStart => exact ⟨0, Nat.zero_le _, rfl, Lib.hid (NoOne.zero _ _)⟩
    case round =>
      obtain ⟨k, hk, rfl, hN⟩ := hrel
      by_cases hlt : k < l.length
      · obtain ⟨x, hx⟩ : ∃ x, l[k]? = some x := ⟨_, List.getElem?_eq_getElem hlt⟩
        have q0 := SlInt.cells HC.out k x hx
        have HX := Lib.hid hx
        clear hx
        cases he : (t == x) with
        | true =>
          have E := Lib.hid (firstI_at hN.out HX.out he)
          go_wp2
          go_ret
          exact ⟨ret_int E.out.symm, rfl⟩
        | false =>
          have N2 := Lib.hid (hN.out.next HX.out he)
          go_wp2
          go_round
          case rel => exact ⟨k + 1, by omega, by go_num, N2⟩
          case measure => simp [intOf]; omega
      · obtain rfl : k = l.length := by omega
        have E := Lib.hid (firstI_none hN.out)
        go_wp2
        go_ret
        exact ⟨ret_int E.out.symm, rfl⟩
theorem first_any (l : List Int) (t : Int) : decide (0 ≤ firstI (fun x => t == x) l) = l.any (· == t) := by
  unfold firstI
  cases h : l.findIdx? (fun x => t == x) with
  | none =>
    rw [List.findIdx?_eq_none_iff] at h
    rw [List.any_eq_false.2 (fun x hx => by have := h x hx; simp at this ⊢; exact fun e => this e.symm)]; rfl
  | some i =>
    rw [List.findIdx?_eq_some_iff_getElem] at h
    obtain ⟨hi, hj, _⟩ := h
    rw [List.any_eq_true.2 ⟨_, List.getElem_mem hi, by simp at hj ⊢; exact hj.symm⟩]
    exact decide_eq_true (show (0 : Int) ≤ (i : Int) by omega)
theorem contains_any (v : Value) (l : List Int) (t : Int) (w : World) (h : SlInt w v l) :
    Calls Tryz.prog 125 #[v, .int .i64 t] w fun e w' => e = .returned (.bool (l.any (· == t))) ∧ w = w' := by
  have HS := Lib.hid h
  have E := Lib.hid (first_any l t)
  obtain ⟨A, c, rfl⟩ := h.at
  clear h
  go_enter Tryz.func125, Tryz.ntmps125
  go_wp2_with fail
  refine (indexInt_any _ l t _ HS.out).mono ?_
  rintro e w2 ⟨rfl, rfl⟩
  go_wp2
  go_ret
  exact ⟨ret_bool E.out, rfl⟩
set_option maxHeartbeats 2000000 in
theorem implNext (v0 v1 : Value) (d : ChartD) (v : Value) (out : List Int) (i : Int) (w : World) (h : RdChart w v0 v1 d) (hv : SlInt w v out) (hne : out ≠ []) :
    Calls Tryz.prog 110 #[.agg #[v0, v1], v, .int .i64 i] w fun e w' => e = .returned (.int .i64 (nextPt d out i)) ∧ Below w.heap.size w w' := by
  have HR := Lib.hid h
  obtain ⟨h0, h1⟩ := h
  obtain ⟨A0, c0, rfl⟩ := h0.at
  obtain ⟨A1, c1, rfl⟩ := h1.at
  have HV := Lib.hid hv
  have hol := hv.1
  obtain ⟨W0, hW0⟩ : ∃ W0, W0 = (w.alloc (.cells #[.slice A0 d.points.length c0, .slice A1 d.segs.length c1] 49)) := ⟨_, rfl⟩
  have B := Lib.hid (show Below w.heap.size w W0 by rw [hW0]; exact Joins.below_alloc1 _ _)
  have BD := Lib.hid (show Below w.heap.size w W0.drew by rw [hW0]; exact (Joins.below_alloc1 _ _).drew)
  have bb : Blk W0 w.heap.size #[.slice A0 d.points.length c0, .slice A1 d.segs.length c1] 49 := by rw [hW0]; exact Blk.new w _ _
  have z0 := bb.cell 0
  have z1 := bb.cell 1
  simp at z0 z1
  have HW0 := Lib.hid hW0
  clear bb hW0
  clear h0 h1 hv
  rcases HV.out.2 with ⟨he, _⟩ | ⟨g, o, c, rfl, hpos, hcap, hc⟩
  · exact absurd he hne
  · obtain ⟨k, hk⟩ : ∃ k, out.length = k + 1 := ⟨out.length - 1, by omega⟩
    obtain ⟨z, hz⟩ : ∃ z, out[k]? = some z := ⟨_, List.getElem?_eq_getElem (by omega)⟩
    have hzl : out.getLast? = some z := by rw [List.getLast?_eq_getElem?, show out.length - 1 = k by omega]; exact hz
    have HZ := Lib.hid hzl
    have q0 := SlInt.cells hc k z hz
    have hg : g < w.heap.size := World.block_lt_of_cell? w ⟨g, o + k, none⟩ q0
    have y0 := (B.out.cell (p := ⟨g, o + k, none⟩) hg).trans q0
    have hkl : k < out.length := by omega
    have hsub : IntKind.i64.wrap ((out.length : Int) - 1) = (k : Int) := by rw [IntKind.wrap_i64]; omega
    clear q0 hz hc hzl hk
    obtain ⟨t, ht⟩ : ∃ t, endP d i z = t := ⟨_, rfl⟩
    have HT := Lib.hid ht
    obtain ⟨b, hb⟩ : ∃ b, out.any (· == t) = b := ⟨_, rfl⟩
    have HB := Lib.hid hb
    clear ht hb
    go_enter Tryz.func110, Tryz.ntmps110
    go_wp2
    rw [← HW0.out]
    clear HW0
    go_still_tail 8, (by kernel_rfl)
    change wpList _ _ _ _ _ W0.drew
    generalize W0.drew = w2 at BD ⊢
    clear y0 z0 z1
    go_wp2_with fail
    refine (implOther _ _ d i z _ (HR.out.below BD.out)).mono ?_
    rw [HT.out]
    rintro e w3 ⟨rfl, hb3⟩
    have B3 := Lib.hid (BD.out.trans (hb3.mono BD.out.size))
    clear hb3
    go_wp2_with fail
    refine (contains_any _ out t _ (HV.out.below B3.out)).mono ?_
    rw [HB.out]
    rintro e w4 ⟨rfl, rfl⟩
    cases b with
    | true =>
      have E := Lib.hid (show nextPt d out i = -1 by unfold nextPt; rw [HZ.out, Option.getD_some, HT.out, HB.out]; rfl)
      go_wp2
      go_ret
      exact ⟨ret_int E.out.symm, B3.out⟩
    | false =>
      have E := Lib.hid (show nextPt d out i = t by unfold nextPt; rw [HZ.out, Option.getD_some, HT.out, HB.out]; rfl)
      go_wp2
      go_ret
      exact ⟨ret_int E.out.symm, B3.out⟩
end Go.Proofs.YtooeikimoheecaaGreat
namespace Go.Proofs.YtooeikimoheecaaGreat
open Go.RowKit
set_option maxRecDepth 100000
/-- The level at the end of the band that the second argument picks; 0 outside. -/
def endI (hi : Bool) (m : Int) (l : List PartD) (s : List SurgeD) (t : Int) : Int := if sAt m l s t = true then levI m l t + (if hi = true then (atS s t).hi else (atS s t).lo) else 0
theorem endI_no {hi : Bool} {m : Int} {l : List PartD} {s : List SurgeD} {t : Int} (h : sAt m l s t = false) : endI hi m l s t = 0 := if_neg (by rw [h]; simp)
theorem endI_lo {m : Int} {l : List PartD} {s : List SurgeD} {t : Int} (h : sAt m l s t = true) : endI false m l s t = levI m l t + (atS s t).lo := if_pos h
theorem sAt_facts {m : Int} {l : List PartD} {s : List SurgeD} {t : Int} (h : sAt m l s t = true) : tideB m l = true ∧ 0 ≤ t ∧ t ≤ 2880 ∧ -5000 ≤ levI m l t ∧ levI m l t ≤ 5000 ∧ -500 ≤ (atS s t).lo ∧ (atS s t).lo ≤ (atS s t).hi ∧ (atS s t).hi ≤ 500 := by
  obtain ⟨hf, t0, t1⟩ := sAt_true h
  obtain ⟨ht, s0, _, _, hall⟩ := fcB_true hf
  obtain ⟨m0, m1, hlen, hpart⟩ := tideB_true ht
  have hl := levI_le m t l hpart
  have hs := surgeB_true (atS_ok (t := t) s0 hall)
  exact ⟨ht, t0, t1, by omega, by omega, hs.2.2.1, hs.2.2.2.1, hs.2.2.2.2⟩
theorem atI_sAt {m : Int} {l : List PartD} {s : List SurgeD} {t : Int} (h : sAt m l s t = true) : atI m l t = levI m l t := by
  obtain ⟨ht, t0, t1, _⟩ := sAt_facts h
  exact atI_yes ht t0 t1
theorem levelAt_keep {W : World} {b1 b2 : Nat} {m : Int} {v u : Value} {l : List PartD} {s : List SurgeD} {t xl xh : Int} (hT : FBox W b1 m v u l s) (w0 : World) (hb : Hid (Below W.heap.size W w0)) (h0 : w0.cell? ⟨b2, 0, none⟩ = some (.int .i64 xl)) (h1 : w0.cell? ⟨b2, 1, none⟩ = some (.int .i64 xh)) :
    Calls Tryz.prog 154 #[.agg #[.int .i64 m, v], .int .i64 t] w0 fun e w1 => e = .returned (.int .i64 (atI m l t)) ∧ w1.cell? ⟨b1, 0, none⟩ = some (.int .i64 m) ∧ w1.cell? ⟨b1, 1, none⟩ = some v ∧ w1.cell? ⟨b2, 0, none⟩ = some (.int .i64 xl) ∧ w1.cell? ⟨b2, 1, none⟩ = some (.int .i64 xh) ∧ Hid (Below W.heap.size W w1) := by
  have hT0 := hT.below hb.out
  refine (implLevelAt m v l t w0 hT0.2.2.2.1).mono ?_
  rintro e w1 ⟨rfl, hb1⟩
  have hT1 := hT0.below hb1
  exact ⟨rfl, hT1.1, hT1.2.1, cell_on h0 hb1, cell_on h1 hb1, Lib.hid (hb.out.trans (hb1.mono hb.out.size))⟩
set_option maxHeartbeats 2000000 in
theorem levelAtEndLo (m : Int) (v u : Value) (l : List PartD) (s : List SurgeD) (t : Int) (w : World) (h : SlP w v l) (h' : SlSurge w u s) :
    Calls Tryz.prog 151 #[.agg #[.int .i64 m, v, u], .int .i64 t, .int .i64 0] w fun e w' => e = .returned (.int .i64 (endI false m l s t)) ∧ Below w.heap.size w w' := by
  have H := Lib.hid h
  have H' := Lib.hid h'
  obtain ⟨A, c, rfl⟩ := h.at
  obtain ⟨A', c', rfl⟩ := h'.at
  clear h h'
  have F0 := Lib.hid (FBox.new 44 (m := m) H.out H'.out)
  have B0 := Lib.hid (Joins.below_alloc1 w (.cells #[.int .i64 m, .slice A l.length c, .slice A' s.length c'] 44))
  cases ha : sAt m l s t with
  | false =>
    have E := Lib.hid (endI_no (hi := false) ha)
    have R := Lib.hid (sRes_no ha)
    clear ha
    go_enter Tryz.func151, Tryz.ntmps151
    go_wp2_with fail
    refine (implSurgeAt m _ _ l s t _ F0.out.2.2.2.1 F0.out.2.2.2.2).mono ?_
    rw [R.out]
    rintro e w1 ⟨rfl, hb1⟩
    go_wp2
    go_ret
    exact ⟨ret_int E.out.symm, B0.out.trans (hb1.mono B0.out.size)⟩
  | true =>
    obtain ⟨_, _, _, l0, l1, q0, q1, q2⟩ := sAt_facts ha
    have E := Lib.hid (endI_lo ha)
    have R := Lib.hid (sRes_yes ha)
    have TA := Lib.hid (atI_sAt ha)
    obtain ⟨x, hx⟩ : ∃ x, atS s t = x := ⟨_, rfl⟩
    rw [hx] at q0 q1 q2
    have HX := Lib.hid hx
    obtain ⟨xa, xl, xh⟩ := x
    simp only at q0 q1 q2
    clear ha hx
    go_enter Tryz.func151, Tryz.ntmps151
    go_wp2_with fail
    refine (implSurgeAt m _ _ l s t _ F0.out.2.2.2.1 F0.out.2.2.2.2).mono ?_
    rw [R.out, HX.out]
    rintro e w1 ⟨rfl, hb1⟩
    have F1 := Lib.hid (F0.out.below hb1)
    have B1 := Lib.hid (B0.out.trans (hb1.mono B0.out.size))
    have hs := B1.out.size
    have hbs : w.heap.size < w1.heap.size := by have := hb1.size; simp at this; omega
    obtain ⟨x0, x1, _⟩ := F1.out
    clear hb1
    have D1 := Lib.hid (((Below.refl w1.heap.size w1).alloc (Nat.le_refl _) (.cells #[.int .i64 xl, .int .i64 xh] 196)).drew)
    have F2 := Lib.hid (F1.out.below ((Below.refl w1.heap.size w1).alloc (Nat.le_refl _) (.cells #[.int .i64 xl, .int .i64 xh] 196)))
    go_wp2
    go_region_held3 (fun w' => w'.cell? ⟨w.heap.size, 0, none⟩ = some (.int .i64 m) ∧ w'.cell? ⟨w.heap.size, 1, none⟩ = some (.slice A l.length c) ∧ w'.cell? ⟨w1.heap.size, 0, none⟩ = some (.int .i64 xl) ∧ w'.cell? ⟨w1.heap.size, 1, none⟩ = some (.int .i64 xh) ∧ Hid (Below w1.heap.size w1 w')) (go_keep)
      (first
        | (go_at_call 154; refine (levelAt_keep (b2 := w1.heap.size) (xl := xl) (xh := xh) (t := t) F1.out _ ?_ ?_ ?_).mono ?_; (simp [*]); (simp [*]); (simp [*]); rw [TA.out]; rintro e w7 ⟨rfl, y0, y1, y2, y3, y4⟩))
    all_goals
      go_wp2
      go_ret
      refine ⟨ret_int ?_, ?_⟩
      · rw [E.out, HX.out]; exact IntWalk.i64_in _ (by omega)
      · first | exact B1.out.trans (y4.out.mono B1.out.size) | skip
end Go.Proofs.YtooeikimoheecaaGreat
namespace Go.Proofs.YtooeikimoheecaaGreat
open Go.RowKit
set_option maxRecDepth 100000
def bits (f : Nat → Bool) : List Bool := (List.range 2881).map f
theorem bits_len (f : Nat → Bool) : (bits f).length = 2881 := by simp [bits]
theorem bits_at (f : Nat → Bool) {j : Nat} (h : j < 2881) : (bits f)[j]? = some (f j) := by
  unfold bits; rw [List.getElem?_map, List.getElem?_range h]; rfl
theorem ofMarks_congr {f g : Nat → Bool} : ∀ n, (∀ j, j < n → f j = g j) → ofMarks f n = ofMarks g n := by
  intro n
  induction n with
  | zero => intro _; rfl
  | succ n ih =>
    intro h
    have := ih fun j hj => h j (by omega)
    simp only [ofMarks, this, h n (by omega)]
theorem ofMarks_bits (f : Nat → Bool) : ofMarks (markF (bits f)) (bits f).length = ofMarks f 2881 := by
  rw [bits_len]
  exact ofMarks_congr 2881 fun j hj => markF_at (bits_at f hj)
theorem flat_bool (l : List Bool) : l.flatMap boolCells = l.map Value.bool := by
  induction l with
  | nil => rfl
  | cons b l ih => simp [List.flatMap_cons, ih]
theorem info_bool : (Tryz.prog.info? 4).map (fun i => (i.zero, i.size, i.bytes)) = some (some (.bool false), 1, 1) := by kernel_rfl
end Go.Proofs.YtooeikimoheecaaGreat
namespace Go.Proofs.YtooeikimoheecaaGreat
open Go.RowKit
set_option maxRecDepth 100000
theorem rteL_bad {d : ChartD} {fr : Int} {l : List Int} (h : chartB d = false) : rteL d fr l = [] := by unfold rteL; rw [routeB_bad h]; rfl
theorem rteL_off {d : ChartD} {fr : Int} {l : List Int} (h : inB fr 0 ((d.points.length : Int) - 1) = false) : rteL d fr l = [] := by unfold rteL; rw [routeB_off h]; rfl
theorem rteL_ok {d : ChartD} {fr : Int} {l : List Int} (h : chartB d = true) (h' : inB fr 0 ((d.points.length : Int) - 1) = true) : rteL d fr l = (ptsO d fr l).getD [] := by
  unfold rteL; rw [routeB_ok h h']
  cases ptsO d fr l <;> rfl
set_option maxHeartbeats 8000000 in
theorem implRoutePoints (v0 v1 : Value) (d : ChartD) (fr : Int) (v : Value) (l : List Int) (w : World) (h : RdChart w v0 v1 d) (hl : SlInt w v l) (hw : ∀ x ∈ d.points, PointD.wf x) :
    Calls Tryz.prog 89 #[.agg #[v0, v1], .int .i64 fr, v] w (NewInt (rteL d fr l) w) := by
  have HR := Lib.hid h
  have HWF := Lib.hid hw
  obtain ⟨h0, h1⟩ := h
  have hl0 := h0.1
  obtain ⟨A0, c0, rfl⟩ := h0.at
  obtain ⟨A1, c1, rfl⟩ := h1.at
  have HL := Lib.hid hl
  have hll := hl.1
  obtain ⟨A2, c2, rfl⟩ := hl.at
  have B := Lib.hid (Joins.below_alloc1 w (.cells #[.slice A0 d.points.length c0, .slice A1 d.segs.length c1] 49))
  have BB := Lib.hid (Blk.new w #[.slice A0 d.points.length c0, .slice A1 d.segs.length c1] 49)
  obtain ⟨i0, hin, hz0, hzs, hz2⟩ := info1_int
  have HI := Lib.hid hin
  clear h0 h1 hw hl hin
  cases hok : chartB d with
  | false =>
    have HOK := Lib.hid hok
    have E := Lib.hid (rteL_bad (fr := fr) (l := l) hok)
    rw [E.out]
    clear hok E
    go_enter Tryz.func89, Tryz.ntmps89
    go_wp2_with fail
    refine (implChartOk _ _ d _ (HR.out.below B.out) HWF.out).mono ?_
    rw [HOK.out]
    rintro e w1 ⟨rfl, hb1⟩
    have B1 := Lib.hid (B.out.trans (hb1.mono B.out.size))
    clear hb1
    go_wp2
    go_ret
    exact ⟨_, rfl, (GathO.empty (cs := intCells) (t := 3) (k := 1) B1.out).1, B1.out⟩
  | true =>
    have HOK := Lib.hid hok
    cases hinp : inB fr 0 ((d.points.length : Int) - 1) with
    | false =>
      have HIN := Lib.hid hinp
      have E := Lib.hid (rteL_off (l := l) hinp)
      rw [E.out]
      clear hok hinp E
      go_enter Tryz.func89, Tryz.ntmps89
      go_wp2_with fail
      refine (implChartOk _ _ d _ (HR.out.below B.out) HWF.out).mono ?_
      rw [HOK.out]
      rintro e w1 ⟨rfl, hb1⟩
      have B1 := Lib.hid (B.out.trans (hb1.mono B.out.size))
      have z0 := (BB.out.below hb1).cell 0
      simp at z0
      clear hb1
      go_wp2_with fail
      refine (isIndex_any _ _ _).mono ?_
      rw [HIN.out]
      rintro e w2 ⟨rfl, rfl⟩
      go_wp2
      go_ret
      exact ⟨_, rfl, (GathO.empty (cs := intCells) (t := 3) (k := 1) B1.out).1, B1.out⟩
    | true =>
      have HIN := Lib.hid hinp
      have E := Lib.hid (rteL_ok (l := l) hok hinp)
      rw [E.out]
      clear hok hinp E
      go_enter Tryz.func89, Tryz.ntmps89
      go_wp2_with fail
      refine (implChartOk _ _ d _ (HR.out.below B.out) HWF.out).mono ?_
      rw [HOK.out]
      rintro e w1 ⟨rfl, hb1⟩
      have B1 := Lib.hid (B.out.trans (hb1.mono B.out.size))
      have BB1 := Lib.hid (BB.out.below hb1)
      have z0 := BB1.out.cell 0
      simp at z0
      have hs1 : w.heap.size + 1 ≤ w1.heap.size := by have := hb1.size; simp at this; omega
      have G0 := Lib.hid (GathO.one (cs := intCells) (t := 3) (k := 1) (x := fr) (Below.refl w1.heap.size w1) rfl)
      clear hb1
      go_wp2_with fail
      refine (isIndex_any _ _ _).mono ?_
      rw [HIN.out]
      rintro e w2 ⟨rfl, rfl⟩
      go_wp2
      clear z0
      go_loopw [7, 26] (fun q i wr => ∃ (k : Nat) (out : List Int), k ≤ l.length ∧ Hid (out.length = k + 1) ∧ i = .int .i64 k ∧ Hid (ptsO d fr (l.take k) = some out) ∧ Hid (GathO 1 intCells 3 w1 q out wr)) (fun _ i _ => l.length - (intOf i).toNat)
      case atStart => exact ⟨0, [fr], Nat.zero_le _, Lib.hid rfl, rfl, Lib.hid rfl, G0⟩
      case round =>
        clear G0
        obtain ⟨k, out, hk, hol, rfl, hP, hG⟩ := hrel
        have hgs := hG.out.size
        have hbw : Hid (Below w.heap.size w wr) := Lib.hid (B1.out.trans (hG.out.2.mono B1.out.size))
        have z0 := (BB1.out.below hG.out.2).cell 0
        have z1 := (BB1.out.below hG.out.2).cell 1
        simp at z0 z1
        by_cases hlt : k < l.length
        rotate_left
        · obtain rfl : k = l.length := by omega
          have E := Lib.hid (show ptsO d fr l = some out by have := hP.out; rw [List.take_length] at this; exact this)
          have OW := Lib.hid (own_lo hG.out.1 (base' := w.heap.size) (by omega))
          obtain ⟨Q, cq, rfl⟩ := hG.out.form
          go_wp2
          refine bodyPost_ret (v := .slice Q out.length cq) (by simp [results, Tryz.results89, go_sem, *]) rfl ⟨_, rfl, by rw [E.out]; exact OW.out, hbw.out⟩
        · obtain ⟨i, hi⟩ : ∃ i, l[k]? = some i := ⟨_, List.getElem?_eq_getElem hlt⟩
          rcases HL.out.2 with ⟨he, _⟩ | ⟨g, o, c, e, hpos, hcap, hc⟩
          · rw [he] at hlt; simp at hlt
          · injection e with hA _ hcp
            subst hA hcp
            have q0 := SlInt.cells hc k i hi
            have hg : g < w.heap.size := World.block_lt_of_cell? w ⟨g, o + k, none⟩ q0
            have y0 := (hbw.out.cell (p := ⟨g, o + k, none⟩) hg).trans q0
            have HX := Lib.hid hi
            have hob : out.length ≤ 1000000001 := by have := hol.out; omega
            have hsl2 := Lib.hid (own_sl intLen hG.out.1 (by have := hol.out; omega))
            have hne : out ≠ [] := fun e => by have := hol.out; rw [e] at this; simp at this
            clear q0 hi hc
            obtain ⟨t, ht⟩ : ∃ t, nextPt d out i = t := ⟨_, rfl⟩
            have HT := Lib.hid ht
            have P1 := Lib.hid (show ptsO d fr (l.take (k + 1)) = if t < 0 then none else some (out ++ [t]) by rw [ptsO_next HX.out, hP.out, stepP_nextI, ht])
            obtain ⟨Q, cq, rfl⟩ := hG.out.form
            clear ht
            go_wp2_with fail
            refine (implNext _ _ d _ out i _ (HR.out.below hbw.out) hsl2.out hne).mono ?_
            rw [HT.out]
            rintro e w3 ⟨rfl, hb3⟩
            have hG3 := Lib.hid (hG.out.below hb3)
            have hbw3 := Lib.hid (hbw.out.trans (hb3.mono hbw.out.size))
            clear hb3 z0 z1 y0 hsl2 hG
            by_cases hneg : t < 0
            · have E := Lib.hid (ptsO_cut (k + 1) (show ptsO d fr (l.take (k + 1)) = none by rw [P1.out, if_pos hneg]))
              go_wp2
              refine bodyPost_ret (v := .slice none 0 0) (by simp [results, Tryz.results89, go_sem, *]) rfl ⟨_, rfl, by rw [E.out]; exact (GathO.empty (cs := intCells) (t := 3) (k := 1) hbw3.out).1, hbw3.out⟩
            · have P2 := Lib.hid (show ptsO d fr (l.take (k + 1)) = some (out ++ [t]) by rw [P1.out, if_neg hneg])
              have hnb : decide (t < 0) = false := decide_eq_false hneg
              have GW := Lib.hid (hG3.out.below (Joins.below_alloc1 w3 (.cells #[.int .i64 t] 3)))
              have HN := Lib.hid (World.news_of_block (heap_alloc_new w3 (.cells #[.int .i64 t] 3)))
              have hs3 := hG3.out.size
              have HN' := Lib.hid (show ∀ j u, (intCells t)[j]? = some u → (w3.alloc (.cells #[.int .i64 t] 3)).cell? ((⟨w3.heap.size, 0, none⟩ : Addr).add j) = some u from fun j u hu => HN.out j u (by simpa [intCells] using hu))
              go_wp2_with (at_builtin; refine wpList_append_lies _ rfl _ _ _ rfl w1.heap.size 3 i0 _ 1 8 Tryz.underlying61 HI.out hz0 (by assumption) hz2 rfl (by omega) (.slice Q out.length cq) out.length (out.flatMap intCells) rfl GW.out.1 ⟨w3.heap.size, 0, none⟩ 1 1 (intCells t) (by first | rfl | simp) rfl HN'.out (int_one _) (by omega) (by unfold maxLen; omega) (by omega) (by first | omega | (simp; done) | (simp; omega)) _ rfl ?_; intro g4 cap4 w4 hown4 hgrow4 hor4 hlt4; have GX := Lib.hid (GW.out.next hown4 hgrow4); clear hown4 hgrow4 hor4 hlt4)
              go_roundw
              case rel => exact ⟨k + 1, out ++ [t], by omega, Lib.hid (by have := hol.out; simp; omega), by go_num, P2, GX⟩
              case measure => simp [intOf]; omega
end Go.Proofs.YtooeikimoheecaaGreat
