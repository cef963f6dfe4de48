
/- What ExactPassageOk and ExactArrivalOf and ExactPassagesOf and ExactIsChain rests on, part 17: contracts and mathematics. -/
import Derived.Test.YtooeikimoheecaaPa14
import Derived.Test.YtooeikimoheecaaPa12
import Derived.StillTailTactics
import Derived.Test.YtooeikimoheecaaPa16
import Derived.Test.YtooeikimoheecaaPa5
import Derived.Test.YtooeikimoheecaaPa1
import Derived.Test.YtooeikimoheecaaPa2
import Derived.Deep.AppendLies
import Derived.RangeFuncNested
import Derived.RangeFuncBound
import Derived.RangeFuncCalls
import Derived.RangeFuncLeaves
import Derived.Shelf.Abstract
import Derived.Shelf.RegionOpen
import Derived.WalkKit
import Derived.OwnWalkIn
import Derived.TacticsInMore
import Derived.LoopNIn
import Derived.LoopIn
import Derived.Maps.AppendAt
import Derived.Laws.AppendOwn
import Derived.OrdersIn
import Derived.Sort.CutIn
import Derived.BigRegionIn
import Derived.OrdersHeld
import Derived.Lib.Hide
import Derived.Test.YtooeikimoheecaaPa0
import Derived.Deep.RegionHeld3
import Derived.IntWalk
import Derived.Test.YtooeikimoheecaaPa7
import Derived.Test.YtooeikimoheecaaPa3
namespace Go.Proofs.Ytooeikimoheecaa
open Go.RowKit
set_option maxRecDepth 100000
/-- The other end of the i-th segment, or -1. -/
def endP (d : ChartD) (i p : Int) : Int := match segAt d i with | some s => otherI s p | none => -1
theorem endP_none {d : ChartD} {i p : Int} (h : segAt d i = none) : endP d i p = -1 := by unfold endP; rw [h]
theorem endP_some {d : ChartD} {i p : Int} {s : SegmentD} (h : segAt d i = some s) : endP d i p = otherI s p := by unfold endP; rw [h]
/-- Where a route that has come along out goes on by segment i; negative: nowhere. -/
def nextPt (d : ChartD) (out : List Int) (i : Int) : Int := if out.any (· == endP d i (out.getLast?.getD 0)) = true then -1 else endP d i (out.getLast?.getD 0)
theorem stepP_nextI (d : ChartD) (out : List Int) (i : Int) : stepP d (some out) i = if nextPt d out i < 0 then none else some (out ++ [nextPt d out i]) := by
  unfold stepP nextPt endP
  cases h : segAt d i with
  | none => simp
  | some s =>
    simp only
    by_cases h1 : out.any (· == otherI s (out.getLast?.getD 0)) = true
    · rw [if_pos h1, if_pos (.inr h1)]; simp
    · rw [if_neg h1]
      by_cases h2 : otherI s (out.getLast?.getD 0) < 0
      · rw [if_pos (.inl h2), if_pos h2]
      · rw [if_neg (by rintro (h | h) <;> contradiction), if_neg h2]
set_option maxHeartbeats 2000000 in
theorem implOther (v0 v1 : Value) (d : ChartD) (i p : Int) (w : World) (h : RdChart w v0 v1 d) :
    Calls Try.prog 123 #[.agg #[v0, v1], .int .i64 i, .int .i64 p] w fun e w' => e = .returned (.int .i64 (endP d i p)) ∧ Below w.heap.size w w' := by
  obtain ⟨h0, h1⟩ := h
  obtain ⟨A0, c0, rfl⟩ := h0.at
  obtain ⟨A1, c1, rfl⟩ := h1.at
  have B := Lib.hid (Joins.below_alloc1 w (.cells #[.slice A0 d.points.length c0, .slice A1 d.segs.length c1] 32))
  have H1 := Lib.hid h1
  have hl1 := h1.1
  clear h0 h1
  cases hin : inB i 0 ((d.segs.length : Int) - 1) with
  | false =>
    have HIN := Lib.hid hin
    have E := Lib.hid (endP_none (p := p) (segAt_out hin))
    clear hin
    go_enter Try.func123, Try.ntmps123
    go_wp2_with fail
    refine (isIndex_any _ _ _).mono ?_
    rw [HIN.out]
    rintro e w2 ⟨rfl, rfl⟩
    go_wp2
    go_ret
    exact ⟨ret_int E.out.symm, B.out⟩
  | true =>
    have HIN := Lib.hid hin
    obtain ⟨s, hs, hx, i0, ilt⟩ := segAt_in hin
    obtain ⟨k, rfl⟩ : ∃ k : Nat, i = (k : Int) := ⟨i.toNat, by omega⟩
    simp only [Int.toNat_natCast] at hx ilt
    have E0 := Lib.hid (endP_some (p := p) hs)
    clear hin hs i0
    rcases H1.out.2 with ⟨he, _⟩ | ⟨g, o, c, e, hpos, hcap, hc⟩
    · rw [he] at ilt; simp at ilt
    · injection e with hA _ hcp
      subst hA hcp
      obtain ⟨q0, q1, q2, q3, q4⟩ := SlSegment.cells hc k s hx
      have hg : g < w.heap.size := World.block_lt_of_cell? w ⟨g, o + k * 5, none⟩ q0
      have y0 := (B.out.cell (p := ⟨g, o + k * 5, none⟩) hg).trans q0
      have y1 := (B.out.cell (p := ⟨g, o + k * 5 + 1, none⟩) hg).trans q1
      have y2 := (B.out.cell (p := ⟨g, o + k * 5 + 2, none⟩) hg).trans q2
      have y3 := (B.out.cell (p := ⟨g, o + k * 5 + 3, none⟩) hg).trans q3
      have y4 := (B.out.cell (p := ⟨g, o + k * 5 + 4, none⟩) hg).trans q4
      obtain ⟨sa, sb, sd, sm, se⟩ := s
      clear q0 q1 q2 q3 q4 hx hc
      by_cases h1 : p = sa
      · have E := Lib.hid (show endP d (k : Int) p = sb by rw [E0.out]; exact if_pos h1)
        subst h1
        go_enter Try.func123, Try.ntmps123
        go_wp2_with fail
        refine (isIndex_any _ _ _).mono ?_
        rw [HIN.out]
        rintro e w2 ⟨rfl, rfl⟩
        go_wp2
        go_ret
        exact ⟨ret_int E.out.symm, B.out.alloc B.out.size _⟩
      · have e1 : (p == sa) = false := by simpa using h1
        by_cases h2 : p = sb
        · have E := Lib.hid (show endP d (k : Int) p = sa by rw [E0.out]; unfold otherI; rw [if_neg h1, if_pos h2])
          subst h2
          go_enter Try.func123, Try.ntmps123
          go_wp2_with fail
          refine (isIndex_any _ _ _).mono ?_
          rw [HIN.out]
          rintro e w2 ⟨rfl, rfl⟩
          go_wp2
          go_ret
          exact ⟨ret_int E.out.symm, B.out.alloc B.out.size _⟩
        · have e2 : (p == sb) = false := by simpa using h2
          have E := Lib.hid (show endP d (k : Int) p = -1 by rw [E0.out]; unfold otherI; rw [if_neg h1, if_neg h2])
          clear h1 h2
          go_enter Try.func123, Try.ntmps123
          go_wp2_with fail
          refine (isIndex_any _ _ _).mono ?_
          rw [HIN.out]
          rintro e w2 ⟨rfl, rfl⟩
          go_wp2
          go_ret
          exact ⟨ret_int E.out.symm, B.out.alloc B.out.size _⟩
set_option maxHeartbeats 1000000 in
theorem indexInt_any (v : Value) (l : List Int) (t : Int) (w : World) (h : SlInt w v l) :
    Calls Try.prog 135 #[v, .int .i64 t] w fun e w' => e = .returned (.int .i64 (firstI (fun x => t == x) l)) ∧ w = w' := by
  obtain ⟨hl, h⟩ := h
  rcases h with ⟨rfl, A, c, rfl⟩ | ⟨g, o, c, rfl, hp, hcap, hc⟩
  · go_enter Try.func135, Try.ntmps135
    go_wp2
    refine wp_loop_rounds 1 ?_
    rw [rounds_succ]
    go_wp2
    go_ret
    exact ⟨rfl, rfl⟩
  · have HC := Lib.hid hc
    clear hc
    go_enter Try.func135, Try.ntmps135
    go_wp2
    go_loop [8] (fun i => ∃ k : Nat, k ≤ l.length ∧ i = .int .i64 k ∧ Hid (NoOne (fun x => t == x) l k)) (fun i => l.length - (intOf i).toNat)
    case atStart => exact ⟨0, Nat.zero_le _, rfl, Lib.hid (NoOne.zero _ _)⟩
    case round =>
      obtain ⟨k, hk, rfl, hN⟩ := hrel
      by_cases hlt : k < l.length
      · obtain ⟨x, hx⟩ : ∃ x, l[k]? = some x := ⟨_, List.getElem?_eq_getElem hlt⟩
        have q0 := SlInt.cells HC.out k x hx
        have HX := Lib.hid hx
        clear hx
        cases he : (t == x) with
        | true =>
          have E := Lib.hid (firstI_at hN.out HX.out he)
          go_wp2
          go_ret
          exact ⟨ret_int E.out.symm, rfl⟩
        | false =>
          have N2 := Lib.hid (hN.out.next HX.out he)
          go_wp2
          go_round
          case rel => exact ⟨k + 1, by omega, by go_num, N2⟩
          case measure => simp [intOf]; omega
      · obtain rfl : k = l.length := by omega
        have E := Lib.hid (firstI_none hN.out)
        go_wp2
        go_ret
        exact ⟨ret_int E.out.symm, rfl⟩
theorem first_any (l : List Int) (t : Int) : decide (0 ≤ firstI (fun x => t == x) l) = l.any (· == t) := by
  unfold firstI
  cases h : l.findIdx? (fun x => t == x) with
  | none =>
    rw [List.findIdx?_eq_none_iff] at h
    rw [List.any_eq_false.2 (fun x hx => by have := h x hx; simp at this ⊢; exact fun e => this e.symm)]; rfl
  | some i =>
    rw [List.findIdx?_eq_some_iff_getElem] at h
    obtain ⟨hi, hj, _⟩ := h
    rw [List.any_eq_true.2 ⟨_, List.getElem_mem hi, by simp at hj ⊢; exact hj.symm⟩]
    exact decide_eq_true (show (0 : Int) ≤ (i : Int) by omega)
theorem contains_any (v : Value) (l : List Int) (t : Int) (w : World) (h : SlInt w v l) :
    Calls Try.prog 124 #[v, .int .i64 t] w fun e w' => e = .returned (.bool (l.any (· == t))) ∧ w = w' := by
  have HS := Lib.hid h
  have E := Lib.hid (first_any l t)
  obtain ⟨A, c, rfl⟩ := h.at
  clear h
  go_enter Try.func124, Try.ntmps124
  go_wp2_with fail
  refine (indexInt_any _ l t _ HS.out).mono ?_
  rintro e w2 ⟨rfl, rfl⟩
  go_wp2
  go_ret
  exact ⟨ret_bool E.out, rfl⟩
set_option maxHeartbeats 2000000 in
theorem implNext (v0 v1 : Value) (d : ChartD) (v : Value) (out : List Int) (i : Int) (w : World) (h : RdChart w v0 v1 d) (hv : SlInt w v out) (hne : out ≠ []) :
    Calls Try.prog 107 #[.agg #[v0, v1], v, .int .i64 i] w fun e w' => e = .returned (.int .i64 (nextPt d out i)) ∧ Below w.heap.size w w' := by
  have HR := Lib.hid h
  obtain ⟨h0, h1⟩ := h
  obtain ⟨A0, c0, rfl⟩ := h0.at
  obtain ⟨A1, c1, rfl⟩ := h1.at
  have HV := Lib.hid hv
  have hol := hv.1
  obtain ⟨W0, hW0⟩ : ∃ W0, W0 = (w.alloc (.cells #[.slice A0 d.points.length c0, .slice A1 d.segs.length c1] 32)) := ⟨_, rfl⟩
  have B := Lib.hid (show Below w.heap.size w W0 by rw [hW0]; exact Joins.below_alloc1 _ _)
  have BD := Lib.hid (show Below w.heap.size w W0.drew by rw [hW0]; exact (Joins.below_alloc1 _ _).drew)
  have bb : Blk W0 w.heap.size #[.slice A0 d.points.length c0, .slice A1 d.segs.length c1] 32 := by rw [hW0]; exact Blk.new w _ _
  have z0 := bb.cell 0
  have z1 := bb.cell 1
  simp at z0 z1
  have HW0 := Lib.hid hW0
  clear bb hW0
  clear h0 h1 hv
  rcases HV.out.2 with ⟨he, _⟩ | ⟨g, o, c, rfl, hpos, hcap, hc⟩
  · exact absurd he hne
  · obtain ⟨k, hk⟩ : ∃ k, out.length = k + 1 := ⟨out.length - 1, by omega⟩
    obtain ⟨z, hz⟩ : ∃ z, out[k]? = some z := ⟨_, List.getElem?_eq_getElem (by omega)⟩
    have hzl : out.getLast? = some z := by rw [List.getLast?_eq_getElem?, show out.length - 1 = k by omega]; exact hz
    have HZ := Lib.hid hzl
    have q0 := SlInt.cells hc k z hz
    have hg : g < w.heap.size := World.block_lt_of_cell? w ⟨g, o + k, none⟩ q0
    have y0 := (B.out.cell (p := ⟨g, o + k, none⟩) hg).trans q0
    have hkl : k < out.length := by omega
    have hsub : IntKind.i64.wrap ((out.length : Int) - 1) = (k : Int) := by rw [IntKind.wrap_i64]; omega
    clear q0 hz hc hzl hk
    obtain ⟨t, ht⟩ : ∃ t, endP d i z = t := ⟨_, rfl⟩
    have HT := Lib.hid ht
    obtain ⟨b, hb⟩ : ∃ b, out.any (· == t) = b := ⟨_, rfl⟩
    have HB := Lib.hid hb
    clear ht hb
    go_enter Try.func107, Try.ntmps107
    go_wp2
    rw [← HW0.out]
    clear HW0
    go_still_tail 8, (by kernel_rfl)
    change wpList _ _ _ _ _ W0.drew
    generalize W0.drew = w2 at BD ⊢
    clear y0 z0 z1
    go_wp2_with fail
    refine (implOther _ _ d i z _ (HR.out.below BD.out)).mono ?_
    rw [HT.out]
    rintro e w3 ⟨rfl, hb3⟩
    have B3 := Lib.hid (BD.out.trans (hb3.mono BD.out.size))
    clear hb3
    go_wp2_with fail
    refine (contains_any _ out t _ (HV.out.below B3.out)).mono ?_
    rw [HB.out]
    rintro e w4 ⟨rfl, rfl⟩
    cases b with
    | true =>
      have E := Lib.hid (show nextPt d out i = -1 by unfold nextPt; rw [HZ.out, Option.getD_some, HT.out, HB.out]; rfl)
      go_wp2
      go_ret
      exact ⟨ret_int E.out.symm, B3.out⟩
    | false =>
      have E := Lib.hid (show nextPt d out i = t by unfold nextPt; rw [HZ.out, Option.getD_some, HT.out, HB.out]; rfl)
      go_wp2
      go_ret
      exact ⟨ret_int E.out.symm, B3.out⟩
set_option maxHeartbeats 4000000 in
theorem implRouteMinutes (v0 v1 : Value) (d : ChartD) (v : Value) (l : List Int) (w : World) (h : RdChart w v0 v1 d) (hl : SlInt w v l) (hw : ∀ x ∈ d.points, PointD.wf x) :
    Calls Try.prog 48 #[.agg #[v0, v1], v] w fun e w' => e = .returned (.int .i64 (minutesI d l)) ∧ Below w.heap.size w w' := by
  have HR := Lib.hid h
  have HWF := Lib.hid hw
  obtain ⟨h0, h1⟩ := h
  obtain ⟨A0, c0, rfl⟩ := h0.at
  obtain ⟨A1, c1, rfl⟩ := h1.at
  have HL := Lib.hid hl
  have hll := hl.1
  obtain ⟨A2, c2, rfl⟩ := hl.at
  have B := Lib.hid (Joins.below_alloc1 w (.cells #[.slice A0 d.points.length c0, .slice A1 d.segs.length c1] 32))
  have BB := Lib.hid (Blk.new w #[.slice A0 d.points.length c0, .slice A1 d.segs.length c1] 32)
  have H1 := Lib.hid h1
  have hl1 := h1.1
  clear h0 h1 hw hl
  cases hok : chartB d with
  | false =>
    have HOK := Lib.hid hok
    have E := Lib.hid (minutesI_bad (l := l) hok)
    clear hok
    go_enter Try.func48, Try.ntmps48
    go_wp2_with fail
    refine (implChartOk _ _ d _ (HR.out.below B.out) HWF.out).mono ?_
    rw [HOK.out]
    rintro e w1 ⟨rfl, hb1⟩
    have B1 := Lib.hid (B.out.trans (hb1.mono B.out.size))
    clear hb1
    go_wp2
    go_ret
    exact ⟨ret_int E.out.symm, B1.out⟩
  | true =>
    have HOK := Lib.hid hok
    have HG := Lib.hid (show minutesI d l = (minSum d l).getD (-1) from if_pos hok)
    clear hok
    go_enter Try.func48, Try.ntmps48
    go_wp2_with fail
    refine (implChartOk _ _ d _ (HR.out.below B.out) HWF.out).mono ?_
    rw [HOK.out]
    rintro e w1 ⟨rfl, hb1⟩
    have B1 := Lib.hid (B.out.trans (hb1.mono B.out.size))
    have hb1' := Lib.hid hb1
    clear hb1
    go_wp2
    go_loopw [5, 13] (fun q i wr => ∃ (k : Nat) (r : Int), k ≤ l.length ∧ i = .int .i64 k ∧ q = .int .i64 r ∧ Hid (minSum d (l.take k) = some r) ∧ wr = w1) (fun _ i _ => l.length - (intOf i).toNat)
    case atStart => exact ⟨0, 0, Nat.zero_le _, rfl, rfl, rfl, rfl⟩
    case round =>
      obtain ⟨k, r, hk, rfl, rfl, hM, rfl⟩ := hrel
      have z1 := (BB.out.below hb1'.out).cell 1
      simp at z1
      by_cases hlt : k < l.length
      · obtain ⟨i, hi⟩ : ∃ i, l[k]? = some i := ⟨_, List.getElem?_eq_getElem hlt⟩
        rcases HL.out.2 with ⟨he, _⟩ | ⟨g, o, c, e, hpos, hcap, hc⟩
        · rw [he] at hlt; simp at hlt
        · injection e with hA _ hcp
          subst hA hcp
          have q0 := SlInt.cells hc k i hi
          have hg : g < w.heap.size := World.block_lt_of_cell? w ⟨g, o + k, none⟩ q0
          have y0 := (B1.out.cell (p := ⟨g, o + k, none⟩) hg).trans q0
          have HI := Lib.hid hi
          have hr := minSum_pos HOK.out hM.out
          rw [List.length_take] at hr
          obtain ⟨hr0, hr1⟩ := hr
          clear q0 hi hc
          cases hin : inB i 0 ((d.segs.length : Int) - 1) with
          | false =>
            have HIN := Lib.hid hin
            have E := Lib.hid (show minutesI d l = -1 by rw [HG.out, minSum_none HI.out (segAt_out hin)]; rfl)
            clear hin
            go_wp2_with fail
            refine (isIndex_any _ _ _).mono ?_
            rw [HIN.out]
            rintro e w2 ⟨rfl, rfl⟩
            go_wp2
            go_ret
            exact ⟨ret_int E.out.symm, B1.out⟩
          | true =>
            have HIN := Lib.hid hin
            obtain ⟨s, hs, hx, i0, ilt⟩ := segAt_in hin
            have hsb := segB_true (chartB_seg HOK.out hx)
            obtain ⟨_, _, _, _, _, _, _, hm0, hm1⟩ := hsb
            have M2 := Lib.hid (show minSum d (l.take (k + 1)) = some (r + s.minutes) by rw [take_snoc' l k i HI.out, minSum_append, hM.out, hs])
            obtain ⟨n, rfl⟩ : ∃ n : Nat, i = (n : Int) := ⟨i.toNat, by omega⟩
            simp only [Int.toNat_natCast] at hx ilt
            clear hin hs i0
            rcases H1.out.2 with ⟨he, _⟩ | ⟨g', o', c', e', hpos', hcap', hc'⟩
            · rw [he] at ilt; simp at ilt
            · injection e' with hA' _ hcp'
              subst hA' hcp'
              obtain ⟨_, _, _, q3, _⟩ := SlSegment.cells hc' n s hx
              have hg' : g' < w.heap.size := World.block_lt_of_cell? w ⟨g', o' + n * 5 + 3, none⟩ q3
              have y3 := (B1.out.cell (p := ⟨g', o' + n * 5 + 3, none⟩) hg').trans q3
              clear q3 hx hc'
              have hadd : IntKind.i64.wrap (r + s.minutes) = r + s.minutes := by rw [IntKind.wrap_i64]; omega
              go_wp2_with fail
              refine (isIndex_any _ _ _).mono ?_
              rw [HIN.out]
              rintro e w2 ⟨rfl, rfl⟩
              go_wp2
              go_roundw
              case rel => exact ⟨k + 1, _, by omega, by go_num, rfl, M2, trivial⟩
              case measure => simp [intOf]; omega
      · obtain rfl : k = l.length := by omega
        have E := Lib.hid (show minutesI d l = r by have := hM.out; rw [List.take_length] at this; rw [HG.out, this]; rfl)
        go_wp2
        go_ret
        exact ⟨ret_int E.out.symm, B1.out⟩
end Go.Proofs.Ytooeikimoheecaa
namespace Go.Proofs.Ytooeikimoheecaa
set_option maxRecDepth 100000
/-- The minutes on the segment: from 1 to 480 where all is valid. -/
theorem minOn_bnd {d : ChartD} {i : Int} {s : ShipD} (h : sailB d i s = true) : 1 ≤ minOn d i s ∧ minOn d i s ≤ 480 := by
  obtain ⟨h1, h2, g, hg, _, _, _, hs⟩ := sailB_true h
  obtain ⟨-, -, -, -, -, -, -, m0, m1⟩ := segB_true hs
  rw [minOn_ok h1 h2 hg]
  unfold onMin
  split <;> omega
end Go.Proofs.Ytooeikimoheecaa
namespace Go.Proofs.Ytooeikimoheecaa
open Go.RowKit
set_option maxRecDepth 100000
theorem rteL_bad {d : ChartD} {fr : Int} {l : List Int} (h : chartB d = false) : rteL d fr l = [] := by unfold rteL; rw [routeB_bad h]; rfl
theorem rteL_off {d : ChartD} {fr : Int} {l : List Int} (h : inB fr 0 ((d.points.length : Int) - 1) = false) : rteL d fr l = [] := by unfold rteL; rw [routeB_off h]; rfl
theorem rteL_ok {d : ChartD} {fr : Int} {l : List Int} (h : chartB d = true) (h' : inB fr 0 ((d.points.length : Int) - 1) = true) : rteL d fr l = (ptsO d fr l).getD [] := by
  unfold rteL; rw [routeB_ok h h']
  cases ptsO d fr l <;> rfl
set_option maxHeartbeats 8000000 in
theorem implRoutePoints (v0 v1 : Value) (d : ChartD) (fr : Int) (v : Value) (l : List Int) (w : World) (h : RdChart w v0 v1 d) (hl : SlInt w v l) (hw : ∀ x ∈ d.points, PointD.wf x) :
    Calls Try.prog 75 #[.agg #[v0, v1], .int .i64 fr, v] w (NewInt (rteL d fr l) w) := by
  have HR := Lib.hid h
  have HWF := Lib.hid hw
  obtain ⟨h0, h1⟩ := h
  have hl0 := h0.1
  obtain ⟨A0, c0, rfl⟩ := h0.at
  obtain ⟨A1, c1, rfl⟩ := h1.at
  have HL := Lib.hid hl
  have hll := hl.1
  obtain ⟨A2, c2, rfl⟩ := hl.at
  have B := Lib.hid (Joins.below_alloc1 w (.cells #[.slice A0 d.points.length c0, .slice A1 d.segs.length c1] 32))
  have BB := Lib.hid (Blk.new w #[.slice A0 d.points.length c0, .slice A1 d.segs.length c1] 32)
  obtain ⟨i0, hin, hz0, hzs, hz2⟩ := info1_int
  have HI := Lib.hid hin
  clear h0 h1 hw hl hin
  cases hok : chartB d with
  | false =>
    have HOK := Lib.hid hok
    have E := Lib.hid (rteL_bad (fr := fr) (l := l) hok)
    rw [E.out]
    clear hok E
    go_enter Try.func75, Try.ntmps75
    go_wp2_with fail
    refine (implChartOk _ _ d _ (HR.out.below B.out) HWF.out).mono ?_
    rw [HOK.out]
    rintro e w1 ⟨rfl, hb1⟩
    have B1 := Lib.hid (B.out.trans (hb1.mono B.out.size))
    clear hb1
    go_wp2
    go_ret
    exact ⟨_, rfl, (GathO.empty (cs := intCells) (t := 3) (k := 1) B1.out).1, B1.out⟩
  | true =>
    have HOK := Lib.hid hok
    cases hinp : inB fr 0 ((d.points.length : Int) - 1) with
    | false =>
      have HIN := Lib.hid hinp
      have E := Lib.hid (rteL_off (l := l) hinp)
      rw [E.out]
      clear hok hinp E
      go_enter Try.func75, Try.ntmps75
      go_wp2_with fail
      refine (implChartOk _ _ d _ (HR.out.below B.out) HWF.out).mono ?_
      rw [HOK.out]
      rintro e w1 ⟨rfl, hb1⟩
      have B1 := Lib.hid (B.out.trans (hb1.mono B.out.size))
      have z0 := (BB.out.below hb1).cell 0
      simp at z0
      clear hb1
      go_wp2_with fail
      refine (isIndex_any _ _ _).mono ?_
      rw [HIN.out]
      rintro e w2 ⟨rfl, rfl⟩
      go_wp2
      go_ret
      exact ⟨_, rfl, (GathO.empty (cs := intCells) (t := 3) (k := 1) B1.out).1, B1.out⟩
    | true =>
      have HIN := Lib.hid hinp
      have E := Lib.hid (rteL_ok (l := l) hok hinp)
      rw [E.out]
      clear hok hinp E
      go_enter Try.func75, Try.ntmps75
      go_wp2_with fail
      refine (implChartOk _ _ d _ (HR.out.below B.out) HWF.out).mono ?_
      rw [HOK.out]
      rintro e w1 ⟨rfl, hb1⟩
      have B1 := Lib.hid (B.out.trans (hb1.mono B.out.size))
      have BB1 := Lib.hid (BB.out.below hb1)
      have z0 := BB1.out.cell 0
      simp at z0
      have hs1 : w.heap.size + 1 ≤ w1.heap.size := by have := hb1.size; simp at this; omega
      have G0 := Lib.hid (GathO.one (cs := intCells) (t := 3) (k := 1) (x := fr) (Below.refl w1.heap.size w1) rfl)
      clear hb1
      go_wp2_with fail
      refine (isIndex_any _ _ _).mono ?_
      rw [HIN.out]
      rintro e w2 ⟨rfl, rfl⟩
      go_wp2
      clear z0
      go_loopw [7, 26] (fun q i wr => ∃ (k : Nat) (out : List Int), k ≤ l.length ∧ Hid (out.length = k + 1) ∧ i = .int .i64 k ∧ Hid (ptsO d fr (l.take k) = some out) ∧ Hid (GathO 1 intCells 3 w1 q out wr)) (fun _ i _ => l.length - (intOf i).toNat)
      case atStart => exact ⟨0, [fr], Nat.zero_le _, Lib.hid rfl, rfl, Lib.hid rfl, G0⟩
      case round =>
        clear G0
        obtain ⟨k, out, hk, hol, rfl, hP, hG⟩ := hrel
        have hgs := hG.out.size
        have hbw : Hid (Below w.heap.size w wr) := Lib.hid (B1.out.trans (hG.out.2.mono B1.out.size))
        have z0 := (BB1.out.below hG.out.2).cell 0
        have z1 := (BB1.out.below hG.out.2).cell 1
        simp at z0 z1
        by_cases hlt : k < l.length
        rotate_left
        · obtain rfl : k = l.length := by omega
          have E := Lib.hid (show ptsO d fr l = some out by have := hP.out; rw [List.take_length] at this; exact this)
          have OW := Lib.hid (own_lo hG.out.1 (base' := w.heap.size) (by omega))
          obtain ⟨Q, cq, rfl⟩ := hG.out.form
          go_wp2
          refine bodyPost_ret (v := .slice Q out.length cq) (by simp [results, Try.results75, go_sem, *]) rfl ⟨_, rfl, by rw [E.out]; exact OW.out, hbw.out⟩
        · obtain ⟨i, hi⟩ : ∃ i, l[k]? = some i := ⟨_, List.getElem?_eq_getElem hlt⟩
          rcases HL.out.2 with ⟨he, _⟩ | ⟨g, o, c, e, hpos, hcap, hc⟩
          · rw [he] at hlt; simp at hlt
          · injection e with hA _ hcp
            subst hA hcp
            have q0 := SlInt.cells hc k i hi
            have hg : g < w.heap.size := World.block_lt_of_cell? w ⟨g, o + k, none⟩ q0
            have y0 := (hbw.out.cell (p := ⟨g, o + k, none⟩) hg).trans q0
            have HX := Lib.hid hi
            have hob : out.length ≤ 1000000001 := by have := hol.out; omega
            have hsl2 := Lib.hid (own_sl intLen hG.out.1 (by have := hol.out; omega))
            have hne : out ≠ [] := fun e => by have := hol.out; rw [e] at this; simp at this
            clear q0 hi hc
            obtain ⟨t, ht⟩ : ∃ t, nextPt d out i = t := ⟨_, rfl⟩
            have HT := Lib.hid ht
            have P1 := Lib.hid (show ptsO d fr (l.take (k + 1)) = if t < 0 then none else some (out ++ [t]) by rw [ptsO_next HX.out, hP.out, stepP_nextI, ht])
            obtain ⟨Q, cq, rfl⟩ := hG.out.form
            clear ht
            go_wp2_with fail
            refine (implNext _ _ d _ out i _ (HR.out.below hbw.out) hsl2.out hne).mono ?_
            rw [HT.out]
            rintro e w3 ⟨rfl, hb3⟩
            have hG3 := Lib.hid (hG.out.below hb3)
            have hbw3 := Lib.hid (hbw.out.trans (hb3.mono hbw.out.size))
            clear hb3 z0 z1 y0 hsl2 hG
            by_cases hneg : t < 0
            · have E := Lib.hid (ptsO_cut (k + 1) (show ptsO d fr (l.take (k + 1)) = none by rw [P1.out, if_pos hneg]))
              go_wp2
              refine bodyPost_ret (v := .slice none 0 0) (by simp [results, Try.results75, go_sem, *]) rfl ⟨_, rfl, by rw [E.out]; exact (GathO.empty (cs := intCells) (t := 3) (k := 1) hbw3.out).1, hbw3.out⟩
            · have P2 := Lib.hid (show ptsO d fr (l.take (k + 1)) = some (out ++ [t]) by rw [P1.out, if_neg hneg])
              have hnb : decide (t < 0) = false := decide_eq_false hneg
              have GW := Lib.hid (hG3.out.below (Joins.below_alloc1 w3 (.cells #[.int .i64 t] 3)))
              have HN := Lib.hid (World.news_of_block (heap_alloc_new w3 (.cells #[.int .i64 t] 3)))
              have hs3 := hG3.out.size
              have HN' := Lib.hid (show ∀ j u, (intCells t)[j]? = some u → (w3.alloc (.cells #[.int .i64 t] 3)).cell? ((⟨w3.heap.size, 0, none⟩ : Addr).add j) = some u from fun j u hu => HN.out j u (by simpa [intCells] using hu))
              go_wp2_with (at_builtin; refine wpList_append_lies _ rfl _ _ _ rfl w1.heap.size 3 i0 _ 1 8 Try.underlying36 HI.out hz0 (by assumption) hz2 rfl (by omega) (.slice Q out.length cq) out.length (out.flatMap intCells) rfl GW.out.1 ⟨w3.heap.size, 0, none⟩ 1 1 (intCells t) (by first | rfl | simp) rfl HN'.out (int_one _) (by omega) (by unfold maxLen; omega) (by omega) (by first | omega | (simp; done) | (simp; omega)) _ rfl ?_; intro g4 cap4 w4 hown4 hgrow4 hor4 hlt4; have GX := Lib.hid (GW.out.next hown4 hgrow4); clear hown4 hgrow4 hor4 hlt4)
              go_roundw
              case rel => exact ⟨k + 1, out ++ [t], by omega, Lib.hid (by have := hol.out; simp; omega), by go_num, P2, GX⟩
              case measure => simp [intOf]; omega
end Go.Proofs.Ytooeikimoheecaa
