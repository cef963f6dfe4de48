
/- What InOrderLaw rests on, part 24: contracts and mathematics. -/
import Derived.Test.YtooeikimoheecaaIo20
import Derived.Test.YtooeikimoheecaaIo16
import Derived.StillTailTactics
import Derived.Test.YtooeikimoheecaaIo15
namespace Go.Proofs.Ytooeikimoheecaa
open Go.RowKit
set_option maxRecDepth 100000
/-- The other end of the i-th segment, or -1. -/
def endP (d : ChartD) (i p : Int) : Int := match segAt d i with | some s => otherI s p | none => -1
theorem endP_none {d : ChartD} {i p : Int} (h : segAt d i = none) : endP d i p = -1 := by unfold endP; rw [h]
theorem endP_some {d : ChartD} {i p : Int} {s : SegmentD} (h : segAt d i = some s) : endP d i p = otherI s p := by unfold endP; rw [h]
/-- Where a route that has come along out goes on by segment i; negative: nowhere. -/
def nextPt (d : ChartD) (out : List Int) (i : Int) : Int := if out.any (· == endP d i (out.getLast?.getD 0)) = true then -1 else endP d i (out.getLast?.getD 0)
theorem stepP_nextI (d : ChartD) (out : List Int) (i : Int) : stepP d (some out) i = if nextPt d out i < 0 then none else some (out ++ [nextPt d out i]) := by
  unfold stepP nextPt endP
  cases h : segAt d i with
  | none => simp
  | some s =>
    simp only
    by_cases h1 : out.any (· == otherI s (out.getLast?.getD 0)) = true
    · rw [if_pos h1, if_pos (.inr h1)]; simp
    · rw [if_neg h1]
      by_cases h2 : otherI s (out.getLast?.getD 0) < 0
      · rw [if_pos (.inl h2), if_pos h2]
      · rw [if_neg (by rintro (h | h) <;> contradiction), if_neg h2]
set_option maxHeartbeats 2000000 in
theorem implOther (v0 v1 : Value) (d : ChartD) (i p : Int) (w : World) (h : RdChart w v0 v1 d) :
    Calls Try.prog 123 #[.agg #[v0, v1], .int .i64 i, .int .i64 p] w fun e w' => e = .returned (.int .i64 (endP d i p)) ∧ Below w.heap.size w w' := by
  obtain ⟨h0, h1⟩ := h
  obtain ⟨A0, c0, rfl⟩ := h0.at
  obtain ⟨A1, c1, rfl⟩ := h1.at
  have B := Lib.hid (Joins.below_alloc1 w (.cells #[.slice A0 d.points.length c0, .slice A1 d.segs.length c1] 32))
  have H1 := Lib.hid h1
  have hl1 := h1.1
  clear h0 h1
  cases hin : inB i 0 ((d.segs.length : Int) - 1) with
  | false =>
    have HIN := Lib.hid hin
    have E := Lib.hid (endP_none (p := p) (segAt_out hin))
    clear hin
    go_enter Try.func123, Try.ntmps123
    go_wp2_with fail
    refine (isIndex_any _ _ _).mono ?_
    rw [HIN.out]
    rintro e w2 ⟨rfl, rfl⟩
    go_wp2
    go_ret
    exact ⟨ret_int E.out.symm, B.out⟩
  | true =>
    have HIN := Lib.hid hin
    obtain ⟨s, hs, hx, i0, ilt⟩ := segAt_in hin
    obtain ⟨k, rfl⟩ : ∃ k : Nat, i = (k : Int) := ⟨i.toNat, by omega⟩
    simp only [Int.toNat_natCast] at hx ilt
    have E0 := Lib.hid (endP_some (p := p) hs)
    clear hin hs i0
    rcases H1.out.2 with ⟨he, _⟩ | ⟨g, o, c, e, hpos, hcap, hc⟩
    · rw [he] at ilt; simp at ilt
    · injection e with hA _ hcp
      subst hA hcp
      obtain ⟨q0, q1, q2, q3, q4⟩ := SlSegment.cells hc k s hx
      have hg : g < w.heap.size := World.block_lt_of_cell? w ⟨g, o + k * 5, none⟩ q0
      have y0 := (B.out.cell (p := ⟨g, o + k * 5, none⟩) hg).trans q0
      have y1 := (B.out.cell (p := ⟨g, o + k * 5 + 1, none⟩) hg).trans q1
      have y2 := (B.out.cell (p := ⟨g, o + k * 5 + 2, none⟩) hg).trans q2
      have y3 := (B.out.cell (p := ⟨g, o + k * 5 + 3, none⟩) hg).trans q3
      have y4 := (B.out.cell (p := ⟨g, o + k * 5 + 4, none⟩) hg).trans q4
      obtain ⟨sa, sb, sd, sm, se⟩ := s
      clear q0 q1 q2 q3 q4 hx hc
      by_cases h1 : p = sa
      · have E := Lib.hid (show endP d (k : Int) p = sb by rw [E0.out]; exact if_pos h1)
        subst h1
        go_enter Try.func123, Try.ntmps123
        go_wp2_with fail
        refine (isIndex_any _ _ _).mono ?_
        rw [HIN.out]
        rintro e w2 ⟨rfl, rfl⟩
        go_wp2
        go_ret
        exact ⟨ret_int E.out.symm, B.out.alloc B.out.size _⟩
      · have e1 : (p == sa) = false := by simpa using h1
        by_cases h2 : p = sb
        · have E := Lib.hid (show endP d (k : Int) p = sa by rw [E0.out]; unfold otherI; rw [if_neg h1, if_pos h2])
          subst h2
          go_enter Try.func123, Try.ntmps123
          go_wp2_with fail
          refine (isIndex_any _ _ _).mono ?_
          rw [HIN.out]
          rintro e w2 ⟨rfl, rfl⟩
          go_wp2
          go_ret
          exact ⟨ret_int E.out.symm, B.out.alloc B.out.size _⟩
        · have e2 : (p == sb) = false := by simpa using h2
          have E := Lib.hid (show endP d (k : Int) p = -1 by rw [E0.out]; unfold otherI; rw [if_neg h1, if_neg h2])
          clear h1 h2
          go_enter Try.func123, Try.ntmps123
          go_wp2_with fail
          refine (isIndex_any _ _ _).mono ?_
          rw [HIN.out]
          rintro e w2 ⟨rfl, rfl⟩
          go_wp2
          go_ret
          exact ⟨ret_int E.out.symm, B.out.alloc B.out.size _⟩
set_option maxHeartbeats 1000000 in
theorem indexInt_any (v : Value) (l : List Int) (t : Int) (w : World) (h : SlInt w v l) :
    Calls Try.prog 135 #[v, .int .i64 t] w fun e w' => e = .returned (.int .i64 (firstI (fun x => t == x) l)) ∧ w = w' := by
  obtain ⟨hl, h⟩ := h
  rcases h with ⟨rfl, A, c, rfl⟩ | ⟨g, o, c, rfl, hp, hcap, hc⟩
  · go_enter Try.func135, Try.ntmps135
    go_wp2
    refine wp_loop_rounds 1 ?_
    rw [rounds_succ]
    go_wp2
    go_ret
    exact ⟨rfl, rfl⟩
  · have HC := Lib.hid hc
    clear hc
    go_enter Try.func135, Try.ntmps135
    go_wp2
    go_loop [8] (fun i => ∃ k : Nat, k ≤ l.length ∧ i = .int .i64 k ∧ Hid (NoOne (fun x => t == x) l k)) (fun i => l.length - (intOf i).toNat)
    case atStart => exact ⟨0, Nat.zero_le _, rfl, Lib.hid (NoOne.zero _ _)⟩
    case round =>
      obtain ⟨k, hk, rfl, hN⟩ := hrel
      by_cases hlt : k < l.length
      · obtain ⟨x, hx⟩ : ∃ x, l[k]? = some x := ⟨_, List.getElem?_eq_getElem hlt⟩
        have q0 := SlInt.cells HC.out k x hx
        have HX := Lib.hid hx
        clear hx
        cases he : (t == x) with
        | true =>
          have E := Lib.hid (firstI_at hN.out HX.out he)
          go_wp2
          go_ret
          exact ⟨ret_int E.out.symm, rfl⟩
        | false =>
          have N2 := Lib.hid (hN.out.next HX.out he)
          go_wp2
          go_round
          case rel => exact ⟨k + 1, by omega, by go_num, N2⟩
          case measure => simp [intOf]; omega
      · obtain rfl : k = l.length := by omega
        have E := Lib.hid (firstI_none hN.out)
        go_wp2
        go_ret
        exact ⟨ret_int E.out.symm, rfl⟩
theorem first_any (l : List Int) (t : Int) : decide (0 ≤ firstI (fun x => t == x) l) = l.any (· == t) := by
  unfold firstI
  cases h : l.findIdx? (fun x => t == x) with
  | none =>
    rw [List.findIdx?_eq_none_iff] at h
    rw [List.any_eq_false.2 (fun x hx => by have := h x hx; simp at this ⊢; exact fun e => this e.symm)]; rfl
  | some i =>
    rw [List.findIdx?_eq_some_iff_getElem] at h
    obtain ⟨hi, hj, _⟩ := h
    rw [List.any_eq_true.2 ⟨_, List.getElem_mem hi, by simp at hj ⊢; exact hj.symm⟩]
    exact decide_eq_true (show (0 : Int) ≤ (i : Int) by omega)
theorem contains_any (v : Value) (l : List Int) (t : Int) (w : World) (h : SlInt w v l) :
    Calls Try.prog 124 #[v, .int .i64 t] w fun e w' => e = .returned (.bool (l.any (· == t))) ∧ w = w' := by
  have HS := Lib.hid h
  have E := Lib.hid (first_any l t)
  obtain ⟨A, c, rfl⟩ := h.at
  clear h
  go_enter Try.func124, Try.ntmps124
  go_wp2_with fail
  refine (indexInt_any _ l t _ HS.out).mono ?_
  rintro e w2 ⟨rfl, rfl⟩
  go_wp2
  go_ret
  exact ⟨ret_bool E.out, rfl⟩
set_option maxHeartbeats 2000000 in
theorem implNext (v0 v1 : Value) (d : ChartD) (v : Value) (out : List Int) (i : Int) (w : World) (h : RdChart w v0 v1 d) (hv : SlInt w v out) (hne : out ≠ []) :
    Calls Try.prog 107 #[.agg #[v0, v1], v, .int .i64 i] w fun e w' => e = .returned (.int .i64 (nextPt d out i)) ∧ Below w.heap.size w w' := by
  have HR := Lib.hid h
  obtain ⟨h0, h1⟩ := h
  obtain ⟨A0, c0, rfl⟩ := h0.at
  obtain ⟨A1, c1, rfl⟩ := h1.at
  have HV := Lib.hid hv
  have hol := hv.1
  obtain ⟨W0, hW0⟩ : ∃ W0, W0 = (w.alloc (.cells #[.slice A0 d.points.length c0, .slice A1 d.segs.length c1] 32)) := ⟨_, rfl⟩
  have B := Lib.hid (show Below w.heap.size w W0 by rw [hW0]; exact Joins.below_alloc1 _ _)
  have BD := Lib.hid (show Below w.heap.size w W0.drew by rw [hW0]; exact (Joins.below_alloc1 _ _).drew)
  have bb : Blk W0 w.heap.size #[.slice A0 d.points.length c0, .slice A1 d.segs.length c1] 32 := by rw [hW0]; exact Blk.new w _ _
  have z0 := bb.cell 0
  have z1 := bb.cell 1
  simp at z0 z1
  have HW0 := Lib.hid hW0
  clear bb hW0
  clear h0 h1 hv
  rcases HV.out.2 with ⟨he, _⟩ | ⟨g, o, c, rfl, hpos, hcap, hc⟩
  · exact absurd he hne
  · obtain ⟨k, hk⟩ : ∃ k, out.length = k + 1 := ⟨out.length - 1, by omega⟩
    obtain ⟨z, hz⟩ : ∃ z, out[k]? = some z := ⟨_, List.getElem?_eq_getElem (by omega)⟩
    have hzl : out.getLast? = some z := by rw [List.getLast?_eq_getElem?, show out.length - 1 = k by omega]; exact hz
    have HZ := Lib.hid hzl
    have q0 := SlInt.cells hc k z hz
    have hg : g < w.heap.size := World.block_lt_of_cell? w ⟨g, o + k, none⟩ q0
    have y0 := (B.out.cell (p := ⟨g, o + k, none⟩) hg).trans q0
    have hkl : k < out.length := by omega
    have hsub : IntKind.i64.wrap ((out.length : Int) - 1) = (k : Int) := by rw [IntKind.wrap_i64]; omega
    clear q0 hz hc hzl hk
    obtain ⟨t, ht⟩ : ∃ t, endP d i z = t := ⟨_, rfl⟩
    have HT := Lib.hid ht
    obtain ⟨b, hb⟩ : ∃ b, out.any (· == t) = b := ⟨_, rfl⟩
    have HB := Lib.hid hb
    clear ht hb
    go_enter Try.func107, Try.ntmps107
    go_wp2
    rw [← HW0.out]
    clear HW0
    go_still_tail 8, (by kernel_rfl)
    change wpList _ _ _ _ _ W0.drew
    generalize W0.drew = w2 at BD ⊢
    clear y0 z0 z1
    go_wp2_with fail
    refine (implOther _ _ d i z _ (HR.out.below BD.out)).mono ?_
    rw [HT.out]
    rintro e w3 ⟨rfl, hb3⟩
    have B3 := Lib.hid (BD.out.trans (hb3.mono BD.out.size))
    clear hb3
    go_wp2_with fail
    refine (contains_any _ out t _ (HV.out.below B3.out)).mono ?_
    rw [HB.out]
    rintro e w4 ⟨rfl, rfl⟩
    cases b with
    | true =>
      have E := Lib.hid (show nextPt d out i = -1 by unfold nextPt; rw [HZ.out, Option.getD_some, HT.out, HB.out]; rfl)
      go_wp2
      go_ret
      exact ⟨ret_int E.out.symm, B3.out⟩
    | false =>
      have E := Lib.hid (show nextPt d out i = t by unfold nextPt; rw [HZ.out, Option.getD_some, HT.out, HB.out]; rfl)
      go_wp2
      go_ret
      exact ⟨ret_int E.out.symm, B3.out⟩
set_option maxHeartbeats 4000000 in
theorem implRouteMinutes (v0 v1 : Value) (d : ChartD) (v : Value) (l : List Int) (w : World) (h : RdChart w v0 v1 d) (hl : SlInt w v l) (hw : ∀ x ∈ d.points, PointD.wf x) :
    Calls Try.prog 48 #[.agg #[v0, v1], v] w fun e w' => e = .returned (.int .i64 (minutesI d l)) ∧ Below w.heap.size w w' := by
  have HR := Lib.hid h
  have HWF := Lib.hid hw
  obtain ⟨h0, h1⟩ := h
  obtain ⟨A0, c0, rfl⟩ := h0.at
  obtain ⟨A1, c1, rfl⟩ := h1.at
  have HL := Lib.hid hl
  have hll := hl.1
  obtain ⟨A2, c2, rfl⟩ := hl.at
  have B := Lib.hid (Joins.below_alloc1 w (.cells #[.slice A0 d.points.length c0, .slice A1 d.segs.length c1] 32))
  have BB := Lib.hid (Blk.new w #[.slice A0 d.points.length c0, .slice A1 d.segs.length c1] 32)
  have H1 := Lib.hid h1
  have hl1 := h1.1
  clear h0 h1 hw hl
  cases hok : chartB d with
  | false =>
    have HOK := Lib.hid hok
    have E := Lib.hid (minutesI_bad (l := l) hok)
    clear hok
    go_enter Try.func48, Try.ntmps48
    go_wp2_with fail
    refine (implChartOk _ _ d _ (HR.out.below B.out) HWF.out).mono ?_
    rw [HOK.out]
    rintro e w1 ⟨rfl, hb1⟩
    have B1 := Lib.hid (B.out.trans (hb1.mono B.out.size))
    clear hb1
    go_wp2
    go_ret
    exact ⟨ret_int E.out.symm, B1.out⟩
  | true =>
    have HOK := Lib.hid hok
    have HG := Lib.hid (show minutesI d l = (minSum d l).getD (-1) from if_pos hok)
    clear hok
    go_enter Try.func48, Try.ntmps48
    go_wp2_with fail
    refine (implChartOk _ _ d _ (HR.out.below B.out) HWF.out).mono ?_
    rw [HOK.out]
    rintro e w1 ⟨rfl, hb1⟩
    have B1 := Lib.hid (B.out.trans (hb1.mono B.out.size))
    have hb1' := Lib.hid hb1
    clear hb1
    go_wp2
    go_loopw [5, 13] (fun q i wr => ∃ (k : Nat) (r : Int), k ≤ l.length ∧ i = .int .i64 k ∧ q = .int .i64 r ∧ Hid (minSum d (l.take k) = some r) ∧ wr = w1) (fun _ i _ => l.length - (intOf i).toNat)
    case atStart => exact ⟨0, 0, Nat.zero_le _, rfl, rfl, rfl, rfl⟩
    case round =>
      obtain ⟨k, r, hk, rfl, rfl, hM, rfl⟩ := hrel
      have z1 := (BB.out.below hb1'.out).cell 1
      simp at z1
      by_cases hlt : k < l.length
      · obtain ⟨i, hi⟩ : ∃ i, l[k]? = some i := ⟨_, List.getElem?_eq_getElem hlt⟩
        rcases HL.out.2 with ⟨he, _⟩ | ⟨g, o, c, e, hpos, hcap, hc⟩
        · rw [he] at hlt; simp at hlt
        · injection e with hA _ hcp
          subst hA hcp
          have q0 := SlInt.cells hc k i hi
          have hg : g < w.heap.size := World.block_lt_of_cell? w ⟨g, o + k, none⟩ q0
          have y0 := (B1.out.cell (p := ⟨g, o + k, none⟩) hg).trans q0
          have HI := Lib.hid hi
          have hr := minSum_pos HOK.out hM.out
          rw [List.length_take] at hr
          obtain ⟨hr0, hr1⟩ := hr
          clear q0 hi hc
          cases hin : inB i 0 ((d.segs.length : Int) - 1) with
          | false =>
            have HIN := Lib.hid hin
            have E := Lib.hid (show minutesI d l = -1 by rw [HG.out, minSum_none HI.out (segAt_out hin)]; rfl)
            clear hin
            go_wp2_with fail
            refine (isIndex_any _ _ _).mono ?_
            rw [HIN.out]
            rintro e w2 ⟨rfl, rfl⟩
            go_wp2
            go_ret
            exact ⟨ret_int E.out.symm, B1.out⟩
          | true =>
            have HIN := Lib.hid hin
            obtain ⟨s, hs, hx, i0, ilt⟩ := segAt_in hin
            have hsb := segB_true (chartB_seg HOK.out hx)
            obtain ⟨_, _, _, _, _, _, _, hm0, hm1⟩ := hsb
            have M2 := Lib.hid (show minSum d (l.take (k + 1)) = some (r + s.minutes) by rw [take_snoc' l k i HI.out, minSum_append, hM.out, hs])
            obtain ⟨n, rfl⟩ : ∃ n : Nat, i = (n : Int) := ⟨i.toNat, by omega⟩
            simp only [Int.toNat_natCast] at hx ilt
            clear hin hs i0
            rcases H1.out.2 with ⟨he, _⟩ | ⟨g', o', c', e', hpos', hcap', hc'⟩
            · rw [he] at ilt; simp at ilt
            · injection e' with hA' _ hcp'
              subst hA' hcp'
              obtain ⟨_, _, _, q3, _⟩ := SlSegment.cells hc' n s hx
              have hg' : g' < w.heap.size := World.block_lt_of_cell? w ⟨g', o' + n * 5 + 3, none⟩ q3
              have y3 := (B1.out.cell (p := ⟨g', o' + n * 5 + 3, none⟩) hg').trans q3
              clear q3 hx hc'
              have hadd : IntKind.i64.wrap (r + s.minutes) = r + s.minutes := by rw [IntKind.wrap_i64]; omega
              go_wp2_with fail
              refine (isIndex_any _ _ _).mono ?_
              rw [HIN.out]
              rintro e w2 ⟨rfl, rfl⟩
              go_wp2
              go_roundw
              case rel => exact ⟨k + 1, _, by omega, by go_num, rfl, M2, trivial⟩
              case measure => simp [intOf]; omega
      · obtain rfl : k = l.length := by omega
        have E := Lib.hid (show minutesI d l = r by have := hM.out; rw [List.take_length] at this; rw [HG.out, this]; rfl)
        go_wp2
        go_ret
        exact ⟨ret_int E.out.symm, B1.out⟩
end Go.Proofs.Ytooeikimoheecaa
namespace Go.Proofs.Ytooeikimoheecaa
open Go.RowKit
set_option maxRecDepth 100000
/-- The minutes of a valid ship on a segment. -/
def onMin (g : SegmentD) (s : ShipD) : Int := if s.slow = true then 2 * g.minutes else g.minutes
def minOn (d : ChartD) (i : Int) (s : ShipD) : Int := if chartB d = true ∧ shipB s = true then (match segAt d i with | some g => onMin g s | none => 0) else 0
theorem minOn_bad {d : ChartD} {i : Int} {s : ShipD} (h : chartB d = false ∨ shipB s = false) : minOn d i s = 0 := if_neg (by rintro ⟨h1, h2⟩; rcases h with h | h <;> simp_all)
theorem minOn_off {d : ChartD} {i : Int} {s : ShipD} (h : segAt d i = none) : minOn d i s = 0 := by unfold minOn; split <;> simp [h]
theorem minOn_ok {d : ChartD} {i : Int} {s : ShipD} {g : SegmentD} (h1 : chartB d = true) (h2 : shipB s = true) (h : segAt d i = some g) : minOn d i s = onMin g s := by unfold minOn; rw [if_pos ⟨h1, h2⟩, h]
/-- The chart, the segment and the ship are valid. -/
def sailB (d : ChartD) (i : Int) (s : ShipD) : Bool := chartB d && shipB s && inB i 0 ((d.segs.length : Int) - 1)
theorem sailB_true {d : ChartD} {i : Int} {s : ShipD} (h : sailB d i s = true) : chartB d = true ∧ shipB s = true ∧ ∃ g, segAt d i = some g ∧ d.segs[i.toNat]? = some g ∧ 0 ≤ i ∧ i.toNat < d.segs.length ∧ segB d.points.length g = true := by
  unfold sailB at h
  simp only [Bool.and_eq_true] at h
  obtain ⟨⟨h1, h2⟩, h3⟩ := h
  obtain ⟨g, hg, hx, i0, il⟩ := segAt_in h3
  exact ⟨h1, h2, g, hg, hx, i0, il, chartB_seg h1 hx⟩
theorem minOn_no {d : ChartD} {i : Int} {s : ShipD} (h : sailB d i s = false) : minOn d i s = 0 := by
  cases h1 : chartB d with
  | false => exact minOn_bad (.inl h1)
  | true =>
    cases h2 : shipB s with
    | false => exact minOn_bad (.inr h2)
    | true =>
      refine minOn_off (segAt_out ?_)
      unfold sailB at h
      rw [h1, h2] at h
      simpa using h
set_option maxHeartbeats 4000000 in
theorem implSail (v0 v1 : Value) (d : ChartD) (i : Int) (s : ShipD) (w : World) (h : RdChart w v0 v1 d) (hw : ∀ x ∈ d.points, PointD.wf x) (hs : s.wf) :
    Calls Try.prog 66 #[.agg #[v0, v1], .int .i64 i, s.val] w fun e w' => e = .returned (.bool (sailB d i s)) ∧ Below w.heap.size w w' := by
  have HR := Lib.hid h
  have HWF := Lib.hid hw
  have WS := Lib.hid hs
  obtain ⟨h0, h1⟩ := h
  obtain ⟨A0, c0, rfl⟩ := h0.at
  obtain ⟨A1, c1, rfl⟩ := h1.at
  obtain ⟨W0, hW0⟩ : ∃ W0, W0 = ((w.alloc (.cells #[.slice A0 d.points.length c0, .slice A1 d.segs.length c1] 32)).alloc (.cells #[.string s.name, .int .i64 s.length, .int .i64 s.draught, .int .i64 s.line, .int .i64 s.tugs, .bool s.slow] 46)) := ⟨_, rfl⟩
  have B := Lib.hid (Joins.below_alloc2 w (.cells #[.slice A0 d.points.length c0, .slice A1 d.segs.length c1] 32) (.cells #[.string s.name, .int .i64 s.length, .int .i64 s.draught, .int .i64 s.line, .int .i64 s.tugs, .bool s.slow] 46))
  have BC := Lib.hid ((Blk.new w #[.slice A0 d.points.length c0, .slice A1 d.segs.length c1] 32).below (Joins.below_alloc1 _ (.cells #[.string s.name, .int .i64 s.length, .int .i64 s.draught, .int .i64 s.line, .int .i64 s.tugs, .bool s.slow] 46)))
  have BS := Lib.hid (Blk.new (w.alloc (.cells #[.slice A0 d.points.length c0, .slice A1 d.segs.length c1] 32)) #[.string s.name, .int .i64 s.length, .int .i64 s.draught, .int .i64 s.line, .int .i64 s.tugs, .bool s.slow] 46)
  rw [World.size_alloc] at BS
  have HW0 := Lib.hid hW0
  rw [← hW0] at B BC BS
  have H1 := Lib.hid h1
  have hl1 := h1.1
  clear h0 h1 hw hs hW0
  obtain ⟨b1, hb1⟩ : ∃ b, chartB d = b := ⟨_, rfl⟩
  obtain ⟨b2, hb2⟩ : ∃ b, shipB s = b := ⟨_, rfl⟩
  obtain ⟨b3, hb3⟩ : ∃ b, inB i 0 ((d.segs.length : Int) - 1) = b := ⟨_, rfl⟩
  rw [show sailB d i s = (b1 && b2 && b3) by unfold sailB; rw [hb1, hb2, hb3]]
  have H1' := Lib.hid hb1
  have H2' := Lib.hid hb2
  have H3' := Lib.hid hb3
  clear hb1 hb2 hb3
  have p0 : W0.cell? ⟨w.heap.size, 0, none⟩ = some (.slice A0 d.points.length c0) := BC.out.cell 0
  have p1 : W0.cell? ⟨w.heap.size, 1, none⟩ = some (.slice A1 d.segs.length c1) := BC.out.cell 1
  cases b1 with
  | false =>
    rw [show (false && b2 && b3) = false by simp]
    go_enter Try.func66, Try.ntmps66
    go_wp2_with fail
    rw [← HW0.out]
    refine (implChartOk _ _ d _ (HR.out.below B.out) HWF.out).mono ?_
    rw [H1'.out]
    rintro e w1 ⟨rfl, hbk⟩
    have B1 := Lib.hid (B.out.trans (hbk.mono B.out.size))
    clear hbk p0 p1
    go_wp2
    go_ret
    exact ⟨rfl, B1.out⟩
  | true =>
  cases b2 with
  | false =>
    rw [show (true && false && b3) = false by simp]
    go_enter Try.func66, Try.ntmps66
    go_wp2_with fail
    rw [← HW0.out]
    refine (implChartOk _ _ d _ (HR.out.below B.out) HWF.out).mono ?_
    rw [H1'.out]
    rintro e w1 ⟨rfl, hbk⟩
    have B1 := Lib.hid (B.out.trans (hbk.mono B.out.size))
    have s0 : w1.cell? ⟨w.heap.size + 1, 0, none⟩ = some (.string s.name) := (BS.out.below hbk).cell 0
    have s1 : w1.cell? ⟨w.heap.size + 1, 1, none⟩ = some (.int .i64 s.length) := (BS.out.below hbk).cell 1
    have s2 : w1.cell? ⟨w.heap.size + 1, 2, none⟩ = some (.int .i64 s.draught) := (BS.out.below hbk).cell 2
    have s3 : w1.cell? ⟨w.heap.size + 1, 3, none⟩ = some (.int .i64 s.line) := (BS.out.below hbk).cell 3
    have s4 : w1.cell? ⟨w.heap.size + 1, 4, none⟩ = some (.int .i64 s.tugs) := (BS.out.below hbk).cell 4
    have s5 : w1.cell? ⟨w.heap.size + 1, 5, none⟩ = some (.bool s.slow) := (BS.out.below hbk).cell 5
    have BC1 := Lib.hid (BC.out.below hbk)
    clear hbk p0 p1
    go_wp2_with fail
    refine (implShipOk s _ WS.out).mono ?_
    rw [H2'.out]
    rintro e w2 ⟨rfl, hbk⟩
    have B2 := Lib.hid (B1.out.trans (hbk.mono B1.out.size))
    have p1 : w2.cell? ⟨w.heap.size, 1, none⟩ = some (.slice A1 d.segs.length c1) := (BC1.out.below hbk).cell 1
    clear hbk s0 s1 s2 s3 s4 s5
    go_wp2
    go_ret
    exact ⟨rfl, B2.out⟩
  | true =>
  rw [show (true && true && b3) = b3 by simp]
  go_enter Try.func66, Try.ntmps66
  go_wp2_with fail
  rw [← HW0.out]
  refine (implChartOk _ _ d _ (HR.out.below B.out) HWF.out).mono ?_
  rw [H1'.out]
  rintro e w1 ⟨rfl, hbk⟩
  have B1 := Lib.hid (B.out.trans (hbk.mono B.out.size))
  have s0 : w1.cell? ⟨w.heap.size + 1, 0, none⟩ = some (.string s.name) := (BS.out.below hbk).cell 0
  have s1 : w1.cell? ⟨w.heap.size + 1, 1, none⟩ = some (.int .i64 s.length) := (BS.out.below hbk).cell 1
  have s2 : w1.cell? ⟨w.heap.size + 1, 2, none⟩ = some (.int .i64 s.draught) := (BS.out.below hbk).cell 2
  have s3 : w1.cell? ⟨w.heap.size + 1, 3, none⟩ = some (.int .i64 s.line) := (BS.out.below hbk).cell 3
  have s4 : w1.cell? ⟨w.heap.size + 1, 4, none⟩ = some (.int .i64 s.tugs) := (BS.out.below hbk).cell 4
  have s5 : w1.cell? ⟨w.heap.size + 1, 5, none⟩ = some (.bool s.slow) := (BS.out.below hbk).cell 5
  have BC1 := Lib.hid (BC.out.below hbk)
  clear hbk p0 p1
  go_wp2_with fail
  refine (implShipOk s _ WS.out).mono ?_
  rw [H2'.out]
  rintro e w2 ⟨rfl, hbk⟩
  have B2 := Lib.hid (B1.out.trans (hbk.mono B1.out.size))
  have p1 : w2.cell? ⟨w.heap.size, 1, none⟩ = some (.slice A1 d.segs.length c1) := (BC1.out.below hbk).cell 1
  clear hbk s0 s1 s2 s3 s4 s5
  go_wp2_with fail
  refine (isIndex_any _ _ _).mono ?_
  rw [H3'.out]
  rintro e w3 ⟨rfl, rfl⟩
  go_wp2
  go_ret
  exact ⟨rfl, B2.out⟩
set_option maxHeartbeats 4000000 in
theorem implMinutesOn (v0 v1 : Value) (d : ChartD) (i : Int) (s : ShipD) (w : World) (h : RdChart w v0 v1 d) (hw : ∀ x ∈ d.points, PointD.wf x) (hs : s.wf) :
    Calls Try.prog 57 #[.agg #[v0, v1], .int .i64 i, s.val] w fun e w' => e = .returned (.int .i64 (minOn d i s)) ∧ Below w.heap.size w w' := by
  have HR := Lib.hid h
  have HWF := Lib.hid hw
  have WS := Lib.hid hs
  obtain ⟨h0, h1⟩ := h
  obtain ⟨A0, c0, rfl⟩ := h0.at
  obtain ⟨A1, c1, rfl⟩ := h1.at
  obtain ⟨W0, hW0⟩ : ∃ W0, W0 = ((w.alloc (.cells #[.slice A0 d.points.length c0, .slice A1 d.segs.length c1] 32)).alloc (.cells #[.string s.name, .int .i64 s.length, .int .i64 s.draught, .int .i64 s.line, .int .i64 s.tugs, .bool s.slow] 46)) := ⟨_, rfl⟩
  have B := Lib.hid (Joins.below_alloc2 w (.cells #[.slice A0 d.points.length c0, .slice A1 d.segs.length c1] 32) (.cells #[.string s.name, .int .i64 s.length, .int .i64 s.draught, .int .i64 s.line, .int .i64 s.tugs, .bool s.slow] 46))
  have BC := Lib.hid ((Blk.new w #[.slice A0 d.points.length c0, .slice A1 d.segs.length c1] 32).below (Joins.below_alloc1 _ (.cells #[.string s.name, .int .i64 s.length, .int .i64 s.draught, .int .i64 s.line, .int .i64 s.tugs, .bool s.slow] 46)))
  have BS := Lib.hid (Blk.new (w.alloc (.cells #[.slice A0 d.points.length c0, .slice A1 d.segs.length c1] 32)) #[.string s.name, .int .i64 s.length, .int .i64 s.draught, .int .i64 s.line, .int .i64 s.tugs, .bool s.slow] 46)
  rw [World.size_alloc] at BS
  have HW0 := Lib.hid hW0
  rw [← hW0] at B BC BS
  have H1 := Lib.hid h1
  have hl1 := h1.1
  clear h0 h1 hw hs hW0
  obtain ⟨t, ht⟩ : ∃ t, sailB d i s = t := ⟨_, rfl⟩
  have HT := Lib.hid ht
  have p0 : W0.cell? ⟨w.heap.size, 0, none⟩ = some (.slice A0 d.points.length c0) := BC.out.cell 0
  have p1 : W0.cell? ⟨w.heap.size, 1, none⟩ = some (.slice A1 d.segs.length c1) := BC.out.cell 1
  have s0 : W0.cell? ⟨w.heap.size + 1, 0, none⟩ = some (.string s.name) := BS.out.cell 0
  have s1 : W0.cell? ⟨w.heap.size + 1, 1, none⟩ = some (.int .i64 s.length) := BS.out.cell 1
  have s2 : W0.cell? ⟨w.heap.size + 1, 2, none⟩ = some (.int .i64 s.draught) := BS.out.cell 2
  have s3 : W0.cell? ⟨w.heap.size + 1, 3, none⟩ = some (.int .i64 s.line) := BS.out.cell 3
  have s4 : W0.cell? ⟨w.heap.size + 1, 4, none⟩ = some (.int .i64 s.tugs) := BS.out.cell 4
  have s5 : W0.cell? ⟨w.heap.size + 1, 5, none⟩ = some (.bool s.slow) := BS.out.cell 5
  cases t with
  | false =>
    have E := Lib.hid (minOn_no ht)
    clear ht
    go_enter Try.func57, Try.ntmps57
    go_wp2_with fail
    rw [← HW0.out]
    clear p0 p1 s0 s1 s2 s3 s4 s5
    refine (implSail _ _ d i s _ (HR.out.below B.out) HWF.out WS.out).mono ?_
    rw [HT.out]
    rintro e w1 ⟨rfl, hbk⟩
    have B1 := Lib.hid (B.out.trans (hbk.mono B.out.size))
    clear hbk
    go_wp2
    go_ret
    exact ⟨ret_int E.out.symm, B1.out⟩
  | true =>
    obtain ⟨ok1, ok2, g, hg, hx, i0, il, hsb⟩ := sailB_true ht
    have E := Lib.hid (minOn_ok ok1 ok2 hg)
    obtain ⟨-, -, -, -, -, -, -, m0, m1⟩ := segB_true hsb
    have hwr : IntKind.i64.wrap (2 * g.minutes) = 2 * g.minutes := by rw [IntKind.wrap_i64]; omega
    obtain ⟨k, rfl⟩ : ∃ n : Nat, i = (n : Int) := ⟨i.toNat, by omega⟩
    simp only [Int.toNat_natCast] at hx il
    obtain ⟨g', o', e', FD0⟩ : ∃ g' o', A1 = some ⟨g', o', none⟩ ∧ w.cell? ⟨g', o' + k * 5 + 3, none⟩ = some (.int .i64 g.minutes) := by
      rcases H1.out.2 with ⟨he, _⟩ | ⟨g', o', c', e, _, _, hc⟩
      · rw [he] at hx; simp at hx
      · injection e with hA _ _
        exact ⟨g', o', hA, (SlSegment.cells hc k g hx).2.2.2.1⟩
    subst e'
    clear ht hg hx hsb ok1 ok2 i0 m0 m1
    go_enter Try.func57, Try.ntmps57
    go_wp2_with fail
    rw [← HW0.out]
    clear p0 p1 s0 s1 s2 s3 s4 s5
    refine (implSail _ _ d (k : Int) s _ (HR.out.below B.out) HWF.out WS.out).mono ?_
    rw [HT.out]
    rintro e w1 ⟨rfl, hbk⟩
    have B1 := Lib.hid (B.out.trans (hbk.mono B.out.size))
    have FD := cell_onV FD0 B1.out
    have p0 : w1.cell? ⟨w.heap.size, 0, none⟩ = some (.slice A0 d.points.length c0) := (BC.out.below hbk).cell 0
    have p1 : w1.cell? ⟨w.heap.size, 1, none⟩ = some (.slice (some ⟨g', o', none⟩) d.segs.length c1) := (BC.out.below hbk).cell 1
    have s0 : w1.cell? ⟨w.heap.size + 1, 0, none⟩ = some (.string s.name) := (BS.out.below hbk).cell 0
    have s1 : w1.cell? ⟨w.heap.size + 1, 1, none⟩ = some (.int .i64 s.length) := (BS.out.below hbk).cell 1
    have s2 : w1.cell? ⟨w.heap.size + 1, 2, none⟩ = some (.int .i64 s.draught) := (BS.out.below hbk).cell 2
    have s3 : w1.cell? ⟨w.heap.size + 1, 3, none⟩ = some (.int .i64 s.line) := (BS.out.below hbk).cell 3
    have s4 : w1.cell? ⟨w.heap.size + 1, 4, none⟩ = some (.int .i64 s.tugs) := (BS.out.below hbk).cell 4
    have s5 : w1.cell? ⟨w.heap.size + 1, 5, none⟩ = some (.bool s.slow) := (BS.out.below hbk).cell 5
    clear hbk FD0
    cases hsl : s.slow with
    | true =>
      rw [hsl] at s5
      have E3 := Lib.hid (show minOn d (k : Int) s = 2 * g.minutes from E.out.trans (if_pos hsl))
      clear hsl E
      go_wp2
      go_ret
      exact ⟨ret_int E3.out.symm, B1.out⟩
    | false =>
      rw [hsl] at s5
      have E3 := Lib.hid (show minOn d (k : Int) s = g.minutes from E.out.trans (if_neg (by rw [hsl]; simp)))
      clear hsl E
      go_wp2
      go_ret
      exact ⟨ret_int E3.out.symm, B1.out⟩
end Go.Proofs.Ytooeikimoheecaa
