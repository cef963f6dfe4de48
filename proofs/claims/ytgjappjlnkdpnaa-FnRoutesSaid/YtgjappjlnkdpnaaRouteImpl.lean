
/- impl.otherEnd, OtherEnd, SegmentOf, RouteMinutes, nextPoint; slices.Contains over ints: contracts. -/
import Derived.Test.YtgjappjlnkdpnaaChartOkImpl
import Derived.Test.YtgjappjlnkdpnaaRoutes
import Derived.StillTailTactics
namespace Go.Proofs.Ytgjappjlnkdpnaa
open Go.RowKit
set_option maxRecDepth 100000

/-- The other end of the i-th segment, or -1. -/
def endP (d : ChartD) (i p : Int) : Int := match segAt d i with | some s => otherI s p | none => -1
theorem endP_none {d : ChartD} {i p : Int} (h : segAt d i = none) : endP d i p = -1 := by unfold endP; rw [h]
theorem endP_some {d : ChartD} {i p : Int} {s : SegmentD} (h : segAt d i = some s) : endP d i p = otherI s p := by unfold endP; rw [h]
theorem endI'_endP {d : ChartD} {i p : Int} (h : chartB d = true) : endI' d i p = endP d i p := if_pos h
/-- Where a route that has come along out goes on by segment i; negative: nowhere. -/
def nextI (d : ChartD) (out : List Int) (i : Int) : Int := if out.any (· == endP d i (out.getLast?.getD 0)) = true then -1 else endP d i (out.getLast?.getD 0)
theorem stepP_nextI (d : ChartD) (out : List Int) (i : Int) : stepP d (some out) i = if nextI d out i < 0 then none else some (out ++ [nextI d out i]) := by
  unfold stepP nextI endP
  cases h : segAt d i with
  | none => simp
  | some s =>
    simp only
    by_cases h1 : out.any (· == otherI s (out.getLast?.getD 0)) = true
    · rw [if_pos h1, if_pos (.inr h1)]; simp
    · rw [if_neg h1]
      by_cases h2 : otherI s (out.getLast?.getD 0) < 0
      · rw [if_pos (.inl h2), if_pos h2]
      · rw [if_neg (by rintro (h | h) <;> contradiction), if_neg h2]

set_option maxHeartbeats 2000000 in
theorem implOther (v0 v1 : Value) (d : ChartD) (i p : Int) (w : World) (h : RdChart w v0 v1 d) :
    Calls Try.prog 61 #[.agg #[v0, v1], .int .i64 i, .int .i64 p] w fun e w' => e = .returned (.int .i64 (endP d i p)) ∧ Below w.heap.size w w' := by
  obtain ⟨h0, h1⟩ := h
  obtain ⟨A0, c0, rfl⟩ := h0.at
  obtain ⟨A1, c1, rfl⟩ := h1.at
  have B := Lib.hid (Joins.below_alloc1 w (.cells #[.slice A0 d.points.length c0, .slice A1 d.segs.length c1] 26))
  have H1 := Lib.hid h1
  have hl1 := h1.1
  clear h0 h1
  cases hin : inB i 0 ((d.segs.length : Int) - 1) with
  | false =>
    have HIN := Lib.hid hin
    have E := Lib.hid (endP_none (p := p) (segAt_out hin))
    clear hin
    go_enter Try.func61, Try.ntmps61
    go_wp2_with fail
    refine (isIndex_any _ _ _).mono ?_
    rw [HIN.out]
    rintro e w2 ⟨rfl, rfl⟩
    go_wp2
    go_ret
    exact ⟨ret_int E.out.symm, B.out⟩
  | true =>
    have HIN := Lib.hid hin
    obtain ⟨s, hs, hx, i0, ilt⟩ := segAt_in hin
    obtain ⟨k, rfl⟩ : ∃ k : Nat, i = (k : Int) := ⟨i.toNat, by omega⟩
    simp only [Int.toNat_natCast] at hx ilt
    have E0 := Lib.hid (endP_some (p := p) hs)
    clear hin hs i0
    rcases H1.out.2 with ⟨he, _⟩ | ⟨g, o, c, e, hpos, hcap, hc⟩
    · rw [he] at ilt; simp at ilt
    · injection e with hA _ hcp
      subst hA hcp
      obtain ⟨q0, q1, q2, q3, q4⟩ := SlSegment.cells hc k s hx
      have hg : g < w.heap.size := World.block_lt_of_cell? w ⟨g, o + k * 5, none⟩ q0
      have y0 := (B.out.cell (p := ⟨g, o + k * 5, none⟩) hg).trans q0
      have y1 := (B.out.cell (p := ⟨g, o + k * 5 + 1, none⟩) hg).trans q1
      have y2 := (B.out.cell (p := ⟨g, o + k * 5 + 2, none⟩) hg).trans q2
      have y3 := (B.out.cell (p := ⟨g, o + k * 5 + 3, none⟩) hg).trans q3
      have y4 := (B.out.cell (p := ⟨g, o + k * 5 + 4, none⟩) hg).trans q4
      obtain ⟨sa, sb, sd, sm, se⟩ := s
      clear q0 q1 q2 q3 q4 hx hc
      by_cases h1 : p = sa
      · have E := Lib.hid (show endP d (k : Int) p = sb by rw [E0.out]; exact if_pos h1)
        subst h1
        go_enter Try.func61, Try.ntmps61
        go_wp2_with fail
        refine (isIndex_any _ _ _).mono ?_
        rw [HIN.out]
        rintro e w2 ⟨rfl, rfl⟩
        go_wp2
        go_ret
        exact ⟨ret_int E.out.symm, B.out.alloc B.out.size _⟩
      · have e1 : (p == sa) = false := by simpa using h1
        by_cases h2 : p = sb
        · have E := Lib.hid (show endP d (k : Int) p = sa by rw [E0.out]; unfold otherI; rw [if_neg h1, if_pos h2])
          subst h2
          go_enter Try.func61, Try.ntmps61
          go_wp2_with fail
          refine (isIndex_any _ _ _).mono ?_
          rw [HIN.out]
          rintro e w2 ⟨rfl, rfl⟩
          go_wp2
          go_ret
          exact ⟨ret_int E.out.symm, B.out.alloc B.out.size _⟩
        · have e2 : (p == sb) = false := by simpa using h2
          have E := Lib.hid (show endP d (k : Int) p = -1 by rw [E0.out]; unfold otherI; rw [if_neg h1, if_neg h2])
          clear h1 h2
          go_enter Try.func61, Try.ntmps61
          go_wp2_with fail
          refine (isIndex_any _ _ _).mono ?_
          rw [HIN.out]
          rintro e w2 ⟨rfl, rfl⟩
          go_wp2
          go_ret
          exact ⟨ret_int E.out.symm, B.out.alloc B.out.size _⟩

set_option maxHeartbeats 1000000 in
theorem indexInt_any (v : Value) (l : List Int) (t : Int) (w : World) (h : SlInt w v l) :
    Calls Try.prog 103 #[v, .int .i64 t] w fun e w' => e = .returned (.int .i64 (firstI (fun x => t == x) l)) ∧ w = w' := by
  obtain ⟨hl, h⟩ := h
  rcases h with ⟨rfl, A, c, rfl⟩ | ⟨g, o, c, rfl, hp, hcap, hc⟩
  · go_enter Try.func103, Try.ntmps103
    go_wp2
    refine wp_loop_rounds 1 ?_
    rw [rounds_succ]
    go_wp2
    go_ret
    exact ⟨rfl, rfl⟩
  · have HC := Lib.hid hc
    clear hc
    go_enter Try.func103, Try.ntmps103
    go_wp2
    go_loop [8] (fun i => ∃ k : Nat, k ≤ l.length ∧ i = .int .i64 k ∧ Hid (NoOne (fun x => t == x) l k)) (fun i => l.length - (intOf i).toNat)
    case atStart => exact ⟨0, Nat.zero_le _, rfl, Lib.hid (NoOne.zero _ _)⟩
    case round =>
      obtain ⟨k, hk, rfl, hN⟩ := hrel
      by_cases hlt : k < l.length
      · obtain ⟨x, hx⟩ : ∃ x, l[k]? = some x := ⟨_, List.getElem?_eq_getElem hlt⟩
        have q0 := SlInt.cells HC.out k x hx
        have HX := Lib.hid hx
        clear hx
        cases he : (t == x) with
        | true =>
          have E := Lib.hid (firstI_at hN.out HX.out he)
          go_wp2
          go_ret
          exact ⟨ret_int E.out.symm, rfl⟩
        | false =>
          have N2 := Lib.hid (hN.out.next HX.out he)
          go_wp2
          go_round
          case rel => exact ⟨k + 1, by omega, by go_num, N2⟩
          case measure => simp [intOf]; omega
      · obtain rfl : k = l.length := by omega
        have E := Lib.hid (firstI_none hN.out)
        go_wp2
        go_ret
        exact ⟨ret_int E.out.symm, rfl⟩
theorem first_any (l : List Int) (t : Int) : decide (0 ≤ firstI (fun x => t == x) l) = l.any (· == t) := by
  unfold firstI
  cases h : l.findIdx? (fun x => t == x) with
  | none =>
    rw [List.findIdx?_eq_none_iff] at h
    rw [List.any_eq_false.2 (fun x hx => by have := h x hx; simp at this ⊢; exact fun e => this e.symm)]; rfl
  | some i =>
    rw [List.findIdx?_eq_some_iff_getElem] at h
    obtain ⟨hi, hj, _⟩ := h
    rw [List.any_eq_true.2 ⟨_, List.getElem_mem hi, by simp at hj ⊢; exact hj.symm⟩]
    exact decide_eq_true (show (0 : Int) ≤ (i : Int) by omega)
theorem contains_any (v : Value) (l : List Int) (t : Int) (w : World) (h : SlInt w v l) :
    Calls Try.prog 88 #[v, .int .i64 t] w fun e w' => e = .returned (.bool (l.any (· == t))) ∧ w = w' := by
  have HS := Lib.hid h
  have E := Lib.hid (first_any l t)
  obtain ⟨A, c, rfl⟩ := h.at
  clear h
  go_enter Try.func88, Try.ntmps88
  go_wp2_with fail
  refine (indexInt_any _ l t _ HS.out).mono ?_
  rintro e w2 ⟨rfl, rfl⟩
  go_wp2
  go_ret
  exact ⟨ret_bool E.out, rfl⟩

set_option maxHeartbeats 2000000 in
theorem implNext (v0 v1 : Value) (d : ChartD) (v : Value) (out : List Int) (i : Int) (w : World) (h : RdChart w v0 v1 d) (hv : SlInt w v out) (hne : out ≠ []) :
    Calls Try.prog 60 #[.agg #[v0, v1], v, .int .i64 i] w fun e w' => e = .returned (.int .i64 (nextI d out i)) ∧ Below w.heap.size w w' := by
  have HR := Lib.hid h
  obtain ⟨h0, h1⟩ := h
  obtain ⟨A0, c0, rfl⟩ := h0.at
  obtain ⟨A1, c1, rfl⟩ := h1.at
  have HV := Lib.hid hv
  have hol := hv.1
  obtain ⟨W0, hW0⟩ : ∃ W0, W0 = (w.alloc (.cells #[.slice A0 d.points.length c0, .slice A1 d.segs.length c1] 26)) := ⟨_, rfl⟩
  have B := Lib.hid (show Below w.heap.size w W0 by rw [hW0]; exact Joins.below_alloc1 _ _)
  have BD := Lib.hid (show Below w.heap.size w W0.drew by rw [hW0]; exact (Joins.below_alloc1 _ _).drew)
  have bb : Blk W0 w.heap.size #[.slice A0 d.points.length c0, .slice A1 d.segs.length c1] 26 := by rw [hW0]; exact Blk.new w _ _
  have z0 := bb.cell 0
  have z1 := bb.cell 1
  simp at z0 z1
  have HW0 := Lib.hid hW0
  clear bb hW0
  clear h0 h1 hv
  rcases HV.out.2 with ⟨he, _⟩ | ⟨g, o, c, rfl, hpos, hcap, hc⟩
  · exact absurd he hne
  · obtain ⟨k, hk⟩ : ∃ k, out.length = k + 1 := ⟨out.length - 1, by omega⟩
    obtain ⟨z, hz⟩ : ∃ z, out[k]? = some z := ⟨_, List.getElem?_eq_getElem (by omega)⟩
    have hzl : out.getLast? = some z := by rw [List.getLast?_eq_getElem?, show out.length - 1 = k by omega]; exact hz
    have HZ := Lib.hid hzl
    have q0 := SlInt.cells hc k z hz
    have hg : g < w.heap.size := World.block_lt_of_cell? w ⟨g, o + k, none⟩ q0
    have y0 := (B.out.cell (p := ⟨g, o + k, none⟩) hg).trans q0
    have hkl : k < out.length := by omega
    have hsub : IntKind.i64.wrap ((out.length : Int) - 1) = (k : Int) := by rw [IntKind.wrap_i64]; omega
    clear q0 hz hc hzl hk
    obtain ⟨t, ht⟩ : ∃ t, endP d i z = t := ⟨_, rfl⟩
    have HT := Lib.hid ht
    obtain ⟨b, hb⟩ : ∃ b, out.any (· == t) = b := ⟨_, rfl⟩
    have HB := Lib.hid hb
    clear ht hb
    go_enter Try.func60, Try.ntmps60
    go_wp2
    rw [← HW0.out]
    clear HW0
    go_still_tail 8, (by kernel_rfl)
    change wpList _ _ _ _ _ W0.drew
    generalize W0.drew = w2 at BD ⊢
    clear y0 z0 z1
    go_wp2_with fail
    refine (implOther _ _ d i z _ (HR.out.below BD.out)).mono ?_
    rw [HT.out]
    rintro e w3 ⟨rfl, hb3⟩
    have B3 := Lib.hid (BD.out.trans (hb3.mono BD.out.size))
    clear hb3
    go_wp2_with fail
    refine (contains_any _ out t _ (HV.out.below B3.out)).mono ?_
    rw [HB.out]
    rintro e w4 ⟨rfl, rfl⟩
    cases b with
    | true =>
      have E := Lib.hid (show nextI d out i = -1 by unfold nextI; rw [HZ.out, Option.getD_some, HT.out, HB.out]; rfl)
      go_wp2
      go_ret
      exact ⟨ret_int E.out.symm, B3.out⟩
    | false =>
      have E := Lib.hid (show nextI d out i = t by unfold nextI; rw [HZ.out, Option.getD_some, HT.out, HB.out]; rfl)
      go_wp2
      go_ret
      exact ⟨ret_int E.out.symm, B3.out⟩

set_option maxHeartbeats 2000000 in
theorem implSegmentOf (v0 v1 : Value) (d : ChartD) (a b : Int) (w : World) (h : RdChart w v0 v1 d) (hw : ∀ x ∈ d.points, PointD.wf x) :
    Calls Try.prog 21 #[.agg #[v0, v1], .int .i64 a, .int .i64 b] w fun e w' => e = .returned (.int .i64 (segI d a b)) ∧ Below w.heap.size w w' := by
  have HR := Lib.hid h
  have HWF := Lib.hid hw
  obtain ⟨h0, h1⟩ := h
  obtain ⟨A0, c0, rfl⟩ := h0.at
  obtain ⟨A1, c1, rfl⟩ := h1.at
  have B := Lib.hid (Joins.below_alloc1 w (.cells #[.slice A0 d.points.length c0, .slice A1 d.segs.length c1] 26))
  have BB := Lib.hid (Blk.new w #[.slice A0 d.points.length c0, .slice A1 d.segs.length c1] 26)
  have H1 := Lib.hid h1
  clear h0 h1 hw
  cases hok : chartB d with
  | false =>
    have HOK := Lib.hid hok
    have E := Lib.hid (segI_bad (a := a) (b := b) hok)
    clear hok
    go_enter Try.func21, Try.ntmps21
    go_wp2_with fail
    refine (implChartOk _ _ d _ (HR.out.below B.out) HWF.out).mono ?_
    rw [HOK.out]
    rintro e w1 ⟨rfl, hb1⟩
    have B1 := Lib.hid (B.out.trans (hb1.mono B.out.size))
    clear hb1
    go_wp2
    go_ret
    exact ⟨ret_int E.out.symm, B1.out⟩
  | true =>
    have HOK := Lib.hid hok
    have E := Lib.hid (segI_ok (a := a) (b := b) hok)
    clear hok
    go_enter Try.func21, Try.ntmps21
    go_wp2_with fail
    refine (implChartOk _ _ d _ (HR.out.below B.out) HWF.out).mono ?_
    rw [HOK.out]
    rintro e w1 ⟨rfl, hb1⟩
    have B1 := Lib.hid (B.out.trans (hb1.mono B.out.size))
    have z1 := (BB.out.below hb1).cell 1
    simp at z1
    clear hb1
    go_wp2_with fail
    refine (implJoining _ d.segs a b _ (SlSegment.below H1.out B1.out)).mono ?_
    rintro e w2 ⟨rfl, hb2⟩
    have B2 := Lib.hid (B1.out.trans (hb2.mono B1.out.size))
    clear hb2 z1
    go_wp2
    go_ret
    exact ⟨ret_int E.out.symm, B2.out⟩

set_option maxHeartbeats 2000000 in
theorem implOtherEnd (v0 v1 : Value) (d : ChartD) (i p : Int) (w : World) (h : RdChart w v0 v1 d) (hw : ∀ x ∈ d.points, PointD.wf x) :
    Calls Try.prog 20 #[.agg #[v0, v1], .int .i64 i, .int .i64 p] w fun e w' => e = .returned (.int .i64 (endI' d i p)) ∧ Below w.heap.size w w' := by
  have HR := Lib.hid h
  have HWF := Lib.hid hw
  obtain ⟨h0, h1⟩ := h
  obtain ⟨A0, c0, rfl⟩ := h0.at
  obtain ⟨A1, c1, rfl⟩ := h1.at
  have B := Lib.hid (Joins.below_alloc1 w (.cells #[.slice A0 d.points.length c0, .slice A1 d.segs.length c1] 26))
  have BB := Lib.hid (Blk.new w #[.slice A0 d.points.length c0, .slice A1 d.segs.length c1] 26)
  clear h0 h1 hw
  cases hok : chartB d with
  | false =>
    have HOK := Lib.hid hok
    have E := Lib.hid (endI'_bad (i := i) (p := p) hok)
    clear hok
    go_enter Try.func20, Try.ntmps20
    go_wp2_with fail
    refine (implChartOk _ _ d _ (HR.out.below B.out) HWF.out).mono ?_
    rw [HOK.out]
    rintro e w1 ⟨rfl, hb1⟩
    have B1 := Lib.hid (B.out.trans (hb1.mono B.out.size))
    clear hb1
    go_wp2
    go_ret
    exact ⟨ret_int E.out.symm, B1.out⟩
  | true =>
    have HOK := Lib.hid hok
    have E := Lib.hid (endI'_endP (i := i) (p := p) hok)
    clear hok
    go_enter Try.func20, Try.ntmps20
    go_wp2_with fail
    refine (implChartOk _ _ d _ (HR.out.below B.out) HWF.out).mono ?_
    rw [HOK.out]
    rintro e w1 ⟨rfl, hb1⟩
    have B1 := Lib.hid (B.out.trans (hb1.mono B.out.size))
    have z0 := (BB.out.below hb1).cell 0
    have z1 := (BB.out.below hb1).cell 1
    simp at z0 z1
    clear hb1
    go_wp2_with fail
    refine (implOther _ _ d i p _ (HR.out.below B1.out)).mono ?_
    rintro e w2 ⟨rfl, hb2⟩
    have B2 := Lib.hid (B1.out.trans (hb2.mono B1.out.size))
    clear hb2 z0 z1
    go_wp2
    go_ret
    exact ⟨ret_int E.out.symm, B2.out⟩

set_option maxHeartbeats 4000000 in
theorem implRouteMinutes (v0 v1 : Value) (d : ChartD) (v : Value) (l : List Int) (w : World) (h : RdChart w v0 v1 d) (hl : SlInt w v l) (hw : ∀ x ∈ d.points, PointD.wf x) :
    Calls Try.prog 19 #[.agg #[v0, v1], v] w fun e w' => e = .returned (.int .i64 (minutesI d l)) ∧ Below w.heap.size w w' := by
  have HR := Lib.hid h
  have HWF := Lib.hid hw
  obtain ⟨h0, h1⟩ := h
  obtain ⟨A0, c0, rfl⟩ := h0.at
  obtain ⟨A1, c1, rfl⟩ := h1.at
  have HL := Lib.hid hl
  have hll := hl.1
  obtain ⟨A2, c2, rfl⟩ := hl.at
  have B := Lib.hid (Joins.below_alloc1 w (.cells #[.slice A0 d.points.length c0, .slice A1 d.segs.length c1] 26))
  have BB := Lib.hid (Blk.new w #[.slice A0 d.points.length c0, .slice A1 d.segs.length c1] 26)
  have H1 := Lib.hid h1
  have hl1 := h1.1
  clear h0 h1 hw hl
  cases hok : chartB d with
  | false =>
    have HOK := Lib.hid hok
    have E := Lib.hid (minutesI_bad (l := l) hok)
    clear hok
    go_enter Try.func19, Try.ntmps19
    go_wp2_with fail
    refine (implChartOk _ _ d _ (HR.out.below B.out) HWF.out).mono ?_
    rw [HOK.out]
    rintro e w1 ⟨rfl, hb1⟩
    have B1 := Lib.hid (B.out.trans (hb1.mono B.out.size))
    clear hb1
    go_wp2
    go_ret
    exact ⟨ret_int E.out.symm, B1.out⟩
  | true =>
    have HOK := Lib.hid hok
    have HG := Lib.hid (show minutesI d l = (minSum d l).getD (-1) from if_pos hok)
    clear hok
    go_enter Try.func19, Try.ntmps19
    go_wp2_with fail
    refine (implChartOk _ _ d _ (HR.out.below B.out) HWF.out).mono ?_
    rw [HOK.out]
    rintro e w1 ⟨rfl, hb1⟩
    have B1 := Lib.hid (B.out.trans (hb1.mono B.out.size))
    have hb1' := Lib.hid hb1
    clear hb1
    go_wp2
    go_loopw [5, 13] (fun q i wr => ∃ (k : Nat) (r : Int), k ≤ l.length ∧ i = .int .i64 k ∧ q = .int .i64 r ∧ Hid (minSum d (l.take k) = some r) ∧ wr = w1) (fun _ i _ => l.length - (intOf i).toNat)
    case atStart => exact ⟨0, 0, Nat.zero_le _, rfl, rfl, rfl, rfl⟩
    case round =>
      obtain ⟨k, r, hk, rfl, rfl, hM, rfl⟩ := hrel
      have z1 := (BB.out.below hb1'.out).cell 1
      simp at z1
      by_cases hlt : k < l.length
      · obtain ⟨i, hi⟩ : ∃ i, l[k]? = some i := ⟨_, List.getElem?_eq_getElem hlt⟩
        rcases HL.out.2 with ⟨he, _⟩ | ⟨g, o, c, e, hpos, hcap, hc⟩
        · rw [he] at hlt; simp at hlt
        · injection e with hA _ hcp
          subst hA hcp
          have q0 := SlInt.cells hc k i hi
          have hg : g < w.heap.size := World.block_lt_of_cell? w ⟨g, o + k, none⟩ q0
          have y0 := (B1.out.cell (p := ⟨g, o + k, none⟩) hg).trans q0
          have HI := Lib.hid hi
          have hr := minSum_pos HOK.out hM.out
          rw [List.length_take] at hr
          obtain ⟨hr0, hr1⟩ := hr
          clear q0 hi hc
          cases hin : inB i 0 ((d.segs.length : Int) - 1) with
          | false =>
            have HIN := Lib.hid hin
            have E := Lib.hid (show minutesI d l = -1 by rw [HG.out, minSum_none HI.out (segAt_out hin)]; rfl)
            clear hin
            go_wp2_with fail
            refine (isIndex_any _ _ _).mono ?_
            rw [HIN.out]
            rintro e w2 ⟨rfl, rfl⟩
            go_wp2
            go_ret
            exact ⟨ret_int E.out.symm, B1.out⟩
          | true =>
            have HIN := Lib.hid hin
            obtain ⟨s, hs, hx, i0, ilt⟩ := segAt_in hin
            have hsb := segB_true (chartB_seg HOK.out hx)
            obtain ⟨_, _, _, _, _, _, _, hm0, hm1⟩ := hsb
            have M2 := Lib.hid (show minSum d (l.take (k + 1)) = some (r + s.minutes) by rw [take_snoc' l k i HI.out, minSum_append, hM.out, hs])
            obtain ⟨n, rfl⟩ : ∃ n : Nat, i = (n : Int) := ⟨i.toNat, by omega⟩
            simp only [Int.toNat_natCast] at hx ilt
            clear hin hs i0
            rcases H1.out.2 with ⟨he, _⟩ | ⟨g', o', c', e', hpos', hcap', hc'⟩
            · rw [he] at ilt; simp at ilt
            · injection e' with hA' _ hcp'
              subst hA' hcp'
              obtain ⟨_, _, _, q3, _⟩ := SlSegment.cells hc' n s hx
              have hg' : g' < w.heap.size := World.block_lt_of_cell? w ⟨g', o' + n * 5 + 3, none⟩ q3
              have y3 := (B1.out.cell (p := ⟨g', o' + n * 5 + 3, none⟩) hg').trans q3
              clear q3 hx hc'
              have hadd : IntKind.i64.wrap (r + s.minutes) = r + s.minutes := by rw [IntKind.wrap_i64]; omega
              go_wp2_with fail
              refine (isIndex_any _ _ _).mono ?_
              rw [HIN.out]
              rintro e w2 ⟨rfl, rfl⟩
              go_wp2
              go_roundw
              case rel => exact ⟨k + 1, _, by omega, by go_num, rfl, M2, trivial⟩
              case measure => simp [intOf]; omega
      · obtain rfl : k = l.length := by omega
        have E := Lib.hid (show minutesI d l = r by have := hM.out; rw [List.take_length] at this; rw [HG.out, this]; rfl)
        go_wp2
        go_ret
        exact ⟨ret_int E.out.symm, B1.out⟩

end Go.Proofs.Ytgjappjlnkdpnaa
