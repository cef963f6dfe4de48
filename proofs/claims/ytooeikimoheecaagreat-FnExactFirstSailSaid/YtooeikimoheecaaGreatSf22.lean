
/- What ExactSailRoute and ExactFirstSail rests on, part 22: contracts and mathematics. -/
import Derived.Test.YtooeikimoheecaaGreatSf11
import Derived.Test.YtooeikimoheecaaGreatSf10
import Derived.Test.YtooeikimoheecaaGreatSf18
import Derived.StillTailTactics
namespace Go.Proofs.YtooeikimoheecaaGreat
open Go.RowKit
set_option maxRecDepth 100000
/-- The minutes of a valid ship on a segment. -/
def onMin (g : SegmentD) (s : ShipD) : Int := if s.slow = true then 2 * g.minutes else g.minutes
def minOn (d : ChartD) (i : Int) (s : ShipD) : Int := if chartB d = true ∧ shipB s = true then (match segAt d i with | some g => onMin g s | none => 0) else 0
theorem minOn_bad {d : ChartD} {i : Int} {s : ShipD} (h : chartB d = false ∨ shipB s = false) : minOn d i s = 0 := if_neg (by rintro ⟨h1, h2⟩; rcases h with h | h <;> simp_all)
theorem minOn_off {d : ChartD} {i : Int} {s : ShipD} (h : segAt d i = none) : minOn d i s = 0 := by unfold minOn; split <;> simp [h]
theorem minOn_ok {d : ChartD} {i : Int} {s : ShipD} {g : SegmentD} (h1 : chartB d = true) (h2 : shipB s = true) (h : segAt d i = some g) : minOn d i s = onMin g s := by unfold minOn; rw [if_pos ⟨h1, h2⟩, h]
set_option maxHeartbeats 2000000 in
theorem l06Minutes_any (g : SegmentD) (s : ShipD) (w : World) (h0 : 0 ≤ g.minutes) (h1 : g.minutes ≤ 240) :
    Calls Tryz.prog 86 #[g.val, s.val] w fun e w' => e = .returned (.int .i64 (onMin g s)) ∧ Below w.heap.size w w' := by
  obtain ⟨sa, sb, sd, sm, se⟩ := g
  obtain ⟨na, le, dr, li, tu, sl⟩ := s
  dsimp only at h0 h1
  have B := Lib.hid (Joins.below_alloc2 w (.cells #[.int .i64 sa, .int .i64 sb, .int .i64 sd, .int .i64 sm, .bool se] 121) (.cells #[.string na, .int .i64 le, .int .i64 dr, .int .i64 li, .int .i64 tu, .bool sl] 65))
  have hwr : IntKind.i64.wrap (2 * sm) = 2 * sm := by rw [IntKind.wrap_i64]; omega
  cases sl
  all_goals
    go_enter Tryz.func86, Tryz.ntmps86
    go_wp2
    go_ret
    exact ⟨ret_int rfl, B.out⟩
set_option maxHeartbeats 8000000 in
theorem specMinutesOn (v0 v1 : Value) (d : ChartD) (i : Int) (s : ShipD) (w : World) (h : RdChart w v0 v1 d) (hw : ∀ x ∈ d.points, PointD.wf x) (hs : s.wf) :
    Calls Tryz.prog 64 #[.agg #[v0, v1], .int .i64 i, s.val] w fun e w' => e = .returned (.int .i64 (minOn d i s)) ∧ Below w.heap.size w w' := by
  have HR := Lib.hid h
  have HWF := Lib.hid hw
  obtain ⟨h0, h1⟩ := h
  obtain ⟨A0, c0, rfl⟩ := h0.at
  obtain ⟨A1, c1, rfl⟩ := h1.at
  obtain ⟨W0, hW0⟩ : ∃ W0, W0 = ((w.alloc (.cells #[.slice A0 d.points.length c0, .slice A1 d.segs.length c1] 49)).alloc (.cells #[.string s.name, .int .i64 s.length, .int .i64 s.draught, .int .i64 s.line, .int .i64 s.tugs, .bool s.slow] 65)) := ⟨_, rfl⟩
  have B := Lib.hid (Joins.below_alloc2 w (.cells #[.slice A0 d.points.length c0, .slice A1 d.segs.length c1] 49) (.cells #[.string s.name, .int .i64 s.length, .int .i64 s.draught, .int .i64 s.line, .int .i64 s.tugs, .bool s.slow] 65))
  have BC := Lib.hid ((Blk.new w #[.slice A0 d.points.length c0, .slice A1 d.segs.length c1] 49).below (Joins.below_alloc1 _ (.cells #[.string s.name, .int .i64 s.length, .int .i64 s.draught, .int .i64 s.line, .int .i64 s.tugs, .bool s.slow] 65)))
  have BS := Lib.hid (Blk.new (w.alloc (.cells #[.slice A0 d.points.length c0, .slice A1 d.segs.length c1] 49)) #[.string s.name, .int .i64 s.length, .int .i64 s.draught, .int .i64 s.line, .int .i64 s.tugs, .bool s.slow] 65)
  rw [World.size_alloc] at BS
  have HW0 := Lib.hid hW0
  rw [← hW0] at B BC BS
  have H1 := Lib.hid h1
  have hl1 := h1.1
  clear h0 h1 hw hW0
  have WS := Lib.hid hs
  clear hs
  have p0 : W0.cell? ⟨w.heap.size, 0, none⟩ = some (.slice A0 d.points.length c0) := BC.out.cell 0
  have p1 : W0.cell? ⟨w.heap.size, 1, none⟩ = some (.slice A1 d.segs.length c1) := BC.out.cell 1
  cases hok : chartB d with
  | false =>
    have HOK := Lib.hid hok
    have E := Lib.hid (minOn_bad (i := i) (s := s) (.inl hok))
    clear hok
    go_enter Tryz.func64, Tryz.ntmps64
    go_wp2_with fail
    rw [← HW0.out]
    refine (specChartOk _ _ d _ (HR.out.below B.out) HWF.out).mono ?_
    rw [HOK.out]
    rintro e w1 ⟨rfl, hb1⟩
    have B1 := Lib.hid (B.out.trans (hb1.mono B.out.size))
    clear hb1 p0 p1
    go_wp2
    go_ret
    exact ⟨ret_int E.out.symm, B1.out⟩
  | true =>
  have HOK := Lib.hid hok
  clear hok
  cases hsk : shipB s with
  | false =>
    have HSK := Lib.hid hsk
    have E := Lib.hid (minOn_bad (d := d) (i := i) (.inr hsk))
    clear hsk
    go_enter Tryz.func64, Tryz.ntmps64
    go_wp2_with fail
    rw [← HW0.out]
    refine (specChartOk _ _ d _ (HR.out.below B.out) HWF.out).mono ?_
    rw [HOK.out]
    rintro e w1 ⟨rfl, hb1⟩
    have B1 := Lib.hid (B.out.trans (hb1.mono B.out.size))
    have K1 := BS.out.below hb1
    have s0 := K1.cell 0
    have s1 := K1.cell 1
    have s2 := K1.cell 2
    have s3 := K1.cell 3
    have s4 := K1.cell 4
    have s5 := K1.cell 5
    simp at s0 s1 s2 s3 s4 s5
    clear hb1 p0 p1 K1
    go_wp2_with fail
    refine (specShipOk s _ WS.out).mono ?_
    rw [HSK.out]
    rintro e w2 ⟨rfl, hb2⟩
    have B2 := Lib.hid (B1.out.trans (hb2.mono B1.out.size))
    clear hb2 s0 s1 s2 s3 s4 s5
    go_wp2
    go_ret
    exact ⟨ret_int E.out.symm, B2.out⟩
  | true =>
  have HSK := Lib.hid hsk
  clear hsk
  obtain ⟨b, hin⟩ : ∃ b, inB i 0 ((d.segs.length : Int) - 1) = b := ⟨_, rfl⟩
  have HIN := Lib.hid hin
  clear hin
  have REST : ∀ R : Int, minOn d i s = R → Calls Tryz.prog 64 #[.agg #[.slice A0 d.points.length c0, .slice A1 d.segs.length c1], .int .i64 i, s.val] w fun e w' => e = .returned (.int .i64 R) ∧ Below w.heap.size w w' := by
    intro R hR
    have E := Lib.hid hR
    clear hR
    go_enter Tryz.func64, Tryz.ntmps64
    go_wp2_with fail
    rw [← HW0.out]
    refine (specChartOk _ _ d _ (HR.out.below B.out) HWF.out).mono ?_
    rw [HOK.out]
    rintro e w1 ⟨rfl, hb1⟩
    have B1 := Lib.hid (B.out.trans (hb1.mono B.out.size))
    have K1 := BS.out.below hb1
    have s0 := K1.cell 0
    have s1 := K1.cell 1
    have s2 := K1.cell 2
    have s3 := K1.cell 3
    have s4 := K1.cell 4
    have s5 := K1.cell 5
    simp at s0 s1 s2 s3 s4 s5
    have BC1 := Lib.hid (BC.out.below hb1)
    have BS1 := Lib.hid K1
    clear hb1 p0 p1 K1
    go_wp2_with fail
    refine (specShipOk s _ WS.out).mono ?_
    rw [HSK.out]
    rintro e w2 ⟨rfl, hb2⟩
    have B2 := Lib.hid (B1.out.trans (hb2.mono B1.out.size))
    have BC2 := Lib.hid (BC1.out.below hb2)
    have BS2 := Lib.hid (BS1.out.below hb2)
    clear hb2 s0 s1 s2 s3 s4 s5
    have p0 : w2.cell? ⟨w.heap.size, 0, none⟩ = some (.slice A0 d.points.length c0) := BC2.out.cell 0
    have p1 : w2.cell? ⟨w.heap.size, 1, none⟩ = some (.slice A1 d.segs.length c1) := BC2.out.cell 1
    go_wp2_with fail
    refine (l01In_any _ _ _ _).mono ?_
    rw [HIN.out]
    rintro e w3 ⟨rfl, rfl⟩
    cases b with
    | false =>
      have E2 := Lib.hid (E.out.symm.trans (minOn_off (segAt_out HIN.out)))
      go_wp2
      go_ret
      exact ⟨ret_int E2.out.symm, B2.out⟩
    | true =>
      obtain ⟨sg, hsg, hx, i0', ilt⟩ := segAt_in HIN.out
      obtain ⟨-, -, -, -, -, -, -, m0, m1⟩ := segB_true (chartB_seg HOK.out hx)
      have E2 := Lib.hid (E.out.symm.trans (minOn_ok HOK.out HSK.out hsg))
      obtain ⟨k, rfl⟩ : ∃ n : Nat, i = (n : Int) := ⟨i.toNat, by omega⟩
      simp only [Int.toNat_natCast] at hx ilt
      clear hsg i0'
      rcases H1.out.2 with ⟨he, _⟩ | ⟨g', o', c', e', hpos', hcap', hc'⟩
      · rw [he] at ilt; simp at ilt
      · injection e' with hA' _ hcp'
        subst hA' hcp'
        obtain ⟨q0, q1, q2, q3, q4⟩ := SlSegment.cells hc' k sg hx
        have hg' : g' < w.heap.size := World.block_lt_of_cell? w ⟨g', o' + k * 5, none⟩ q0
        have y0 := (B2.out.cell (p := ⟨g', o' + k * 5, none⟩) hg').trans q0
        have y1 := (B2.out.cell (p := ⟨g', o' + k * 5 + 1, none⟩) hg').trans q1
        have y2 := (B2.out.cell (p := ⟨g', o' + k * 5 + 2, none⟩) hg').trans q2
        have y3 := (B2.out.cell (p := ⟨g', o' + k * 5 + 3, none⟩) hg').trans q3
        have y4 := (B2.out.cell (p := ⟨g', o' + k * 5 + 4, none⟩) hg').trans q4
        have s0 := BS2.out.cell 0
        have s1 := BS2.out.cell 1
        have s2 := BS2.out.cell 2
        have s3 := BS2.out.cell 3
        have s4 := BS2.out.cell 4
        have s5 := BS2.out.cell 5
        simp at s0 s1 s2 s3 s4 s5
        clear q0 q1 q2 q3 q4 hx hc' HIN

        go_wp2
        go_still_tail 6, (by kernel_rfl)
        change wpList _ _ _ _ _ w2.drew
        have B3 := Lib.hid (B2.out.trans ((Below.refl w2.heap.size w2).drew.mono B2.out.size))
        generalize w2.drew = w3 at B3 ⊢
        clear p0 p1 y0 y1 y2 y3 y4 s0 s1 s2 s3 s4 s5
        go_wp2_with fail
        refine (l06Minutes_any sg s _ (by omega) m1).mono ?_
        rintro e w4 ⟨rfl, hb4⟩
        have B4 := Lib.hid (B3.out.trans (hb4.mono B3.out.size))
        clear hb4
        go_wp2
        go_ret
        exact ⟨ret_int E2.out.symm, B4.out⟩
  exact REST _ rfl
/-- The chart, the segment and the ship are valid. -/
def sailB (d : ChartD) (i : Int) (s : ShipD) : Bool := chartB d && shipB s && inB i 0 ((d.segs.length : Int) - 1)
theorem sailB_true {d : ChartD} {i : Int} {s : ShipD} (h : sailB d i s = true) : chartB d = true ∧ shipB s = true ∧ ∃ g, segAt d i = some g ∧ d.segs[i.toNat]? = some g ∧ 0 ≤ i ∧ i.toNat < d.segs.length ∧ segB d.points.length g = true := by
  unfold sailB at h
  simp only [Bool.and_eq_true] at h
  obtain ⟨⟨h1, h2⟩, h3⟩ := h
  obtain ⟨g, hg, hx, i0, il⟩ := segAt_in h3
  exact ⟨h1, h2, g, hg, hx, i0, il, chartB_seg h1 hx⟩
theorem minOn_no {d : ChartD} {i : Int} {s : ShipD} (h : sailB d i s = false) : minOn d i s = 0 := by
  cases h1 : chartB d with
  | false => exact minOn_bad (.inl h1)
  | true =>
    cases h2 : shipB s with
    | false => exact minOn_bad (.inr h2)
    | true =>
      refine minOn_off (segAt_out ?_)
      unfold sailB at h
      rw [h1, h2] at h
      simpa using h
set_option maxHeartbeats 4000000 in
theorem implSail (v0 v1 : Value) (d : ChartD) (i : Int) (s : ShipD) (w : World) (h : RdChart w v0 v1 d) (hw : ∀ x ∈ d.points, PointD.wf x) (hs : s.wf) :
    Calls Tryz.prog 73 #[.agg #[v0, v1], .int .i64 i, s.val] w fun e w' => e = .returned (.bool (sailB d i s)) ∧ Below w.heap.size w w' := by
  have HR := Lib.hid h
  have HWF := Lib.hid hw
  have WS := Lib.hid hs
  obtain ⟨h0, h1⟩ := h
  obtain ⟨A0, c0, rfl⟩ := h0.at
  obtain ⟨A1, c1, rfl⟩ := h1.at
  obtain ⟨W0, hW0⟩ : ∃ W0, W0 = ((w.alloc (.cells #[.slice A0 d.points.length c0, .slice A1 d.segs.length c1] 49)).alloc (.cells #[.string s.name, .int .i64 s.length, .int .i64 s.draught, .int .i64 s.line, .int .i64 s.tugs, .bool s.slow] 65)) := ⟨_, rfl⟩
  have B := Lib.hid (Joins.below_alloc2 w (.cells #[.slice A0 d.points.length c0, .slice A1 d.segs.length c1] 49) (.cells #[.string s.name, .int .i64 s.length, .int .i64 s.draught, .int .i64 s.line, .int .i64 s.tugs, .bool s.slow] 65))
  have BC := Lib.hid ((Blk.new w #[.slice A0 d.points.length c0, .slice A1 d.segs.length c1] 49).below (Joins.below_alloc1 _ (.cells #[.string s.name, .int .i64 s.length, .int .i64 s.draught, .int .i64 s.line, .int .i64 s.tugs, .bool s.slow] 65)))
  have BS := Lib.hid (Blk.new (w.alloc (.cells #[.slice A0 d.points.length c0, .slice A1 d.segs.length c1] 49)) #[.string s.name, .int .i64 s.length, .int .i64 s.draught, .int .i64 s.line, .int .i64 s.tugs, .bool s.slow] 65)
  rw [World.size_alloc] at BS
  have HW0 := Lib.hid hW0
  rw [← hW0] at B BC BS
  have H1 := Lib.hid h1
  have hl1 := h1.1
  clear h0 h1 hw hs hW0
  obtain ⟨b1, hb1⟩ : ∃ b, chartB d = b := ⟨_, rfl⟩
  obtain ⟨b2, hb2⟩ : ∃ b, shipB s = b := ⟨_, rfl⟩
  obtain ⟨b3, hb3⟩ : ∃ b, inB i 0 ((d.segs.length : Int) - 1) = b := ⟨_, rfl⟩
  rw [show sailB d i s = (b1 && b2 && b3) by unfold sailB; rw [hb1, hb2, hb3]]
  have H1' := Lib.hid hb1
  have H2' := Lib.hid hb2
  have H3' := Lib.hid hb3
  clear hb1 hb2 hb3
  have p0 : W0.cell? ⟨w.heap.size, 0, none⟩ = some (.slice A0 d.points.length c0) := BC.out.cell 0
  have p1 : W0.cell? ⟨w.heap.size, 1, none⟩ = some (.slice A1 d.segs.length c1) := BC.out.cell 1
  cases b1 with
  | false =>
    rw [show (false && b2 && b3) = false by simp]
    go_enter Tryz.func73, Tryz.ntmps73
    go_wp2_with fail
    rw [← HW0.out]
    refine (implChartOk _ _ d _ (HR.out.below B.out) HWF.out).mono ?_
    rw [H1'.out]
    rintro e w1 ⟨rfl, hbk⟩
    have B1 := Lib.hid (B.out.trans (hbk.mono B.out.size))
    clear hbk p0 p1
    go_wp2
    go_ret
    exact ⟨rfl, B1.out⟩
  | true =>
  cases b2 with
  | false =>
    rw [show (true && false && b3) = false by simp]
    go_enter Tryz.func73, Tryz.ntmps73
    go_wp2_with fail
    rw [← HW0.out]
    refine (implChartOk _ _ d _ (HR.out.below B.out) HWF.out).mono ?_
    rw [H1'.out]
    rintro e w1 ⟨rfl, hbk⟩
    have B1 := Lib.hid (B.out.trans (hbk.mono B.out.size))
    have s0 : w1.cell? ⟨w.heap.size + 1, 0, none⟩ = some (.string s.name) := (BS.out.below hbk).cell 0
    have s1 : w1.cell? ⟨w.heap.size + 1, 1, none⟩ = some (.int .i64 s.length) := (BS.out.below hbk).cell 1
    have s2 : w1.cell? ⟨w.heap.size + 1, 2, none⟩ = some (.int .i64 s.draught) := (BS.out.below hbk).cell 2
    have s3 : w1.cell? ⟨w.heap.size + 1, 3, none⟩ = some (.int .i64 s.line) := (BS.out.below hbk).cell 3
    have s4 : w1.cell? ⟨w.heap.size + 1, 4, none⟩ = some (.int .i64 s.tugs) := (BS.out.below hbk).cell 4
    have s5 : w1.cell? ⟨w.heap.size + 1, 5, none⟩ = some (.bool s.slow) := (BS.out.below hbk).cell 5
    have BC1 := Lib.hid (BC.out.below hbk)
    clear hbk p0 p1
    go_wp2_with fail
    refine (implShipOk s _ WS.out).mono ?_
    rw [H2'.out]
    rintro e w2 ⟨rfl, hbk⟩
    have B2 := Lib.hid (B1.out.trans (hbk.mono B1.out.size))
    have p1 : w2.cell? ⟨w.heap.size, 1, none⟩ = some (.slice A1 d.segs.length c1) := (BC1.out.below hbk).cell 1
    clear hbk s0 s1 s2 s3 s4 s5
    go_wp2
    go_ret
    exact ⟨rfl, B2.out⟩
  | true =>
  rw [show (true && true && b3) = b3 by simp]
  go_enter Tryz.func73, Tryz.ntmps73
  go_wp2_with fail
  rw [← HW0.out]
  refine (implChartOk _ _ d _ (HR.out.below B.out) HWF.out).mono ?_
  rw [H1'.out]
  rintro e w1 ⟨rfl, hbk⟩
  have B1 := Lib.hid (B.out.trans (hbk.mono B.out.size))
  have s0 : w1.cell? ⟨w.heap.size + 1, 0, none⟩ = some (.string s.name) := (BS.out.below hbk).cell 0
  have s1 : w1.cell? ⟨w.heap.size + 1, 1, none⟩ = some (.int .i64 s.length) := (BS.out.below hbk).cell 1
  have s2 : w1.cell? ⟨w.heap.size + 1, 2, none⟩ = some (.int .i64 s.draught) := (BS.out.below hbk).cell 2
  have s3 : w1.cell? ⟨w.heap.size + 1, 3, none⟩ = some (.int .i64 s.line) := (BS.out.below hbk).cell 3
  have s4 : w1.cell? ⟨w.heap.size + 1, 4, none⟩ = some (.int .i64 s.tugs) := (BS.out.below hbk).cell 4
  have s5 : w1.cell? ⟨w.heap.size + 1, 5, none⟩ = some (.bool s.slow) := (BS.out.below hbk).cell 5
  have BC1 := Lib.hid (BC.out.below hbk)
  clear hbk p0 p1
  go_wp2_with fail
  refine (implShipOk s _ WS.out).mono ?_
  rw [H2'.out]
  rintro e w2 ⟨rfl, hbk⟩
  have B2 := Lib.hid (B1.out.trans (hbk.mono B1.out.size))
  have p1 : w2.cell? ⟨w.heap.size, 1, none⟩ = some (.slice A1 d.segs.length c1) := (BC1.out.below hbk).cell 1
  clear hbk s0 s1 s2 s3 s4 s5
  go_wp2_with fail
  refine (isIndex_any _ _ _).mono ?_
  rw [H3'.out]
  rintro e w3 ⟨rfl, rfl⟩
  go_wp2
  go_ret
  exact ⟨rfl, B2.out⟩
set_option maxHeartbeats 4000000 in
theorem implMinutesOn (v0 v1 : Value) (d : ChartD) (i : Int) (s : ShipD) (w : World) (h : RdChart w v0 v1 d) (hw : ∀ x ∈ d.points, PointD.wf x) (hs : s.wf) :
    Calls Tryz.prog 75 #[.agg #[v0, v1], .int .i64 i, s.val] w fun e w' => e = .returned (.int .i64 (minOn d i s)) ∧ Below w.heap.size w w' := by
  have HR := Lib.hid h
  have HWF := Lib.hid hw
  have WS := Lib.hid hs
  obtain ⟨h0, h1⟩ := h
  obtain ⟨A0, c0, rfl⟩ := h0.at
  obtain ⟨A1, c1, rfl⟩ := h1.at
  obtain ⟨W0, hW0⟩ : ∃ W0, W0 = ((w.alloc (.cells #[.slice A0 d.points.length c0, .slice A1 d.segs.length c1] 49)).alloc (.cells #[.string s.name, .int .i64 s.length, .int .i64 s.draught, .int .i64 s.line, .int .i64 s.tugs, .bool s.slow] 65)) := ⟨_, rfl⟩
  have B := Lib.hid (Joins.below_alloc2 w (.cells #[.slice A0 d.points.length c0, .slice A1 d.segs.length c1] 49) (.cells #[.string s.name, .int .i64 s.length, .int .i64 s.draught, .int .i64 s.line, .int .i64 s.tugs, .bool s.slow] 65))
  have BC := Lib.hid ((Blk.new w #[.slice A0 d.points.length c0, .slice A1 d.segs.length c1] 49).below (Joins.below_alloc1 _ (.cells #[.string s.name, .int .i64 s.length, .int .i64 s.draught, .int .i64 s.line, .int .i64 s.tugs, .bool s.slow] 65)))
  have BS := Lib.hid (Blk.new (w.alloc (.cells #[.slice A0 d.points.length c0, .slice A1 d.segs.length c1] 49)) #[.string s.name, .int .i64 s.length, .int .i64 s.draught, .int .i64 s.line, .int .i64 s.tugs, .bool s.slow] 65)
  rw [World.size_alloc] at BS
  have HW0 := Lib.hid hW0
  rw [← hW0] at B BC BS
  have H1 := Lib.hid h1
  have hl1 := h1.1
  clear h0 h1 hw hs hW0
  obtain ⟨t, ht⟩ : ∃ t, sailB d i s = t := ⟨_, rfl⟩
  have HT := Lib.hid ht
  have p0 : W0.cell? ⟨w.heap.size, 0, none⟩ = some (.slice A0 d.points.length c0) := BC.out.cell 0
  have p1 : W0.cell? ⟨w.heap.size, 1, none⟩ = some (.slice A1 d.segs.length c1) := BC.out.cell 1
  have s0 : W0.cell? ⟨w.heap.size + 1, 0, none⟩ = some (.string s.name) := BS.out.cell 0
  have s1 : W0.cell? ⟨w.heap.size + 1, 1, none⟩ = some (.int .i64 s.length) := BS.out.cell 1
  have s2 : W0.cell? ⟨w.heap.size + 1, 2, none⟩ = some (.int .i64 s.draught) := BS.out.cell 2
  have s3 : W0.cell? ⟨w.heap.size + 1, 3, none⟩ = some (.int .i64 s.line) := BS.out.cell 3
  have s4 : W0.cell? ⟨w.heap.size + 1, 4, none⟩ = some (.int .i64 s.tugs) := BS.out.cell 4
  have s5 : W0.cell? ⟨w.heap.size + 1, 5, none⟩ = some (.bool s.slow) := BS.out.cell 5
  cases t with
  | false =>
    have E := Lib.hid (minOn_no ht)
    clear ht
    go_enter Tryz.func75, Tryz.ntmps75
    go_wp2_with fail
    rw [← HW0.out]
    clear p0 p1 s0 s1 s2 s3 s4 s5
    refine (implSail _ _ d i s _ (HR.out.below B.out) HWF.out WS.out).mono ?_
    rw [HT.out]
    rintro e w1 ⟨rfl, hbk⟩
    have B1 := Lib.hid (B.out.trans (hbk.mono B.out.size))
    clear hbk
    go_wp2
    go_ret
    exact ⟨ret_int E.out.symm, B1.out⟩
  | true =>
    obtain ⟨ok1, ok2, g, hg, hx, i0, il, hsb⟩ := sailB_true ht
    have E := Lib.hid (minOn_ok ok1 ok2 hg)
    obtain ⟨-, -, -, -, -, -, -, m0, m1⟩ := segB_true hsb
    have hwr : IntKind.i64.wrap (2 * g.minutes) = 2 * g.minutes := by rw [IntKind.wrap_i64]; omega
    obtain ⟨k, rfl⟩ : ∃ n : Nat, i = (n : Int) := ⟨i.toNat, by omega⟩
    simp only [Int.toNat_natCast] at hx il
    obtain ⟨g', o', e', FD0⟩ : ∃ g' o', A1 = some ⟨g', o', none⟩ ∧ w.cell? ⟨g', o' + k * 5 + 3, none⟩ = some (.int .i64 g.minutes) := by
      rcases H1.out.2 with ⟨he, _⟩ | ⟨g', o', c', e, _, _, hc⟩
      · rw [he] at hx; simp at hx
      · injection e with hA _ _
        exact ⟨g', o', hA, (SlSegment.cells hc k g hx).2.2.2.1⟩
    subst e'
    clear ht hg hx hsb ok1 ok2 i0 m0 m1
    go_enter Tryz.func75, Tryz.ntmps75
    go_wp2_with fail
    rw [← HW0.out]
    clear p0 p1 s0 s1 s2 s3 s4 s5
    refine (implSail _ _ d (k : Int) s _ (HR.out.below B.out) HWF.out WS.out).mono ?_
    rw [HT.out]
    rintro e w1 ⟨rfl, hbk⟩
    have B1 := Lib.hid (B.out.trans (hbk.mono B.out.size))
    have FD := cell_onV FD0 B1.out
    have p0 : w1.cell? ⟨w.heap.size, 0, none⟩ = some (.slice A0 d.points.length c0) := (BC.out.below hbk).cell 0
    have p1 : w1.cell? ⟨w.heap.size, 1, none⟩ = some (.slice (some ⟨g', o', none⟩) d.segs.length c1) := (BC.out.below hbk).cell 1
    have s0 : w1.cell? ⟨w.heap.size + 1, 0, none⟩ = some (.string s.name) := (BS.out.below hbk).cell 0
    have s1 : w1.cell? ⟨w.heap.size + 1, 1, none⟩ = some (.int .i64 s.length) := (BS.out.below hbk).cell 1
    have s2 : w1.cell? ⟨w.heap.size + 1, 2, none⟩ = some (.int .i64 s.draught) := (BS.out.below hbk).cell 2
    have s3 : w1.cell? ⟨w.heap.size + 1, 3, none⟩ = some (.int .i64 s.line) := (BS.out.below hbk).cell 3
    have s4 : w1.cell? ⟨w.heap.size + 1, 4, none⟩ = some (.int .i64 s.tugs) := (BS.out.below hbk).cell 4
    have s5 : w1.cell? ⟨w.heap.size + 1, 5, none⟩ = some (.bool s.slow) := (BS.out.below hbk).cell 5
    clear hbk FD0
    cases hsl : s.slow with
    | true =>
      rw [hsl] at s5
      have E3 := Lib.hid (show minOn d (k : Int) s = 2 * g.minutes from E.out.trans (if_pos hsl))
      clear hsl E
      go_wp2
      go_ret
      exact ⟨ret_int E3.out.symm, B1.out⟩
    | false =>
      rw [hsl] at s5
      have E3 := Lib.hid (show minOn d (k : Int) s = g.minutes from E.out.trans (if_neg (by rw [hsl]; simp)))
      clear hsl E
      go_wp2
      go_ret
      exact ⟨ret_int E3.out.symm, B1.out⟩
end Go.Proofs.YtooeikimoheecaaGreat
