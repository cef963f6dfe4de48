
/- What ExactIsSafePassage and ExactSailRoute and ExactFirstSail rests on, part 20: contracts and mathematics. -/
import Derived.Test.YtooeikimoheecaaGreatGr10
import Derived.Test.YtooeikimoheecaaGreatGr9
import Derived.Test.YtooeikimoheecaaGreatGr16
import Derived.StillTailTactics
import Derived.Test.YtooeikimoheecaaGreatGr14
import Derived.Test.YtooeikimoheecaaGreatGr18
import Derived.Test.YtooeikimoheecaaGreatGr8
import Derived.Test.YtooeikimoheecaaGreatGr1
namespace Go.Proofs.YtooeikimoheecaaGreat
open Go.RowKit
set_option maxRecDepth 100000
/-- The minutes of a valid ship on a segment. -/
def onMin (g : SegmentD) (s : ShipD) : Int := if s.slow = true then 2 * g.minutes else g.minutes
def minOn (d : ChartD) (i : Int) (s : ShipD) : Int := if chartB d = true ∧ shipB s = true then (match segAt d i with | some g => onMin g s | none => 0) else 0
theorem minOn_bad {d : ChartD} {i : Int} {s : ShipD} (h : chartB d = false ∨ shipB s = false) : minOn d i s = 0 := if_neg (by rintro ⟨h1, h2⟩; rcases h with h | h <;> simp_all)
theorem minOn_off {d : ChartD} {i : Int} {s : ShipD} (h : segAt d i = none) : minOn d i s = 0 := by unfold minOn; split <;> simp [h]
theorem minOn_ok {d : ChartD} {i : Int} {s : ShipD} {g : SegmentD} (h1 : chartB d = true) (h2 : shipB s = true) (h : segAt d i = some g) : minOn d i s = onMin g s := by unfold minOn; rw [if_pos ⟨h1, h2⟩, h]
set_option maxHeartbeats 2000000 in
theorem l06Minutes_any (g : SegmentD) (s : ShipD) (w : World) (h0 : 0 ≤ g.minutes) (h1 : g.minutes ≤ 240) :
    Calls Tryz.prog 86 #[g.val, s.val] w fun e w' => e = .returned (.int .i64 (onMin g s)) ∧ Below w.heap.size w w' := by
  obtain ⟨sa, sb, sd, sm, se⟩ := g
  obtain ⟨na, le, dr, li, tu, sl⟩ := s
  dsimp only at h0 h1
  have B := Lib.hid (Joins.below_alloc2 w (.cells #[.int .i64 sa, .int .i64 sb, .int .i64 sd, .int .i64 sm, .bool se] 121) (.cells #[.string na, .int .i64 le, .int .i64 dr, .int .i64 li, .int .i64 tu, .bool sl] 65))
  have hwr : IntKind.i64.wrap (2 * sm) = 2 * sm := by rw [IntKind.wrap_i64]; omega
  cases sl
  all_goals
    go_enter Tryz.func86, Tryz.ntmps86
    go_wp2
    go_ret
    exact ⟨ret_int rfl, B.out⟩
set_option maxHeartbeats 8000000 in
theorem specMinutesOn (v0 v1 : Value) (d : ChartD) (i : Int) (s : ShipD) (w : World) (h : RdChart w v0 v1 d) (hw : ∀ x ∈ d.points, PointD.wf x) (hs : s.wf) :
    Calls Tryz.prog 64 #[.agg #[v0, v1], .int .i64 i, s.val] w fun e w' => e = .returned (.int .i64 (minOn d i s)) ∧ Below w.heap.size w w' := by
  have HR := Lib.hid h
  have HWF := Lib.hid hw
  obtain ⟨h0, h1⟩ := h
  obtain ⟨A0, c0, rfl⟩ := h0.at
  obtain ⟨A1, c1, rfl⟩ := h1.at
  obtain ⟨W0, hW0⟩ : ∃ W0, W0 = ((w.alloc (.cells #[.slice A0 d.points.length c0, .slice A1 d.segs.length c1] 49)).alloc (.cells #[.string s.name, .int .i64 s.length, .int .i64 s.draught, .int .i64 s.line, .int .i64 s.tugs, .bool s.slow] 65)) := ⟨_, rfl⟩
  have B := Lib.hid (Joins.below_alloc2 w (.cells #[.slice A0 d.points.length c0, .slice A1 d.segs.length c1] 49) (.cells #[.string s.name, .int .i64 s.length, .int .i64 s.draught, .int .i64 s.line, .int .i64 s.tugs, .bool s.slow] 65))
  have BC := Lib.hid ((Blk.new w #[.slice A0 d.points.length c0, .slice A1 d.segs.length c1] 49).below (Joins.below_alloc1 _ (.cells #[.string s.name, .int .i64 s.length, .int .i64 s.draught, .int .i64 s.line, .int .i64 s.tugs, .bool s.slow] 65)))
  have BS := Lib.hid (Blk.new (w.alloc (.cells #[.slice A0 d.points.length c0, .slice A1 d.segs.length c1] 49)) #[.string s.name, .int .i64 s.length, .int .i64 s.draught, .int .i64 s.line, .int .i64 s.tugs, .bool s.slow] 65)
  rw [World.size_alloc] at BS
  have HW0 := Lib.hid hW0
  rw [← hW0] at B BC BS
  have H1 := Lib.hid h1
  have hl1 := h1.1
  clear h0 h1 hw hW0
  have WS := Lib.hid hs
  clear hs
  have p0 : W0.cell? ⟨w.heap.size, 0, none⟩ = some (.slice A0 d.points.length c0) := BC.out.cell 0
  have p1 : W0.cell? ⟨w.heap.size, 1, none⟩ = some (.slice A1 d.segs.length c1) := BC.out.cell 1
  cases hok : chartB d with
  | false =>
    have HOK := Lib.hid hok
    have E := Lib.hid (minOn_bad (i := i) (s := s) (.inl hok))
    clear hok
    go_enter Tryz.func64, Tryz.ntmps64
    go_wp2_with fail
    rw [← HW0.out]
    refine (specChartOk _ _ d _ (HR.out.below B.out) HWF.out).mono ?_
    rw [HOK.out]
    rintro e w1 ⟨rfl, hb1⟩
    have B1 := Lib.hid (B.out.trans (hb1.mono B.out.size))
    clear hb1 p0 p1
    go_wp2
    go_ret
    exact ⟨ret_int E.out.symm, B1.out⟩
  | true =>
  have HOK := Lib.hid hok
  clear hok
  cases hsk : shipB s with
  | false =>
    have HSK := Lib.hid hsk
    have E := Lib.hid (minOn_bad (d := d) (i := i) (.inr hsk))
    clear hsk
    go_enter Tryz.func64, Tryz.ntmps64
    go_wp2_with fail
    rw [← HW0.out]
    refine (specChartOk _ _ d _ (HR.out.below B.out) HWF.out).mono ?_
    rw [HOK.out]
    rintro e w1 ⟨rfl, hb1⟩
    have B1 := Lib.hid (B.out.trans (hb1.mono B.out.size))
    have K1 := BS.out.below hb1
    have s0 := K1.cell 0
    have s1 := K1.cell 1
    have s2 := K1.cell 2
    have s3 := K1.cell 3
    have s4 := K1.cell 4
    have s5 := K1.cell 5
    simp at s0 s1 s2 s3 s4 s5
    clear hb1 p0 p1 K1
    go_wp2_with fail
    refine (specShipOk s _ WS.out).mono ?_
    rw [HSK.out]
    rintro e w2 ⟨rfl, hb2⟩
    have B2 := Lib.hid (B1.out.trans (hb2.mono B1.out.size))
    clear hb2 s0 s1 s2 s3 s4 s5
    go_wp2
    go_ret
    exact ⟨ret_int E.out.symm, B2.out⟩
  | true =>
  have HSK := Lib.hid hsk
  clear hsk
  obtain ⟨b, hin⟩ : ∃ b, inB i 0 ((d.segs.length : Int) - 1) = b := ⟨_, rfl⟩
  have HIN := Lib.hid hin
  clear hin
  have REST : ∀ R : Int, minOn d i s = R → Calls Tryz.prog 64 #[.agg #[.slice A0 d.points.length c0, .slice A1 d.segs.length c1], .int .i64 i, s.val] w fun e w' => e = .returned (.int .i64 R) ∧ Below w.heap.size w w' := by
    intro R hR
    have E := Lib.hid hR
    clear hR
    go_enter Tryz.func64, Tryz.ntmps64
    go_wp2_with fail
    rw [← HW0.out]
    refine (specChartOk _ _ d _ (HR.out.below B.out) HWF.out).mono ?_
    rw [HOK.out]
    rintro e w1 ⟨rfl, hb1⟩
    have B1 := Lib.hid (B.out.trans (hb1.mono B.out.size))
    have K1 := BS.out.below hb1
    have s0 := K1.cell 0
    have s1 := K1.cell 1
    have s2 := K1.cell 2
    have s3 := K1.cell 3
    have s4 := K1.cell 4
    have s5 := K1.cell 5
    simp at s0 s1 s2 s3 s4 s5
    have BC1 := Lib.hid (BC.out.below hb1)
    have BS1 := Lib.hid K1
    clear hb1 p0 p1 K1
    go_wp2_with fail
    refine (specShipOk s _ WS.out).mono ?_
    rw [HSK.out]
    rintro e w2 ⟨rfl, hb2⟩
    have B2 := Lib.hid (B1.out.trans (hb2.mono B1.out.size))
    have BC2 := Lib.hid (BC1.out.below hb2)
    have BS2 := Lib.hid (BS1.out.below hb2)
    clear hb2 s0 s1 s2 s3 s4 s5
    have p0 : w2.cell? ⟨w.heap.size, 0, none⟩ = some (.slice A0 d.points.length c0) := BC2.out.cell 0
    have p1 : w2.cell? ⟨w.heap.size, 1, none⟩ = some (.slice A1 d.segs.length c1) := BC2.out.cell 1
    go_wp2_with fail
    refine (l01In_any _ _ _ _).mono ?_
    rw [HIN.out]
    rintro e w3 ⟨rfl, rfl⟩
    cases b with
    | false =>
      have E2 := Lib.hid (E.out.symm.trans (minOn_off (segAt_out HIN.out)))
      go_wp2
      go_ret
      exact ⟨ret_int E2.out.symm, B2.out⟩
    | true =>
      obtain ⟨sg, hsg, hx, i0', ilt⟩ := segAt_in HIN.out
      obtain ⟨-, -, -, -, -, -, -, m0, m1⟩ := segB_true (chartB_seg HOK.out hx)
      have E2 := Lib.hid (E.out.symm.trans (minOn_ok HOK.out HSK.out hsg))
      obtain ⟨k, rfl⟩ : ∃ n : Nat, i = (n : Int) := ⟨i.toNat, by omega⟩
      simp only [Int.toNat_natCast] at hx ilt
      clear hsg i0'
      rcases H1.out.2 with ⟨he, _⟩ | ⟨g', o', c', e', hpos', hcap', hc'⟩
      · rw [he] at ilt; simp at ilt
      · injection e' with hA' _ hcp'
        subst hA' hcp'
        obtain ⟨q0, q1, q2, q3, q4⟩ := SlSegment.cells hc' k sg hx
        have hg' : g' < w.heap.size := World.block_lt_of_cell? w ⟨g', o' + k * 5, none⟩ q0
        have y0 := (B2.out.cell (p := ⟨g', o' + k * 5, none⟩) hg').trans q0
        have y1 := (B2.out.cell (p := ⟨g', o' + k * 5 + 1, none⟩) hg').trans q1
        have y2 := (B2.out.cell (p := ⟨g', o' + k * 5 + 2, none⟩) hg').trans q2
        have y3 := (B2.out.cell (p := ⟨g', o' + k * 5 + 3, none⟩) hg').trans q3
        have y4 := (B2.out.cell (p := ⟨g', o' + k * 5 + 4, none⟩) hg').trans q4
        have s0 := BS2.out.cell 0
        have s1 := BS2.out.cell 1
        have s2 := BS2.out.cell 2
        have s3 := BS2.out.cell 3
        have s4 := BS2.out.cell 4
        have s5 := BS2.out.cell 5
        simp at s0 s1 s2 s3 s4 s5
        clear q0 q1 q2 q3 q4 hx hc' HIN

        go_wp2
        go_still_tail 6, (by kernel_rfl)
        change wpList _ _ _ _ _ w2.drew
        have B3 := Lib.hid (B2.out.trans ((Below.refl w2.heap.size w2).drew.mono B2.out.size))
        generalize w2.drew = w3 at B3 ⊢
        clear p0 p1 y0 y1 y2 y3 y4 s0 s1 s2 s3 s4 s5
        go_wp2_with fail
        refine (l06Minutes_any sg s _ (by omega) m1).mono ?_
        rintro e w4 ⟨rfl, hb4⟩
        have B4 := Lib.hid (B3.out.trans (hb4.mono B3.out.size))
        clear hb4
        go_wp2
        go_ret
        exact ⟨ret_int E2.out.symm, B4.out⟩
  exact REST _ rfl
/-- The chart, the segment and the ship are valid. -/
def sailB (d : ChartD) (i : Int) (s : ShipD) : Bool := chartB d && shipB s && inB i 0 ((d.segs.length : Int) - 1)
theorem sailB_true {d : ChartD} {i : Int} {s : ShipD} (h : sailB d i s = true) : chartB d = true ∧ shipB s = true ∧ ∃ g, segAt d i = some g ∧ d.segs[i.toNat]? = some g ∧ 0 ≤ i ∧ i.toNat < d.segs.length ∧ segB d.points.length g = true := by
  unfold sailB at h
  simp only [Bool.and_eq_true] at h
  obtain ⟨⟨h1, h2⟩, h3⟩ := h
  obtain ⟨g, hg, hx, i0, il⟩ := segAt_in h3
  exact ⟨h1, h2, g, hg, hx, i0, il, chartB_seg h1 hx⟩
theorem minOn_no {d : ChartD} {i : Int} {s : ShipD} (h : sailB d i s = false) : minOn d i s = 0 := by
  cases h1 : chartB d with
  | false => exact minOn_bad (.inl h1)
  | true =>
    cases h2 : shipB s with
    | false => exact minOn_bad (.inr h2)
    | true =>
      refine minOn_off (segAt_out ?_)
      unfold sailB at h
      rw [h1, h2] at h
      simpa using h
set_option maxHeartbeats 4000000 in
theorem implSail (v0 v1 : Value) (d : ChartD) (i : Int) (s : ShipD) (w : World) (h : RdChart w v0 v1 d) (hw : ∀ x ∈ d.points, PointD.wf x) (hs : s.wf) :
    Calls Tryz.prog 73 #[.agg #[v0, v1], .int .i64 i, s.val] w fun e w' => e = .returned (.bool (sailB d i s)) ∧ Below w.heap.size w w' := by
  have HR := Lib.hid h
  have HWF := Lib.hid hw
  have WS := Lib.hid hs
  obtain ⟨h0, h1⟩ := h
  obtain ⟨A0, c0, rfl⟩ := h0.at
  obtain ⟨A1, c1, rfl⟩ := h1.at
  obtain ⟨W0, hW0⟩ : ∃ W0, W0 = ((w.alloc (.cells #[.slice A0 d.points.length c0, .slice A1 d.segs.length c1] 49)).alloc (.cells #[.string s.name, .int .i64 s.length, .int .i64 s.draught, .int .i64 s.line, .int .i64 s.tugs, .bool s.slow] 65)) := ⟨_, rfl⟩
  have B := Lib.hid (Joins.below_alloc2 w (.cells #[.slice A0 d.points.length c0, .slice A1 d.segs.length c1] 49) (.cells #[.string s.name, .int .i64 s.length, .int .i64 s.draught, .int .i64 s.line, .int .i64 s.tugs, .bool s.slow] 65))
  have BC := Lib.hid ((Blk.new w #[.slice A0 d.points.length c0, .slice A1 d.segs.length c1] 49).below (Joins.below_alloc1 _ (.cells #[.string s.name, .int .i64 s.length, .int .i64 s.draught, .int .i64 s.line, .int .i64 s.tugs, .bool s.slow] 65)))
  have BS := Lib.hid (Blk.new (w.alloc (.cells #[.slice A0 d.points.length c0, .slice A1 d.segs.length c1] 49)) #[.string s.name, .int .i64 s.length, .int .i64 s.draught, .int .i64 s.line, .int .i64 s.tugs, .bool s.slow] 65)
  rw [World.size_alloc] at BS
  have HW0 := Lib.hid hW0
  rw [← hW0] at B BC BS
  have H1 := Lib.hid h1
  have hl1 := h1.1
  clear h0 h1 hw hs hW0
  obtain ⟨b1, hb1⟩ : ∃ b, chartB d = b := ⟨_, rfl⟩
  obtain ⟨b2, hb2⟩ : ∃ b, shipB s = b := ⟨_, rfl⟩
  obtain ⟨b3, hb3⟩ : ∃ b, inB i 0 ((d.segs.length : Int) - 1) = b := ⟨_, rfl⟩
  rw [show sailB d i s = (b1 && b2 && b3) by unfold sailB; rw [hb1, hb2, hb3]]
  have H1' := Lib.hid hb1
  have H2' := Lib.hid hb2
  have H3' := Lib.hid hb3
  clear hb1 hb2 hb3
  have p0 : W0.cell? ⟨w.heap.size, 0, none⟩ = some (.slice A0 d.points.length c0) := BC.out.cell 0
  have p1 : W0.cell? ⟨w.heap.size, 1, none⟩ = some (.slice A1 d.segs.length c1) := BC.out.cell 1
  cases b1 with
  | false =>
    rw [show (false && b2 && b3) = false by simp]
    go_enter Tryz.func73, Tryz.ntmps73
    go_wp2_with fail
    rw [← HW0.out]
    refine (implChartOk _ _ d _ (HR.out.below B.out) HWF.out).mono ?_
    rw [H1'.out]
    rintro e w1 ⟨rfl, hbk⟩
    have B1 := Lib.hid (B.out.trans (hbk.mono B.out.size))
    clear hbk p0 p1
    go_wp2
    go_ret
    exact ⟨rfl, B1.out⟩
  | true =>
  cases b2 with
  | false =>
    rw [show (true && false && b3) = false by simp]
    go_enter Tryz.func73, Tryz.ntmps73
    go_wp2_with fail
    rw [← HW0.out]
    refine (implChartOk _ _ d _ (HR.out.below B.out) HWF.out).mono ?_
    rw [H1'.out]
    rintro e w1 ⟨rfl, hbk⟩
    have B1 := Lib.hid (B.out.trans (hbk.mono B.out.size))
    have s0 : w1.cell? ⟨w.heap.size + 1, 0, none⟩ = some (.string s.name) := (BS.out.below hbk).cell 0
    have s1 : w1.cell? ⟨w.heap.size + 1, 1, none⟩ = some (.int .i64 s.length) := (BS.out.below hbk).cell 1
    have s2 : w1.cell? ⟨w.heap.size + 1, 2, none⟩ = some (.int .i64 s.draught) := (BS.out.below hbk).cell 2
    have s3 : w1.cell? ⟨w.heap.size + 1, 3, none⟩ = some (.int .i64 s.line) := (BS.out.below hbk).cell 3
    have s4 : w1.cell? ⟨w.heap.size + 1, 4, none⟩ = some (.int .i64 s.tugs) := (BS.out.below hbk).cell 4
    have s5 : w1.cell? ⟨w.heap.size + 1, 5, none⟩ = some (.bool s.slow) := (BS.out.below hbk).cell 5
    have BC1 := Lib.hid (BC.out.below hbk)
    clear hbk p0 p1
    go_wp2_with fail
    refine (implShipOk s _ WS.out).mono ?_
    rw [H2'.out]
    rintro e w2 ⟨rfl, hbk⟩
    have B2 := Lib.hid (B1.out.trans (hbk.mono B1.out.size))
    have p1 : w2.cell? ⟨w.heap.size, 1, none⟩ = some (.slice A1 d.segs.length c1) := (BC1.out.below hbk).cell 1
    clear hbk s0 s1 s2 s3 s4 s5
    go_wp2
    go_ret
    exact ⟨rfl, B2.out⟩
  | true =>
  rw [show (true && true && b3) = b3 by simp]
  go_enter Tryz.func73, Tryz.ntmps73
  go_wp2_with fail
  rw [← HW0.out]
  refine (implChartOk _ _ d _ (HR.out.below B.out) HWF.out).mono ?_
  rw [H1'.out]
  rintro e w1 ⟨rfl, hbk⟩
  have B1 := Lib.hid (B.out.trans (hbk.mono B.out.size))
  have s0 : w1.cell? ⟨w.heap.size + 1, 0, none⟩ = some (.string s.name) := (BS.out.below hbk).cell 0
  have s1 : w1.cell? ⟨w.heap.size + 1, 1, none⟩ = some (.int .i64 s.length) := (BS.out.below hbk).cell 1
  have s2 : w1.cell? ⟨w.heap.size + 1, 2, none⟩ = some (.int .i64 s.draught) := (BS.out.below hbk).cell 2
  have s3 : w1.cell? ⟨w.heap.size + 1, 3, none⟩ = some (.int .i64 s.line) := (BS.out.below hbk).cell 3
  have s4 : w1.cell? ⟨w.heap.size + 1, 4, none⟩ = some (.int .i64 s.tugs) := (BS.out.below hbk).cell 4
  have s5 : w1.cell? ⟨w.heap.size + 1, 5, none⟩ = some (.bool s.slow) := (BS.out.below hbk).cell 5
  have BC1 := Lib.hid (BC.out.below hbk)
  clear hbk p0 p1
  go_wp2_with fail
  refine (implShipOk s _ WS.out).mono ?_
  rw [H2'.out]
  rintro e w2 ⟨rfl, hbk⟩
  have B2 := Lib.hid (B1.out.trans (hbk.mono B1.out.size))
  have p1 : w2.cell? ⟨w.heap.size, 1, none⟩ = some (.slice A1 d.segs.length c1) := (BC1.out.below hbk).cell 1
  clear hbk s0 s1 s2 s3 s4 s5
  go_wp2_with fail
  refine (isIndex_any _ _ _).mono ?_
  rw [H3'.out]
  rintro e w3 ⟨rfl, rfl⟩
  go_wp2
  go_ret
  exact ⟨rfl, B2.out⟩
set_option maxHeartbeats 4000000 in
theorem implMinutesOn (v0 v1 : Value) (d : ChartD) (i : Int) (s : ShipD) (w : World) (h : RdChart w v0 v1 d) (hw : ∀ x ∈ d.points, PointD.wf x) (hs : s.wf) :
    Calls Tryz.prog 75 #[.agg #[v0, v1], .int .i64 i, s.val] w fun e w' => e = .returned (.int .i64 (minOn d i s)) ∧ Below w.heap.size w w' := by
  have HR := Lib.hid h
  have HWF := Lib.hid hw
  have WS := Lib.hid hs
  obtain ⟨h0, h1⟩ := h
  obtain ⟨A0, c0, rfl⟩ := h0.at
  obtain ⟨A1, c1, rfl⟩ := h1.at
  obtain ⟨W0, hW0⟩ : ∃ W0, W0 = ((w.alloc (.cells #[.slice A0 d.points.length c0, .slice A1 d.segs.length c1] 49)).alloc (.cells #[.string s.name, .int .i64 s.length, .int .i64 s.draught, .int .i64 s.line, .int .i64 s.tugs, .bool s.slow] 65)) := ⟨_, rfl⟩
  have B := Lib.hid (Joins.below_alloc2 w (.cells #[.slice A0 d.points.length c0, .slice A1 d.segs.length c1] 49) (.cells #[.string s.name, .int .i64 s.length, .int .i64 s.draught, .int .i64 s.line, .int .i64 s.tugs, .bool s.slow] 65))
  have BC := Lib.hid ((Blk.new w #[.slice A0 d.points.length c0, .slice A1 d.segs.length c1] 49).below (Joins.below_alloc1 _ (.cells #[.string s.name, .int .i64 s.length, .int .i64 s.draught, .int .i64 s.line, .int .i64 s.tugs, .bool s.slow] 65)))
  have BS := Lib.hid (Blk.new (w.alloc (.cells #[.slice A0 d.points.length c0, .slice A1 d.segs.length c1] 49)) #[.string s.name, .int .i64 s.length, .int .i64 s.draught, .int .i64 s.line, .int .i64 s.tugs, .bool s.slow] 65)
  rw [World.size_alloc] at BS
  have HW0 := Lib.hid hW0
  rw [← hW0] at B BC BS
  have H1 := Lib.hid h1
  have hl1 := h1.1
  clear h0 h1 hw hs hW0
  obtain ⟨t, ht⟩ : ∃ t, sailB d i s = t := ⟨_, rfl⟩
  have HT := Lib.hid ht
  have p0 : W0.cell? ⟨w.heap.size, 0, none⟩ = some (.slice A0 d.points.length c0) := BC.out.cell 0
  have p1 : W0.cell? ⟨w.heap.size, 1, none⟩ = some (.slice A1 d.segs.length c1) := BC.out.cell 1
  have s0 : W0.cell? ⟨w.heap.size + 1, 0, none⟩ = some (.string s.name) := BS.out.cell 0
  have s1 : W0.cell? ⟨w.heap.size + 1, 1, none⟩ = some (.int .i64 s.length) := BS.out.cell 1
  have s2 : W0.cell? ⟨w.heap.size + 1, 2, none⟩ = some (.int .i64 s.draught) := BS.out.cell 2
  have s3 : W0.cell? ⟨w.heap.size + 1, 3, none⟩ = some (.int .i64 s.line) := BS.out.cell 3
  have s4 : W0.cell? ⟨w.heap.size + 1, 4, none⟩ = some (.int .i64 s.tugs) := BS.out.cell 4
  have s5 : W0.cell? ⟨w.heap.size + 1, 5, none⟩ = some (.bool s.slow) := BS.out.cell 5
  cases t with
  | false =>
    have E := Lib.hid (minOn_no ht)
    clear ht
    go_enter Tryz.func75, Tryz.ntmps75
    go_wp2_with fail
    rw [← HW0.out]
    clear p0 p1 s0 s1 s2 s3 s4 s5
    refine (implSail _ _ d i s _ (HR.out.below B.out) HWF.out WS.out).mono ?_
    rw [HT.out]
    rintro e w1 ⟨rfl, hbk⟩
    have B1 := Lib.hid (B.out.trans (hbk.mono B.out.size))
    clear hbk
    go_wp2
    go_ret
    exact ⟨ret_int E.out.symm, B1.out⟩
  | true =>
    obtain ⟨ok1, ok2, g, hg, hx, i0, il, hsb⟩ := sailB_true ht
    have E := Lib.hid (minOn_ok ok1 ok2 hg)
    obtain ⟨-, -, -, -, -, -, -, m0, m1⟩ := segB_true hsb
    have hwr : IntKind.i64.wrap (2 * g.minutes) = 2 * g.minutes := by rw [IntKind.wrap_i64]; omega
    obtain ⟨k, rfl⟩ : ∃ n : Nat, i = (n : Int) := ⟨i.toNat, by omega⟩
    simp only [Int.toNat_natCast] at hx il
    obtain ⟨g', o', e', FD0⟩ : ∃ g' o', A1 = some ⟨g', o', none⟩ ∧ w.cell? ⟨g', o' + k * 5 + 3, none⟩ = some (.int .i64 g.minutes) := by
      rcases H1.out.2 with ⟨he, _⟩ | ⟨g', o', c', e, _, _, hc⟩
      · rw [he] at hx; simp at hx
      · injection e with hA _ _
        exact ⟨g', o', hA, (SlSegment.cells hc k g hx).2.2.2.1⟩
    subst e'
    clear ht hg hx hsb ok1 ok2 i0 m0 m1
    go_enter Tryz.func75, Tryz.ntmps75
    go_wp2_with fail
    rw [← HW0.out]
    clear p0 p1 s0 s1 s2 s3 s4 s5
    refine (implSail _ _ d (k : Int) s _ (HR.out.below B.out) HWF.out WS.out).mono ?_
    rw [HT.out]
    rintro e w1 ⟨rfl, hbk⟩
    have B1 := Lib.hid (B.out.trans (hbk.mono B.out.size))
    have FD := cell_onV FD0 B1.out
    have p0 : w1.cell? ⟨w.heap.size, 0, none⟩ = some (.slice A0 d.points.length c0) := (BC.out.below hbk).cell 0
    have p1 : w1.cell? ⟨w.heap.size, 1, none⟩ = some (.slice (some ⟨g', o', none⟩) d.segs.length c1) := (BC.out.below hbk).cell 1
    have s0 : w1.cell? ⟨w.heap.size + 1, 0, none⟩ = some (.string s.name) := (BS.out.below hbk).cell 0
    have s1 : w1.cell? ⟨w.heap.size + 1, 1, none⟩ = some (.int .i64 s.length) := (BS.out.below hbk).cell 1
    have s2 : w1.cell? ⟨w.heap.size + 1, 2, none⟩ = some (.int .i64 s.draught) := (BS.out.below hbk).cell 2
    have s3 : w1.cell? ⟨w.heap.size + 1, 3, none⟩ = some (.int .i64 s.line) := (BS.out.below hbk).cell 3
    have s4 : w1.cell? ⟨w.heap.size + 1, 4, none⟩ = some (.int .i64 s.tugs) := (BS.out.below hbk).cell 4
    have s5 : w1.cell? ⟨w.heap.size + 1, 5, none⟩ = some (.bool s.slow) := (BS.out.below hbk).cell 5
    clear hbk FD0
    cases hsl : s.slow with
    | true =>
      rw [hsl] at s5
      have E3 := Lib.hid (show minOn d (k : Int) s = 2 * g.minutes from E.out.trans (if_pos hsl))
      clear hsl E
      go_wp2
      go_ret
      exact ⟨ret_int E3.out.symm, B1.out⟩
    | false =>
      rw [hsl] at s5
      have E3 := Lib.hid (show minOn d (k : Int) s = g.minutes from E.out.trans (if_neg (by rw [hsl]; simp)))
      clear hsl E
      go_wp2
      go_ret
      exact ⟨ret_int E3.out.symm, B1.out⟩
end Go.Proofs.YtooeikimoheecaaGreat
namespace Go.Proofs.YtooeikimoheecaaGreat
open Go.RowKit
set_option maxRecDepth 100000
theorem headB_le {s : List SurgeD} {t : Int} (h : headB s = true) (ht : 0 ≤ t) : ∀ x, s[0]? = some x → x.fr ≤ t := by
  intro x hx
  rw [headB_of hx] at h
  have := of_decide_eq_true h
  omega
set_option maxHeartbeats 1000000 in
theorem surgeIndex_any (u : Value) (s : List SurgeD) (t : Int) (w : World) (h : SlSurge w u s) (h0 : 0 < s.length) (hx0 : ∀ x, s[0]? = some x → x.fr ≤ t) :
    Calls Tryz.prog 156 #[u, .int .i64 t] w fun e w' => e = .returned (.int .i64 (lastLe s t s.length : Nat)) ∧ w = w' := by
  obtain ⟨hl, h⟩ := h
  rcases h with ⟨rfl, A, c, rfl⟩ | ⟨g, o, c, rfl, hp, hcap, hc⟩
  · exact absurd h0 (by simp)
  · have HC := Lib.hid hc
    have HX0 := Lib.hid hx0
    clear hc hx0
    go_enter Tryz.func156, Tryz.ntmps156
    go_wp2
    go_loop [5] (fun i => ∃ k : Nat, k < s.length ∧ i = .int .i64 k ∧ Hid (lastLe s t s.length = lastLe s t (k + 1))) (fun i => (intOf i).toNat)
    case atStart => exact ⟨s.length - 1, by omega, by go_num, Lib.hid (by rw [show s.length - 1 + 1 = s.length by omega])⟩
    case round =>
      obtain ⟨k, hk, rfl, hF⟩ := hrel
      obtain ⟨x, hx⟩ : ∃ x, s[k]? = some x := ⟨_, List.getElem?_eq_getElem hk⟩
      obtain ⟨p0, _, _⟩ := SlSurge.cells HC.out k x hx
      have HX := Lib.hid hx
      clear hx
      by_cases hle : x.fr ≤ t
      · have E := Lib.hid (hF.out.trans (lastLe_yes HX.out hle))
        have hd : decide (t < x.fr) = false := decide_eq_false (by omega)
        go_wp2
        go_ret
        exact ⟨ret_int (by rw [E.out]), rfl⟩
      · have F := Lib.hid (hF.out.trans (lastLe_no HX.out hle))
        have hk0 : 0 < k := by
          rcases Nat.eq_zero_or_pos k with e | e
          · exact absurd (HX0.out x (e ▸ HX.out)) hle
          · exact e
        have hd : decide (t < x.fr) = true := decide_eq_true (by omega)
        have hgt : t < x.fr := by omega
        go_wp2
        go_round
        case rel => exact ⟨k - 1, by omega, by go_num, Lib.hid (by rw [show k - 1 + 1 = k by omega]; exact F.out)⟩
        case measure => simp [intOf]; omega
/-- The results of SurgeAt: zero values outside. -/
def sAt (m : Int) (l : List PartD) (s : List SurgeD) (t : Int) : Bool := fcB m l s && inB t 0 2880
def sRes (m : Int) (l : List PartD) (s : List SurgeD) (t : Int) : Value :=
  if sAt m l s t = true then .tuple #[.int .i64 (atS s t).lo, .int .i64 (atS s t).hi, .bool true] else .tuple #[.int .i64 0, .int .i64 0, .bool false]
theorem sRes_yes {m : Int} {l : List PartD} {s : List SurgeD} {t : Int} (h : sAt m l s t = true) : sRes m l s t = .tuple #[.int .i64 (atS s t).lo, .int .i64 (atS s t).hi, .bool true] := if_pos h
theorem sRes_no {m : Int} {l : List PartD} {s : List SurgeD} {t : Int} (h : sAt m l s t = false) : sRes m l s t = .tuple #[.int .i64 0, .int .i64 0, .bool false] := if_neg (by rw [h]; simp)
theorem sAt_true {m : Int} {l : List PartD} {s : List SurgeD} {t : Int} (h : sAt m l s t = true) : fcB m l s = true ∧ 0 ≤ t ∧ t ≤ 2880 := by
  unfold sAt at h
  rw [Bool.and_eq_true] at h
  have := of_decide_eq_true (show decide (0 ≤ t ∧ t ≤ 2880) = true from h.2)
  exact ⟨h.1, this⟩
theorem sAt_mk {m : Int} {l : List PartD} {s : List SurgeD} {t : Int} (h : fcB m l s = true) (h' : inB t 0 2880 = true) : sAt m l s t = true := by unfold sAt; rw [h, h']; rfl
theorem sAt_no1 {m : Int} {l : List PartD} {s : List SurgeD} {t : Int} (h : fcB m l s = false) : sAt m l s t = false := by unfold sAt; rw [h]; rfl
theorem sAt_no2 {m : Int} {l : List PartD} {s : List SurgeD} {t : Int} (h : inB t 0 2880 = false) : sAt m l s t = false := by unfold sAt; rw [h]; simp
theorem ret_val {a b : Value} (h : a = b) : Ending.returned a = .returned b := by rw [h]
set_option maxHeartbeats 2000000 in
theorem implSurgeAt (m : Int) (v u : Value) (l : List PartD) (s : List SurgeD) (t : Int) (w : World) (h : SlP w v l) (h' : SlSurge w u s) :
    Calls Tryz.prog 153 #[.agg #[.int .i64 m, v, u], .int .i64 t] w fun e w' => e = .returned (sRes m l s t) ∧ Below w.heap.size w w' := by
  have H := Lib.hid h
  have H' := Lib.hid h'
  obtain ⟨A, c, rfl⟩ := h.at
  cases hf : fcB m l s with
  | false =>
    obtain ⟨A', c', rfl⟩ := h'.at
    have HF := Lib.hid hf
    have E := Lib.hid (sRes_no (sAt_no1 (t := t) hf))
    clear h h' hf
    go_enter Tryz.func153, Tryz.ntmps153
    go_wp2_with fail
    refine (implForecastOk m _ _ l s _ (H.out.below (Joins.below_alloc1 _ _)) (H'.out.below (Joins.below_alloc1 _ _))).mono ?_
    rw [HF.out]
    rintro e w1 ⟨rfl, hb1⟩
    go_wp2
    refine bodyPost_ret (v := .tuple #[.int .i64 0, .int .i64 0, .bool false]) (by simp [results, Tryz.results153, go_sem]) rfl ?_
    exact ⟨ret_val E.out.symm, (Joins.below_alloc1 _ _).trans (hb1.mono (by simp))⟩
  | true =>
    cases hm : inB t 0 2880 with
    | false =>
      obtain ⟨A', c', rfl⟩ := h'.at
      have HF := Lib.hid hf
      have HM := Lib.hid hm
      have E := Lib.hid (sRes_no (m := m) (l := l) (s := s) (sAt_no2 hm))
      clear h h' hf hm
      go_enter Tryz.func153, Tryz.ntmps153
      go_wp2_with fail
      refine (implForecastOk m _ _ l s _ (H.out.below (Joins.below_alloc1 _ _)) (H'.out.below (Joins.below_alloc1 _ _))).mono ?_
      rw [HF.out]
      rintro e w1 ⟨rfl, hb1⟩
      go_wp2_with fail
      refine (isMinute_any _ _).mono ?_
      rw [HM.out]
      rintro e w2 ⟨rfl, rfl⟩
      go_wp2
      refine bodyPost_ret (v := .tuple #[.int .i64 0, .int .i64 0, .bool false]) (by simp [results, Tryz.results153, go_sem]) rfl ?_
      exact ⟨ret_val E.out.symm, (Joins.below_alloc1 _ _).trans (hb1.mono (by simp))⟩
    | true =>
      obtain ⟨_, s0, s6, hh, hall⟩ := fcB_true hf
      have hat := sAt_mk hf hm
      obtain ⟨_, t0, t1⟩ := sAt_true hat
      have E := Lib.hid (sRes_yes hat)
      have HH := Lib.hid (headB_le hh t0)
      have HF := Lib.hid hf
      have HM := Lib.hid hm
      have hK := lastLe_lt (s := s) (t := t) s0 _ (Nat.le_refl _)
      have hx := atS_of (s := s) (t := t) s0
      obtain ⟨K, eK⟩ : ∃ K, lastLe s t s.length = K := ⟨_, rfl⟩
      rw [eK] at hx hK
      have EK := Lib.hid eK
      obtain ⟨_, h'⟩ := h'
      rcases h' with ⟨rfl, A', c', rfl⟩ | ⟨g, o, c', rfl, hp, hcap, hc⟩
      · exact absurd s0 (by simp)
      · obtain ⟨p0, p1, p2⟩ := SlSurge.cells hc K _ hx
        have hg : g < w.heap.size := World.block_lt_of_cell? w ⟨g, o + K * 3, none⟩ p0
        clear hc h hf hm hh hall hat hx eK
        obtain ⟨xa, xl, xh, hxx⟩ : ∃ a b d, atS s t = ⟨a, b, d⟩ := ⟨_, _, _, rfl⟩
        rw [hxx] at p0 p1 p2
        have HXX := Lib.hid hxx
        clear hxx
        simp only at p0 p1 p2
        go_enter Tryz.func153, Tryz.ntmps153
        go_wp2_with fail
        refine (implForecastOk m _ _ l s _ (H.out.below (Joins.below_alloc1 _ _)) (H'.out.below (Joins.below_alloc1 _ _))).mono ?_
        rw [HF.out]
        rintro e w1 ⟨rfl, hb1⟩
        have B1 := Lib.hid ((Joins.below_alloc1 w (.cells #[.int .i64 m, .slice A l.length c, .slice (some ⟨g, o, none⟩) s.length c'] 44)).trans (hb1.mono (by simp)))
        have X1 : w1.cell? ⟨w.heap.size, 2, none⟩ = some (.slice (some ⟨g, o, none⟩) s.length c') := (hb1.cell (p := ⟨w.heap.size, 2, none⟩) (by simp)).trans (by rw [World.cell?_alloc_at _ _ _ _ rfl]; rfl)
        have a0 := (B1.out.cell (p := ⟨g, o + K * 3, none⟩) hg).trans p0
        have a1 := (B1.out.cell (p := ⟨g, o + K * 3 + 1, none⟩) hg).trans p1
        have a2 := (B1.out.cell (p := ⟨g, o + K * 3 + 2, none⟩) hg).trans p2
        have hgs : g < w1.heap.size := by have := B1.out.size; omega
        have hbs : w.heap.size < w1.heap.size := by have := hb1.size; simp at this; omega
        clear hb1 p0 p1 p2
        go_wp2_with fail
        refine (isMinute_any _ _).mono ?_
        rw [HM.out]
        rintro e w2 ⟨rfl, rfl⟩
        go_wp2
        have D1 := Lib.hid ((Below.refl w1.heap.size w1).drew)
        have D2 := Lib.hid (((Below.refl w1.heap.size w1).alloc (Nat.le_refl _) (.cells #[.int .i64 0, .int .i64 0, .int .i64 0] 115)).drew)
        have D3 := Lib.hid (((Below.refl w1.heap.size w1).alloc (Nat.le_refl _) (.cells #[.int .i64 xa, .int .i64 xl, .int .i64 xh] 115)).drew)
        go_region_held3 (fun w' => w'.cell? ⟨w.heap.size, 2, none⟩ = some (.slice (some ⟨g, o, none⟩) s.length c') ∧ w'.cell? ⟨g, o + K * 3, none⟩ = some (.int .i64 xa) ∧ w'.cell? ⟨g, o + K * 3 + 1, none⟩ = some (.int .i64 xl) ∧ w'.cell? ⟨g, o + K * 3 + 2, none⟩ = some (.int .i64 xh) ∧ Hid (Below w1.heap.size w1 w')) (go_keep)
          (first
            | (go_at_call 156; refine (surgeIndex_any _ s t _ (H'.out.below (B1.out.trans (Below.mono (Hid.out (by assumption)) B1.out.size))) s0 HH.out).mono ?_; rw [EK.out]; rintro e w7 ⟨rfl, rfl⟩))
        all_goals
          go_wp2
          go_quiet (fail)
          go_wp2
          go_ret3
          refine ⟨ret_val (by rw [E.out, HXX.out]; rfl), ?_⟩
          repeat (first | exact B1.out | refine below_drewN ?_ _ | refine Below.drew ?_ | refine Below.setCell ?_ (by first | omega | (simp <;> omega)) _ | refine Below.alloc ?_ (by first | omega | (simp <;> omega)) _)
set_option maxHeartbeats 2000000 in
theorem l03Surge_any (m : Int) (v u : Value) (l : List PartD) (s : List SurgeD) (t : Int) (w : World) (h : SlP w v l) (h' : SlSurge w u s) (h0 : 0 < s.length) :
    Calls Tryz.prog 126 #[.agg #[.int .i64 m, v, u], .int .i64 t] w fun e w' => e = .returned (.agg #[.int .i64 (atS s t).fr, .int .i64 (atS s t).lo, .int .i64 (atS s t).hi]) ∧ Below w.heap.size w w' := by
  obtain ⟨A, c, rfl⟩ := h.at
  clear h
  obtain ⟨hl, h'⟩ := h'
  rcases h' with ⟨rfl, A', c', rfl⟩ | ⟨g, o, c', rfl, hp, hcap, hc⟩
  · exact absurd h0 (by simp)
  · have HC := Lib.hid hc
    obtain ⟨x0, hx0⟩ : ∃ x, s[0]? = some x := ⟨_, List.getElem?_eq_getElem hp⟩
    obtain ⟨q0, q1, q2⟩ := SlSurge.cells hc 0 x0 hx0
    simp only [Nat.zero_mul, Nat.add_zero] at q0 q1 q2
    have hg : g < w.heap.size := World.block_lt_of_cell? w ⟨g, o, none⟩ q0
    have Z := Lib.hid (atK_zero (t := t) hx0)
    clear hc hx0
    go_enter Tryz.func126, Tryz.ntmps126
    go_wp2
    go_loopw [15] (fun i wr => ∃ k : Nat, k ≤ s.length ∧ i = .int .i64 k ∧ Hid (Blk wr (w.heap.size + 1) #[.int .i64 0, .int .i64 0, .int .i64 0] 115) ∧ Hid (Blk wr (w.heap.size + 1 + 1) #[.int .i64 (atK s t k).fr, .int .i64 (atK s t k).lo, .int .i64 (atK s t k).hi] 115) ∧ Hid (Below w.heap.size w wr)) (fun i _ => s.length - (intOf i).toNat)
    case atStart =>
      refine ⟨0, Nat.zero_le _, rfl, Lib.hid ?_, Lib.hid ?_, Lib.hid ?_⟩
      · exact (Blk.newAt (by simp) _ _).below (Joins.below_alloc1 _ _)
      · rw [Z.out]; exact Blk.newAt (by simp) _ _
      · repeat (first | exact Below.refl _ _ | refine Below.setCell ?_ (by first | omega | (simp <;> omega)) _ | refine Below.alloc ?_ (by first | omega | (simp <;> omega)) _)
    case round =>
      obtain ⟨k, hk, rfl, hR, hO, hb⟩ := hrel
      have hlt2 := hO.out.lt
      have o0 := hO.out.cell 0
      have o1 := hO.out.cell 1
      have o2 := hO.out.cell 2
      have r0 := hR.out.cell 0
      have r1 := hR.out.cell 1
      have r2 := hR.out.cell 2
      simp at o0 o1 o2 r0 r1 r2
      have of0 := hO.out.free 0
      have of1 := hO.out.free 1
      have of2 := hO.out.free 2
      have rf0 := hR.out.free 0
      have rf1 := hR.out.free 1
      have rf2 := hR.out.free 2
      by_cases hlt : k < s.length
      · obtain ⟨x, hx⟩ : ∃ x, s[k]? = some x := ⟨_, List.getElem?_eq_getElem hlt⟩
        obtain ⟨p0, p1, p2⟩ := SlSurge.cells HC.out k x hx
        have a0 := (hb.out.cell (p := ⟨g, o + k * 3, none⟩) hg).trans p0
        have a1 := (hb.out.cell (p := ⟨g, o + k * 3 + 1, none⟩) hg).trans p1
        have a2 := (hb.out.cell (p := ⟨g, o + k * 3 + 2, none⟩) hg).trans p2
        have HX := Lib.hid hx
        clear p0 p1 p2 hx
        by_cases hle : x.fr ≤ t
        · have F := Lib.hid (atK_yes HX.out hle)
          have hd : decide (x.fr ≤ t) = true := decide_eq_true hle
          go_wp2
          go_roundw
          case rel =>
            refine ⟨k + 1, by omega, by go_num, Lib.hid ?_, Lib.hid ?_, Lib.hid ?_⟩
            · exact (((hR.out.other (by omega) _ _).other (by omega) _ _).other (by omega) _ _).below (Joins.below_alloc1 _ _)
            · rw [F.out]; exact (((hO.out.set 0 _).set 1 _).set 2 _).below (Joins.below_alloc1 _ _)
            · have hs := hb.out.size
              repeat (first | exact hb.out | refine Below.setCell ?_ (by first | omega | (simp <;> omega)) _ | refine Below.alloc ?_ (by first | omega | (simp <;> omega)) _)
          case measure => simp [intOf]; omega
        · have F := Lib.hid (atK_no HX.out hle)
          have hd : decide (x.fr ≤ t) = false := decide_eq_false hle
          go_wp2
          go_roundw
          case rel =>
            refine ⟨k + 1, by omega, by go_num, Lib.hid ?_, Lib.hid ?_, Lib.hid ?_⟩
            · exact hR.out.below (Joins.below_alloc1 _ _)
            · rw [F.out]; exact hO.out.below (Joins.below_alloc1 _ _)
            · have hs := hb.out.size
              repeat (first | exact hb.out | refine Below.setCell ?_ (by first | omega | (simp <;> omega)) _ | refine Below.alloc ?_ (by first | omega | (simp <;> omega)) _)
          case measure => simp [intOf]; omega
      · obtain rfl : k = s.length := by omega
        have eA := atK_all s t
        rw [eA] at o0 o1 o2
        clear eA hO hR
        go_wp2
        refine bodyPost_ret (v := .agg #[.int .i64 (atS s t).fr, .int .i64 (atS s t).lo, .int .i64 (atS s t).hi]) (by simp [results, Tryz.results126, go_sem, *]) rfl ⟨rfl, ?_⟩
        have hs := hb.out.size
        repeat (first | exact hb.out | refine Below.setCell ?_ (by first | omega | (simp <;> omega)) _ | refine Below.alloc ?_ (by first | omega | (simp <;> omega)) _)
end Go.Proofs.YtooeikimoheecaaGreat
