
/- What ExactSureStarts and ExactOpenStarts and ExactIsSure and ExactIsOpenStart and ExactDraughtFor rests on, part 6: contracts and mathematics. -/
import Derived.Test.YtpimcbhjkednpaaGreatSt4
import Derived.Test.YtpimcbhjkednpaaGreatSt5
import Derived.StillTailTactics
import Derived.Test.YtpimcbhjkednpaaGreatSt0
import Derived.Test.YtpimcbhjkednpaaGreatSt3
namespace Go.Proofs.YtpimcbhjkednpaaGreat
open Go.RowKit
set_option maxRecDepth 100000
/-- The minutes of a valid ship on a segment. -/
def onMin (g : SegmentD) (s : ShipD) : Int := if s.slow = true then 2 * g.minutes else g.minutes
def minOn (d : ChartD) (i : Int) (s : ShipD) : Int := if chartB d = true ∧ shipB s = true then (match segAt d i with | some g => onMin g s | none => 0) else 0
theorem minOn_bad {d : ChartD} {i : Int} {s : ShipD} (h : chartB d = false ∨ shipB s = false) : minOn d i s = 0 := if_neg (by rintro ⟨h1, h2⟩; rcases h with h | h <;> simp_all)
theorem minOn_off {d : ChartD} {i : Int} {s : ShipD} (h : segAt d i = none) : minOn d i s = 0 := by unfold minOn; split <;> simp [h]
theorem minOn_ok {d : ChartD} {i : Int} {s : ShipD} {g : SegmentD} (h1 : chartB d = true) (h2 : shipB s = true) (h : segAt d i = some g) : minOn d i s = onMin g s := by unfold minOn; rw [if_pos ⟨h1, h2⟩, h]
set_option maxHeartbeats 2000000 in
theorem l06Minutes_any (g : SegmentD) (s : ShipD) (w : World) (h0 : 0 ≤ g.minutes) (h1 : g.minutes ≤ 240) :
    Calls Tryz.prog 89 #[g.val, s.val] w fun e w' => e = .returned (.int .i64 (onMin g s)) ∧ Below w.heap.size w w' := by
  obtain ⟨sa, sb, sd, sm, se⟩ := g
  obtain ⟨na, le, dr, li, tu, sl⟩ := s
  dsimp only at h0 h1
  have B := Lib.hid (Joins.below_alloc2 w (.cells #[.int .i64 sa, .int .i64 sb, .int .i64 sd, .int .i64 sm, .bool se] 108) (.cells #[.string na, .int .i64 le, .int .i64 dr, .int .i64 li, .int .i64 tu, .bool sl] 51))
  have hwr : IntKind.i64.wrap (2 * sm) = 2 * sm := by rw [IntKind.wrap_i64]; omega
  cases sl
  all_goals
    go_enter Tryz.func89, Tryz.ntmps89
    go_wp2
    go_ret
    exact ⟨ret_int rfl, B.out⟩
set_option maxHeartbeats 8000000 in
theorem specMinutesOn (v0 v1 : Value) (d : ChartD) (i : Int) (s : ShipD) (w : World) (h : RdChart w v0 v1 d) (hw : ∀ x ∈ d.points, PointD.wf x) (hs : s.wf) :
    Calls Tryz.prog 57 #[.agg #[v0, v1], .int .i64 i, s.val] w fun e w' => e = .returned (.int .i64 (minOn d i s)) ∧ Below w.heap.size w w' := by
  have HR := Lib.hid h
  have HWF := Lib.hid hw
  obtain ⟨h0, h1⟩ := h
  obtain ⟨A0, c0, rfl⟩ := h0.at
  obtain ⟨A1, c1, rfl⟩ := h1.at
  obtain ⟨W0, hW0⟩ : ∃ W0, W0 = ((w.alloc (.cells #[.slice A0 d.points.length c0, .slice A1 d.segs.length c1] 49)).alloc (.cells #[.string s.name, .int .i64 s.length, .int .i64 s.draught, .int .i64 s.line, .int .i64 s.tugs, .bool s.slow] 51)) := ⟨_, rfl⟩
  have B := Lib.hid (Joins.below_alloc2 w (.cells #[.slice A0 d.points.length c0, .slice A1 d.segs.length c1] 49) (.cells #[.string s.name, .int .i64 s.length, .int .i64 s.draught, .int .i64 s.line, .int .i64 s.tugs, .bool s.slow] 51))
  have BC := Lib.hid ((Blk.new w #[.slice A0 d.points.length c0, .slice A1 d.segs.length c1] 49).below (Joins.below_alloc1 _ (.cells #[.string s.name, .int .i64 s.length, .int .i64 s.draught, .int .i64 s.line, .int .i64 s.tugs, .bool s.slow] 51)))
  have BS := Lib.hid (Blk.new (w.alloc (.cells #[.slice A0 d.points.length c0, .slice A1 d.segs.length c1] 49)) #[.string s.name, .int .i64 s.length, .int .i64 s.draught, .int .i64 s.line, .int .i64 s.tugs, .bool s.slow] 51)
  rw [World.size_alloc] at BS
  have HW0 := Lib.hid hW0
  rw [← hW0] at B BC BS
  have H1 := Lib.hid h1
  have hl1 := h1.1
  clear h0 h1 hw hW0
  have WS := Lib.hid hs
  clear hs
  have p0 : W0.cell? ⟨w.heap.size, 0, none⟩ = some (.slice A0 d.points.length c0) := BC.out.cell 0
  have p1 : W0.cell? ⟨w.heap.size, 1, none⟩ = some (.slice A1 d.segs.length c1) := BC.out.cell 1
  cases hok : chartB d with
  | false =>
    have HOK := Lib.hid hok
    have E := Lib.hid (minOn_bad (i := i) (s := s) (.inl hok))
    clear hok
    go_enter Tryz.func57, Tryz.ntmps57
    go_wp2_with fail
    rw [← HW0.out]
    refine (specChartOk _ _ d _ (HR.out.below B.out) HWF.out).mono ?_
    rw [HOK.out]
    rintro e w1 ⟨rfl, hb1⟩
    have B1 := Lib.hid (B.out.trans (hb1.mono B.out.size))
    clear hb1 p0 p1
    go_wp2
    go_ret
    exact ⟨ret_int E.out.symm, B1.out⟩
  | true =>
  have HOK := Lib.hid hok
  clear hok
  cases hsk : shipB s with
  | false =>
    have HSK := Lib.hid hsk
    have E := Lib.hid (minOn_bad (d := d) (i := i) (.inr hsk))
    clear hsk
    go_enter Tryz.func57, Tryz.ntmps57
    go_wp2_with fail
    rw [← HW0.out]
    refine (specChartOk _ _ d _ (HR.out.below B.out) HWF.out).mono ?_
    rw [HOK.out]
    rintro e w1 ⟨rfl, hb1⟩
    have B1 := Lib.hid (B.out.trans (hb1.mono B.out.size))
    have K1 := BS.out.below hb1
    have s0 := K1.cell 0
    have s1 := K1.cell 1
    have s2 := K1.cell 2
    have s3 := K1.cell 3
    have s4 := K1.cell 4
    have s5 := K1.cell 5
    simp at s0 s1 s2 s3 s4 s5
    clear hb1 p0 p1 K1
    go_wp2_with fail
    refine (specShipOk s _ WS.out).mono ?_
    rw [HSK.out]
    rintro e w2 ⟨rfl, hb2⟩
    have B2 := Lib.hid (B1.out.trans (hb2.mono B1.out.size))
    clear hb2 s0 s1 s2 s3 s4 s5
    go_wp2
    go_ret
    exact ⟨ret_int E.out.symm, B2.out⟩
  | true =>
  have HSK := Lib.hid hsk
  clear hsk
  obtain ⟨b, hin⟩ : ∃ b, inB i 0 ((d.segs.length : Int) - 1) = b := ⟨_, rfl⟩
  have HIN := Lib.hid hin
  clear hin
  have REST : ∀ R : Int, minOn d i s = R → Calls Tryz.prog 57 #[.agg #[.slice A0 d.points.length c0, .slice A1 d.segs.length c1], .int .i64 i, s.val] w fun e w' => e = .returned (.int .i64 R) ∧ Below w.heap.size w w' := by
    intro R hR
    have E := Lib.hid hR
    clear hR
    go_enter Tryz.func57, Tryz.ntmps57
    go_wp2_with fail
    rw [← HW0.out]
    refine (specChartOk _ _ d _ (HR.out.below B.out) HWF.out).mono ?_
    rw [HOK.out]
    rintro e w1 ⟨rfl, hb1⟩
    have B1 := Lib.hid (B.out.trans (hb1.mono B.out.size))
    have K1 := BS.out.below hb1
    have s0 := K1.cell 0
    have s1 := K1.cell 1
    have s2 := K1.cell 2
    have s3 := K1.cell 3
    have s4 := K1.cell 4
    have s5 := K1.cell 5
    simp at s0 s1 s2 s3 s4 s5
    have BC1 := Lib.hid (BC.out.below hb1)
    have BS1 := Lib.hid K1
    clear hb1 p0 p1 K1
    go_wp2_with fail
    refine (specShipOk s _ WS.out).mono ?_
    rw [HSK.out]
    rintro e w2 ⟨rfl, hb2⟩
    have B2 := Lib.hid (B1.out.trans (hb2.mono B1.out.size))
    have BC2 := Lib.hid (BC1.out.below hb2)
    have BS2 := Lib.hid (BS1.out.below hb2)
    clear hb2 s0 s1 s2 s3 s4 s5
    have p0 : w2.cell? ⟨w.heap.size, 0, none⟩ = some (.slice A0 d.points.length c0) := BC2.out.cell 0
    have p1 : w2.cell? ⟨w.heap.size, 1, none⟩ = some (.slice A1 d.segs.length c1) := BC2.out.cell 1
    go_wp2_with fail
    refine (l01In_any _ _ _ _).mono ?_
    rw [HIN.out]
    rintro e w3 ⟨rfl, rfl⟩
    cases b with
    | false =>
      have E2 := Lib.hid (E.out.symm.trans (minOn_off (segAt_out HIN.out)))
      go_wp2
      go_ret
      exact ⟨ret_int E2.out.symm, B2.out⟩
    | true =>
      obtain ⟨sg, hsg, hx, i0', ilt⟩ := segAt_in HIN.out
      obtain ⟨-, -, -, -, -, -, -, m0, m1⟩ := segB_true (chartB_seg HOK.out hx)
      have E2 := Lib.hid (E.out.symm.trans (minOn_ok HOK.out HSK.out hsg))
      obtain ⟨k, rfl⟩ : ∃ n : Nat, i = (n : Int) := ⟨i.toNat, by omega⟩
      simp only [Int.toNat_natCast] at hx ilt
      clear hsg i0'
      rcases H1.out.2 with ⟨he, _⟩ | ⟨g', o', c', e', hpos', hcap', hc'⟩
      · rw [he] at ilt; simp at ilt
      · injection e' with hA' _ hcp'
        subst hA' hcp'
        obtain ⟨q0, q1, q2, q3, q4⟩ := SlSegment.cells hc' k sg hx
        have hg' : g' < w.heap.size := World.block_lt_of_cell? w ⟨g', o' + k * 5, none⟩ q0
        have y0 := (B2.out.cell (p := ⟨g', o' + k * 5, none⟩) hg').trans q0
        have y1 := (B2.out.cell (p := ⟨g', o' + k * 5 + 1, none⟩) hg').trans q1
        have y2 := (B2.out.cell (p := ⟨g', o' + k * 5 + 2, none⟩) hg').trans q2
        have y3 := (B2.out.cell (p := ⟨g', o' + k * 5 + 3, none⟩) hg').trans q3
        have y4 := (B2.out.cell (p := ⟨g', o' + k * 5 + 4, none⟩) hg').trans q4
        have s0 := BS2.out.cell 0
        have s1 := BS2.out.cell 1
        have s2 := BS2.out.cell 2
        have s3 := BS2.out.cell 3
        have s4 := BS2.out.cell 4
        have s5 := BS2.out.cell 5
        simp at s0 s1 s2 s3 s4 s5
        clear q0 q1 q2 q3 q4 hx hc' HIN

        go_wp2
        go_still_tail 6, (by kernel_rfl)
        change wpList _ _ _ _ _ w2.drew
        have B3 := Lib.hid (B2.out.trans ((Below.refl w2.heap.size w2).drew.mono B2.out.size))
        generalize w2.drew = w3 at B3 ⊢
        clear p0 p1 y0 y1 y2 y3 y4 s0 s1 s2 s3 s4 s5
        go_wp2_with fail
        refine (l06Minutes_any sg s _ (by omega) m1).mono ?_
        rintro e w4 ⟨rfl, hb4⟩
        have B4 := Lib.hid (B3.out.trans (hb4.mono B3.out.size))
        clear hb4
        go_wp2
        go_ret
        exact ⟨ret_int E2.out.symm, B4.out⟩
  exact REST _ rfl
/-- The chart, the segment and the ship are valid. -/
def sailB (d : ChartD) (i : Int) (s : ShipD) : Bool := chartB d && shipB s && inB i 0 ((d.segs.length : Int) - 1)
theorem sailB_true {d : ChartD} {i : Int} {s : ShipD} (h : sailB d i s = true) : chartB d = true ∧ shipB s = true ∧ ∃ g, segAt d i = some g ∧ d.segs[i.toNat]? = some g ∧ 0 ≤ i ∧ i.toNat < d.segs.length ∧ segB d.points.length g = true := by
  unfold sailB at h
  simp only [Bool.and_eq_true] at h
  obtain ⟨⟨h1, h2⟩, h3⟩ := h
  obtain ⟨g, hg, hx, i0, il⟩ := segAt_in h3
  exact ⟨h1, h2, g, hg, hx, i0, il, chartB_seg h1 hx⟩
theorem minOn_no {d : ChartD} {i : Int} {s : ShipD} (h : sailB d i s = false) : minOn d i s = 0 := by
  cases h1 : chartB d with
  | false => exact minOn_bad (.inl h1)
  | true =>
    cases h2 : shipB s with
    | false => exact minOn_bad (.inr h2)
    | true =>
      refine minOn_off (segAt_out ?_)
      unfold sailB at h
      rw [h1, h2] at h
      simpa using h
set_option maxHeartbeats 4000000 in
theorem implSail (v0 v1 : Value) (d : ChartD) (i : Int) (s : ShipD) (w : World) (h : RdChart w v0 v1 d) (hw : ∀ x ∈ d.points, PointD.wf x) (hs : s.wf) :
    Calls Tryz.prog 71 #[.agg #[v0, v1], .int .i64 i, s.val] w fun e w' => e = .returned (.bool (sailB d i s)) ∧ Below w.heap.size w w' := by
  have HR := Lib.hid h
  have HWF := Lib.hid hw
  have WS := Lib.hid hs
  obtain ⟨h0, h1⟩ := h
  obtain ⟨A0, c0, rfl⟩ := h0.at
  obtain ⟨A1, c1, rfl⟩ := h1.at
  obtain ⟨W0, hW0⟩ : ∃ W0, W0 = ((w.alloc (.cells #[.slice A0 d.points.length c0, .slice A1 d.segs.length c1] 49)).alloc (.cells #[.string s.name, .int .i64 s.length, .int .i64 s.draught, .int .i64 s.line, .int .i64 s.tugs, .bool s.slow] 51)) := ⟨_, rfl⟩
  have B := Lib.hid (Joins.below_alloc2 w (.cells #[.slice A0 d.points.length c0, .slice A1 d.segs.length c1] 49) (.cells #[.string s.name, .int .i64 s.length, .int .i64 s.draught, .int .i64 s.line, .int .i64 s.tugs, .bool s.slow] 51))
  have BC := Lib.hid ((Blk.new w #[.slice A0 d.points.length c0, .slice A1 d.segs.length c1] 49).below (Joins.below_alloc1 _ (.cells #[.string s.name, .int .i64 s.length, .int .i64 s.draught, .int .i64 s.line, .int .i64 s.tugs, .bool s.slow] 51)))
  have BS := Lib.hid (Blk.new (w.alloc (.cells #[.slice A0 d.points.length c0, .slice A1 d.segs.length c1] 49)) #[.string s.name, .int .i64 s.length, .int .i64 s.draught, .int .i64 s.line, .int .i64 s.tugs, .bool s.slow] 51)
  rw [World.size_alloc] at BS
  have HW0 := Lib.hid hW0
  rw [← hW0] at B BC BS
  have H1 := Lib.hid h1
  have hl1 := h1.1
  clear h0 h1 hw hs hW0
  obtain ⟨b1, hb1⟩ : ∃ b, chartB d = b := ⟨_, rfl⟩
  obtain ⟨b2, hb2⟩ : ∃ b, shipB s = b := ⟨_, rfl⟩
  obtain ⟨b3, hb3⟩ : ∃ b, inB i 0 ((d.segs.length : Int) - 1) = b := ⟨_, rfl⟩
  rw [show sailB d i s = (b1 && b2 && b3) by unfold sailB; rw [hb1, hb2, hb3]]
  have H1' := Lib.hid hb1
  have H2' := Lib.hid hb2
  have H3' := Lib.hid hb3
  clear hb1 hb2 hb3
  have p0 : W0.cell? ⟨w.heap.size, 0, none⟩ = some (.slice A0 d.points.length c0) := BC.out.cell 0
  have p1 : W0.cell? ⟨w.heap.size, 1, none⟩ = some (.slice A1 d.segs.length c1) := BC.out.cell 1
  cases b1 with
  | false =>
    rw [show (false && b2 && b3) = false by simp]
    go_enter Tryz.func71, Tryz.ntmps71
    go_wp2_with fail
    rw [← HW0.out]
    refine (implChartOk _ _ d _ (HR.out.below B.out) HWF.out).mono ?_
    rw [H1'.out]
    rintro e w1 ⟨rfl, hbk⟩
    have B1 := Lib.hid (B.out.trans (hbk.mono B.out.size))
    clear hbk p0 p1
    go_wp2
    go_ret
    exact ⟨rfl, B1.out⟩
  | true =>
  cases b2 with
  | false =>
    rw [show (true && false && b3) = false by simp]
    go_enter Tryz.func71, Tryz.ntmps71
    go_wp2_with fail
    rw [← HW0.out]
    refine (implChartOk _ _ d _ (HR.out.below B.out) HWF.out).mono ?_
    rw [H1'.out]
    rintro e w1 ⟨rfl, hbk⟩
    have B1 := Lib.hid (B.out.trans (hbk.mono B.out.size))
    have s0 : w1.cell? ⟨w.heap.size + 1, 0, none⟩ = some (.string s.name) := (BS.out.below hbk).cell 0
    have s1 : w1.cell? ⟨w.heap.size + 1, 1, none⟩ = some (.int .i64 s.length) := (BS.out.below hbk).cell 1
    have s2 : w1.cell? ⟨w.heap.size + 1, 2, none⟩ = some (.int .i64 s.draught) := (BS.out.below hbk).cell 2
    have s3 : w1.cell? ⟨w.heap.size + 1, 3, none⟩ = some (.int .i64 s.line) := (BS.out.below hbk).cell 3
    have s4 : w1.cell? ⟨w.heap.size + 1, 4, none⟩ = some (.int .i64 s.tugs) := (BS.out.below hbk).cell 4
    have s5 : w1.cell? ⟨w.heap.size + 1, 5, none⟩ = some (.bool s.slow) := (BS.out.below hbk).cell 5
    have BC1 := Lib.hid (BC.out.below hbk)
    clear hbk p0 p1
    go_wp2_with fail
    refine (implShipOk s _ WS.out).mono ?_
    rw [H2'.out]
    rintro e w2 ⟨rfl, hbk⟩
    have B2 := Lib.hid (B1.out.trans (hbk.mono B1.out.size))
    have p1 : w2.cell? ⟨w.heap.size, 1, none⟩ = some (.slice A1 d.segs.length c1) := (BC1.out.below hbk).cell 1
    clear hbk s0 s1 s2 s3 s4 s5
    go_wp2
    go_ret
    exact ⟨rfl, B2.out⟩
  | true =>
  rw [show (true && true && b3) = b3 by simp]
  go_enter Tryz.func71, Tryz.ntmps71
  go_wp2_with fail
  rw [← HW0.out]
  refine (implChartOk _ _ d _ (HR.out.below B.out) HWF.out).mono ?_
  rw [H1'.out]
  rintro e w1 ⟨rfl, hbk⟩
  have B1 := Lib.hid (B.out.trans (hbk.mono B.out.size))
  have s0 : w1.cell? ⟨w.heap.size + 1, 0, none⟩ = some (.string s.name) := (BS.out.below hbk).cell 0
  have s1 : w1.cell? ⟨w.heap.size + 1, 1, none⟩ = some (.int .i64 s.length) := (BS.out.below hbk).cell 1
  have s2 : w1.cell? ⟨w.heap.size + 1, 2, none⟩ = some (.int .i64 s.draught) := (BS.out.below hbk).cell 2
  have s3 : w1.cell? ⟨w.heap.size + 1, 3, none⟩ = some (.int .i64 s.line) := (BS.out.below hbk).cell 3
  have s4 : w1.cell? ⟨w.heap.size + 1, 4, none⟩ = some (.int .i64 s.tugs) := (BS.out.below hbk).cell 4
  have s5 : w1.cell? ⟨w.heap.size + 1, 5, none⟩ = some (.bool s.slow) := (BS.out.below hbk).cell 5
  have BC1 := Lib.hid (BC.out.below hbk)
  clear hbk p0 p1
  go_wp2_with fail
  refine (implShipOk s _ WS.out).mono ?_
  rw [H2'.out]
  rintro e w2 ⟨rfl, hbk⟩
  have B2 := Lib.hid (B1.out.trans (hbk.mono B1.out.size))
  have p1 : w2.cell? ⟨w.heap.size, 1, none⟩ = some (.slice A1 d.segs.length c1) := (BC1.out.below hbk).cell 1
  clear hbk s0 s1 s2 s3 s4 s5
  go_wp2_with fail
  refine (isIndex_any _ _ _).mono ?_
  rw [H3'.out]
  rintro e w3 ⟨rfl, rfl⟩
  go_wp2
  go_ret
  exact ⟨rfl, B2.out⟩
set_option maxHeartbeats 4000000 in
theorem implMinutesOn (v0 v1 : Value) (d : ChartD) (i : Int) (s : ShipD) (w : World) (h : RdChart w v0 v1 d) (hw : ∀ x ∈ d.points, PointD.wf x) (hs : s.wf) :
    Calls Tryz.prog 74 #[.agg #[v0, v1], .int .i64 i, s.val] w fun e w' => e = .returned (.int .i64 (minOn d i s)) ∧ Below w.heap.size w w' := by
  have HR := Lib.hid h
  have HWF := Lib.hid hw
  have WS := Lib.hid hs
  obtain ⟨h0, h1⟩ := h
  obtain ⟨A0, c0, rfl⟩ := h0.at
  obtain ⟨A1, c1, rfl⟩ := h1.at
  obtain ⟨W0, hW0⟩ : ∃ W0, W0 = ((w.alloc (.cells #[.slice A0 d.points.length c0, .slice A1 d.segs.length c1] 49)).alloc (.cells #[.string s.name, .int .i64 s.length, .int .i64 s.draught, .int .i64 s.line, .int .i64 s.tugs, .bool s.slow] 51)) := ⟨_, rfl⟩
  have B := Lib.hid (Joins.below_alloc2 w (.cells #[.slice A0 d.points.length c0, .slice A1 d.segs.length c1] 49) (.cells #[.string s.name, .int .i64 s.length, .int .i64 s.draught, .int .i64 s.line, .int .i64 s.tugs, .bool s.slow] 51))
  have BC := Lib.hid ((Blk.new w #[.slice A0 d.points.length c0, .slice A1 d.segs.length c1] 49).below (Joins.below_alloc1 _ (.cells #[.string s.name, .int .i64 s.length, .int .i64 s.draught, .int .i64 s.line, .int .i64 s.tugs, .bool s.slow] 51)))
  have BS := Lib.hid (Blk.new (w.alloc (.cells #[.slice A0 d.points.length c0, .slice A1 d.segs.length c1] 49)) #[.string s.name, .int .i64 s.length, .int .i64 s.draught, .int .i64 s.line, .int .i64 s.tugs, .bool s.slow] 51)
  rw [World.size_alloc] at BS
  have HW0 := Lib.hid hW0
  rw [← hW0] at B BC BS
  have H1 := Lib.hid h1
  have hl1 := h1.1
  clear h0 h1 hw hs hW0
  obtain ⟨t, ht⟩ : ∃ t, sailB d i s = t := ⟨_, rfl⟩
  have HT := Lib.hid ht
  have p0 : W0.cell? ⟨w.heap.size, 0, none⟩ = some (.slice A0 d.points.length c0) := BC.out.cell 0
  have p1 : W0.cell? ⟨w.heap.size, 1, none⟩ = some (.slice A1 d.segs.length c1) := BC.out.cell 1
  have s0 : W0.cell? ⟨w.heap.size + 1, 0, none⟩ = some (.string s.name) := BS.out.cell 0
  have s1 : W0.cell? ⟨w.heap.size + 1, 1, none⟩ = some (.int .i64 s.length) := BS.out.cell 1
  have s2 : W0.cell? ⟨w.heap.size + 1, 2, none⟩ = some (.int .i64 s.draught) := BS.out.cell 2
  have s3 : W0.cell? ⟨w.heap.size + 1, 3, none⟩ = some (.int .i64 s.line) := BS.out.cell 3
  have s4 : W0.cell? ⟨w.heap.size + 1, 4, none⟩ = some (.int .i64 s.tugs) := BS.out.cell 4
  have s5 : W0.cell? ⟨w.heap.size + 1, 5, none⟩ = some (.bool s.slow) := BS.out.cell 5
  cases t with
  | false =>
    have E := Lib.hid (minOn_no ht)
    clear ht
    go_enter Tryz.func74, Tryz.ntmps74
    go_wp2_with fail
    rw [← HW0.out]
    clear p0 p1 s0 s1 s2 s3 s4 s5
    refine (implSail _ _ d i s _ (HR.out.below B.out) HWF.out WS.out).mono ?_
    rw [HT.out]
    rintro e w1 ⟨rfl, hbk⟩
    have B1 := Lib.hid (B.out.trans (hbk.mono B.out.size))
    clear hbk
    go_wp2
    go_ret
    exact ⟨ret_int E.out.symm, B1.out⟩
  | true =>
    obtain ⟨ok1, ok2, g, hg, hx, i0, il, hsb⟩ := sailB_true ht
    have E := Lib.hid (minOn_ok ok1 ok2 hg)
    obtain ⟨-, -, -, -, -, -, -, m0, m1⟩ := segB_true hsb
    have hwr : IntKind.i64.wrap (2 * g.minutes) = 2 * g.minutes := by rw [IntKind.wrap_i64]; omega
    obtain ⟨k, rfl⟩ : ∃ n : Nat, i = (n : Int) := ⟨i.toNat, by omega⟩
    simp only [Int.toNat_natCast] at hx il
    obtain ⟨g', o', e', FD0⟩ : ∃ g' o', A1 = some ⟨g', o', none⟩ ∧ w.cell? ⟨g', o' + k * 5 + 3, none⟩ = some (.int .i64 g.minutes) := by
      rcases H1.out.2 with ⟨he, _⟩ | ⟨g', o', c', e, _, _, hc⟩
      · rw [he] at hx; simp at hx
      · injection e with hA _ _
        exact ⟨g', o', hA, (SlSegment.cells hc k g hx).2.2.2.1⟩
    subst e'
    clear ht hg hx hsb ok1 ok2 i0 m0 m1
    go_enter Tryz.func74, Tryz.ntmps74
    go_wp2_with fail
    rw [← HW0.out]
    clear p0 p1 s0 s1 s2 s3 s4 s5
    refine (implSail _ _ d (k : Int) s _ (HR.out.below B.out) HWF.out WS.out).mono ?_
    rw [HT.out]
    rintro e w1 ⟨rfl, hbk⟩
    have B1 := Lib.hid (B.out.trans (hbk.mono B.out.size))
    have FD := cell_onV FD0 B1.out
    have p0 : w1.cell? ⟨w.heap.size, 0, none⟩ = some (.slice A0 d.points.length c0) := (BC.out.below hbk).cell 0
    have p1 : w1.cell? ⟨w.heap.size, 1, none⟩ = some (.slice (some ⟨g', o', none⟩) d.segs.length c1) := (BC.out.below hbk).cell 1
    have s0 : w1.cell? ⟨w.heap.size + 1, 0, none⟩ = some (.string s.name) := (BS.out.below hbk).cell 0
    have s1 : w1.cell? ⟨w.heap.size + 1, 1, none⟩ = some (.int .i64 s.length) := (BS.out.below hbk).cell 1
    have s2 : w1.cell? ⟨w.heap.size + 1, 2, none⟩ = some (.int .i64 s.draught) := (BS.out.below hbk).cell 2
    have s3 : w1.cell? ⟨w.heap.size + 1, 3, none⟩ = some (.int .i64 s.line) := (BS.out.below hbk).cell 3
    have s4 : w1.cell? ⟨w.heap.size + 1, 4, none⟩ = some (.int .i64 s.tugs) := (BS.out.below hbk).cell 4
    have s5 : w1.cell? ⟨w.heap.size + 1, 5, none⟩ = some (.bool s.slow) := (BS.out.below hbk).cell 5
    clear hbk FD0
    cases hsl : s.slow with
    | true =>
      rw [hsl] at s5
      have E3 := Lib.hid (show minOn d (k : Int) s = 2 * g.minutes from E.out.trans (if_pos hsl))
      clear hsl E
      go_wp2
      go_ret
      exact ⟨ret_int E3.out.symm, B1.out⟩
    | false =>
      rw [hsl] at s5
      have E3 := Lib.hid (show minOn d (k : Int) s = g.minutes from E.out.trans (if_neg (by rw [hsl]; simp)))
      clear hsl E
      go_wp2
      go_ret
      exact ⟨ret_int E3.out.symm, B1.out⟩
end Go.Proofs.YtpimcbhjkednpaaGreat
namespace Go.Proofs.YtpimcbhjkednpaaGreat
open Go.ChangeShapes Go.WideShapes Go.ChangeAt Go.Deep Go.RowKit
set_option maxRecDepth 100000
structure WindowD where
  fr : Int
  tt : Int
@[reducible] def WindowD.val (d : WindowD) : Value := .agg #[.int .i64 d.fr, .int .i64 d.tt]
@[reducible] def WindowD.cells (d : WindowD) : List Value := [.int .i64 d.fr, .int .i64 d.tt]
theorem windowLen (d : WindowD) : d.cells.length = 2 := rfl
def SlWindow : World → Value → List WindowD → Prop := SlOf 2 WindowD.cells
def OwnWindow : World → Nat → Value → List WindowD → Prop := OwnOf 2 WindowD.cells 77
def NewWindow : List WindowD → World → Ending → World → Prop := NewOf 2 WindowD.cells 77
theorem SlWindow.at {w : World} {v : Value} {l : List WindowD} (h : SlWindow w v l) : ∃ A c, v = .slice A l.length c := SlOf.form h
theorem SlWindow.below {w w' : World} {v : Value} {l : List WindowD} (h : SlWindow w v l) (hb : Below w.heap.size w w') : SlWindow w' v l := SlOf.below h hb
theorem OwnWindow.sl {w : World} {base : Nat} {v : Value} {l : List WindowD} (h : OwnWindow w base v l) (hl : l.length ≤ 1000000000) : SlWindow w v l := own_sl windowLen h hl
theorem SlWindow.cells {w : World} {l : List WindowD} {g o : Nat} (hc : ∀ i x, l[i]? = some x → ∀ j u, (WindowD.cells x)[j]? = some u → w.cell? ⟨g, o + i * 2 + j, none⟩ = some u) (i : Nat) (x : WindowD) (hx : l[i]? = some x) :
    w.cell? ⟨g, o + i * 2, none⟩ = some (.int .i64 x.fr) ∧ w.cell? ⟨g, o + i * 2 + 1, none⟩ = some (.int .i64 x.tt) :=
  ⟨hc i x hx 0 _ rfl, hc i x hx 1 _ rfl⟩
theorem info_window : (Tryz.prog.info? 77).map (fun i => (i.zero, i.size, i.bytes)) = some (some (.agg #[.int .i64 0, .int .i64 0]), 2, 16) := by kernel_rfl
theorem eqWindow_same (fr tt : Int) (w : World) : Calls Tryz.prog 42 #[.agg #[.int .i64 fr, .int .i64 tt], .agg #[.int .i64 fr, .int .i64 tt]] w fun e w' => e = .returned (.bool true) ∧ Below w.heap.size w w' := by
  go_enter Tryz.func42, Tryz.ntmps42
  go_wp2
  go_ret
  exact ⟨rfl, Joins.below_alloc2 _ _ _⟩
set_option maxHeartbeats 1000000 in
theorem eqWindowS_same (va vb : Value) (l : List WindowD) (w : World) (ha : SlWindow w va l) (hb : SlWindow w vb l) :
    Calls Tryz.prog 16 #[va, vb] w fun e w' => e = .returned (.bool true) ∧ Below w.heap.size w w' := by
  obtain ⟨hl, ha⟩ := ha
  obtain ⟨_, hb⟩ := hb
  rcases ha with ⟨rfl, A, c, rfl⟩ | ⟨g, o, c, rfl, hp, _, hca⟩
  · rcases hb with ⟨_, A', c', rfl⟩ | ⟨g', o', c', rfl, hp, _, _⟩
    · go_enter Tryz.func16, Tryz.ntmps16
      go_wp2
      refine wp_loop_rounds 1 ?_
      rw [rounds_succ]
      go_wp2
      go_ret
      exact ⟨rfl, Below.refl _ _⟩
    · exact absurd hp (by simp)
  · rcases hb with ⟨rfl, A', c', rfl⟩ | ⟨g', o', c', rfl, _, _, hcb⟩
    · exact absurd hp (by simp)
    · have HA := Lib.hid hca
      have HB := Lib.hid hcb
      clear hca hcb
      go_enter Tryz.func16, Tryz.ntmps16
      go_wp2
      go_loopw [5] (fun i wr => ∃ k : Nat, k ≤ l.length ∧ i = .int .i64 k ∧ Below w.heap.size w wr) (fun i _ => l.length - (intOf i).toNat)
      case atStart => exact ⟨0, Nat.zero_le _, rfl, Below.refl _ _⟩
      case round =>
        obtain ⟨k, hk, rfl, hb⟩ := hrel
        by_cases hlt : k < l.length
        · obtain ⟨x, hx⟩ : ∃ x, l[k]? = some x := ⟨_, List.getElem?_eq_getElem hlt⟩
          obtain ⟨p0, p1⟩ := SlWindow.cells HA.out k x hx
          obtain ⟨q0, q1⟩ := SlWindow.cells HB.out k x hx
          have hg : g < w.heap.size := World.block_lt_of_cell? w ⟨g, o + k * 2, none⟩ p0
          have hg' : g' < w.heap.size := World.block_lt_of_cell? w ⟨g', o' + k * 2, none⟩ q0
          have a0 := (hb.cell (p := ⟨g, o + k * 2, none⟩) hg).trans p0
          have a1 := (hb.cell (p := ⟨g, o + k * 2 + 1, none⟩) hg).trans p1
          have b0 := (hb.cell (p := ⟨g', o' + k * 2, none⟩) hg').trans q0
          have b1 := (hb.cell (p := ⟨g', o' + k * 2 + 1, none⟩) hg').trans q1
          have hbs := hb.size
          clear p0 q0 p1 q1 hx
          go_wp2
          go_still_tail 8, (by kernel_rfl)
          change wpList _ _ _ _ _ wr.drew
          have hd := hb.drew
          generalize wr.drew = w2 at hd ⊢
          have hds := hd.size
          clear a0 b0 a1 b1 hb hbs
          go_wp2_with fail
          refine (eqWindow_same _ _ _).mono ?_
          rintro e w3 ⟨rfl, hb3⟩
          have B3 := Lib.hid (hd.trans (hb3.mono hds))
          clear hb3 hd hds
          go_wp2
          go_roundw
          case rel => exact ⟨k + 1, by omega, by go_num, B3.out⟩
          case measure => simp [intOf]; omega
        · go_wp2
          go_ret
          exact ⟨rfl, hb⟩
set_option maxHeartbeats 1000000 in
theorem markWindowS_any (v : Value) (l : List WindowD) (k : Int) (w : World) (h : SlWindow w v l) (hfz : ∀ g, v.ownBlock = some g → ∀ j, w.frozen? ⟨g, j, none⟩ = false) (h0 : 0 ≤ k) (h1 : k ≤ 100000000) (h2 : l.length ≤ 10000000) :
    Calls Tryz.prog 21 #[v, .int .i64 k] w fun e w' => e = .returned (.int .i64 (k + (l.length : Int) * 2)) ∧ Marked w' v (l.length * 2) k ∧ w.grownBy w' v.ownBlock := by
  obtain ⟨hl, h⟩ := h
  rcases h with ⟨rfl, A, c, rfl⟩ | ⟨g, o, c, rfl, hp, hcap, hc⟩
  · go_enter Tryz.func21, Tryz.ntmps21
    go_wp2
    refine wp_loop_rounds 1 ?_
    rw [rounds_succ]
    go_wp2
    go_ret
    exact ⟨ret_int (by simp), .inl (by simp), World.grownBy.refl _ _⟩
  · have hs : MarkRow w g o (l.length * 2) k (0 * 2) w := MarkRow.start (ints_of (fun x : WindowD => [x.fr, x.tt]) (fun x => rfl) (by omega) windowLen hc) (fun j => hfz g rfl j)
    have HS := Lib.hid hs
    clear hs hc hfz
    go_enter Tryz.func21, Tryz.ntmps21
    go_wp2
    go_loopw [1, 5] (fun q i wr => ∃ j : Nat, j ≤ l.length ∧ i = .int .i64 j ∧ q = .int .i64 (k + (j : Int) * 2) ∧ Hid (MarkRow w g o (l.length * 2) k (j * 2) wr)) (fun _ i _ => l.length - (intOf i).toNat)
    case atStart => exact ⟨0, Nat.zero_le _, rfl, by simp, HS⟩
    case round =>
      obtain ⟨j, hj, rfl, rfl, hM⟩ := hrel
      by_cases hlt : j < l.length
      · have fz := hM.out.2.2.2
        obtain ⟨x0, c0⟩ := hM.out.read (j * 2 + 0) (by omega) (by omega) (o + j * 2) (by omega)
        have f0 := fz (o + j * 2)
        have M0 := hM.out.next' (by omega) (o + j * 2) (by omega) (k + (j : Int) * 2) (by omega) (j * 2 + 1) rfl
        obtain ⟨x1, c1⟩ := hM.out.read (j * 2 + 1) (by omega) (by omega) (o + j * 2 + 1) (by omega)
        have f1 := fz (o + j * 2 + 1)
        have M1 := M0.next' (by omega) (o + j * 2 + 1) (by omega) (k + (j : Int) * 2 + 1) (by omega) (j * 2 + 2) rfl
        have HM := Lib.hid M1
        clear fz M0 M1
        go_wp2
        go_roundw
        case rel =>
          refine ⟨j + 1, by omega, by go_num, ?_, ?_⟩
          · congr 1; omega
          · rw [show (j + 1) * 2 = j * 2 + 2 by omega]; exact HM
        case measure => simp [intOf]; omega
      · go_wp2
        go_ret
        obtain rfl : j = l.length := by omega
        exact ⟨rfl, .inr ⟨g, o, l.length, c, rfl, hM.out.2.1⟩, hM.out.1⟩
set_option maxHeartbeats 1000000 in
theorem heldWindowS_any (v : Value) (len : Nat) (A : Option Addr) (c : Nat) (hv : v = .slice A len c) (k : Int) (w : World) (h : Marked w v (len * 2) k) (h0 : 0 ≤ k) (h1 : k ≤ 100000000) (h2 : len ≤ 10000000) :
    Calls Tryz.prog 22 #[v, .int .i64 k] w fun e w' => e = .returned (.int .i64 (k + (len : Int) * 2)) ∧ w = w' := by
  subst hv
  rcases h with hn | ⟨g, o, len', c', hv, hc⟩
  · obtain rfl : len = 0 := by omega
    go_enter Tryz.func22, Tryz.ntmps22
    go_wp2
    refine wp_loop_rounds 1 ?_
    rw [rounds_succ]
    go_wp2
    go_ret
    exact ⟨ret_int (by simp), rfl⟩
  · injection hv with hA hlen hcap
    subst hA hlen hcap
    have HC := Lib.hid hc
    clear hc
    go_enter Tryz.func22, Tryz.ntmps22
    go_wp2
    go_loop [1, 5] (fun q i => ∃ j : Nat, j ≤ len ∧ i = .int .i64 j ∧ q = .int .i64 (k + (j : Int) * 2)) (fun _ i => len - (intOf i).toNat)
    case atStart => exact ⟨0, Nat.zero_le _, rfl, by simp⟩
    case round =>
      obtain ⟨j, hj, rfl, rfl⟩ := hrel
      by_cases hlt : j < len
      · have c0 : w.cell? ⟨g, o + j * 2, none⟩ = some (.int .i64 (k + (j : Int) * 2)) := by have h := HC.out (j * 2 + 0) (by omega); rw [show o + (j * 2 + 0) = o + j * 2 by omega, show k + ((j * 2 + 0 : Nat) : Int) = k + (j : Int) * 2 by omega] at h; exact h
        have c1 : w.cell? ⟨g, o + j * 2 + 1, none⟩ = some (.int .i64 (k + (j : Int) * 2 + 1)) := by have h := HC.out (j * 2 + 1) (by omega); rw [show o + (j * 2 + 1) = o + j * 2 + 1 by omega, show k + ((j * 2 + 1 : Nat) : Int) = k + (j : Int) * 2 + 1 by omega] at h; exact h
        go_wp2
        go_round
        case rel =>
          refine ⟨j + 1, by omega, by go_num, ?_⟩
          congr 1; omega
        case measure => simp [intOf]; omega
      · go_wp2
        go_ret
        obtain rfl : j = len := by omega
        exact ⟨rfl, rfl⟩
section
variable {H : Type} {enc : TypeId × Value → H} {w : World} {base : Nat} {spare : Nat → Bool} {held : Bool}
def WindowD.wf (d : WindowD) : Prop := (Lit.int .i64 d.fr).wf = true ∧ (Lit.int .i64 d.tt).wf = true
end
end Go.Proofs.YtpimcbhjkednpaaGreat
namespace Go.Proofs.YtpimcbhjkednpaaGreat
open Go.RowKit
set_option maxRecDepth 100000
@[reducible] def PartD.cells (d : PartD) : List Value := [.int .i64 d.amp, .int .i64 d.per, .int .i64 d.pha]
theorem partLen (d : PartD) : d.cells.length = 3 := rfl
def SlP : World → Value → List PartD → Prop := SlOf 3 PartD.cells
def OwnP : World → Nat → Value → List PartD → Prop := OwnOf 3 PartD.cells 135
def NewP : List PartD → World → Ending → World → Prop := NewOf 3 PartD.cells 135
theorem info_part : (Tryz.prog.info? 135).map (fun i => (i.zero, i.size, i.bytes)) = some (some (.agg #[.int .i64 0, .int .i64 0, .int .i64 0]), 3, 24) := by kernel_rfl
theorem make_parts (n : Nat) (hn : n ≤ 1000000000) (W : World) :
    (Instr.makeSlice 39 (.int .i64 (n : Int)) (.int .i64 (n : Int))).run Tryz.prog W = .ok (.slice (some ⟨W.heap.size, 0, none⟩) n n) (W.alloc (.cells (madeCells #[.int .i64 0, .int .i64 0, .int .i64 0] (n * 3)) 135)) := by
  obtain ⟨i0, hi, hz0, hz1, hz2⟩ := info_parts info_part
  have hr := run_make (P := Tryz.prog) W 39 135 i0 _ Tryz.underlying39 hi hz0 .i64 .i64 n n (by omega) (Int.le_refl _) (by rw [hz2]; omega) (by omega)
  simp only [Int.toNat_natCast, hz1] at hr
  exact hr
theorem SlP.cells {w : World} {l : List PartD} {g o : Nat} (hc : ∀ i x, l[i]? = some x → ∀ j u, (PartD.cells x)[j]? = some u → w.cell? ⟨g, o + i * 3 + j, none⟩ = some u) (i : Nat) (x : PartD) (hx : l[i]? = some x) :
    w.cell? ⟨g, o + i * 3, none⟩ = some (.int .i64 x.amp) ∧ w.cell? ⟨g, o + i * 3 + 1, none⟩ = some (.int .i64 x.per) ∧ w.cell? ⟨g, o + i * 3 + 2, none⟩ = some (.int .i64 x.pha) :=
  ⟨hc i x hx 0 _ rfl, hc i x hx 1 _ rfl, hc i x hx 2 _ rfl⟩
def zeroP : List Value := [.int .i64 0, .int .i64 0, .int .i64 0]
set_option maxHeartbeats 1000000 in
theorem toPartS_any (v : Value) (l : List PartD) (w : World) (h : SlP w v l) :
    Calls Tryz.prog 67 #[v] w (NewP l w) := by
  obtain ⟨hl, h⟩ := h
  have hmk := make_parts l.length hl
  rcases h with ⟨rfl, A, c, rfl⟩ | ⟨g, o, c, rfl, hp, hcap, hc⟩
  · have hmk0 : ∀ W : World, (Instr.makeSlice 39 (.int .i64 0) (.int .i64 0)).run Tryz.prog W = .ok (.slice (some ⟨W.heap.size, 0, none⟩) 0 0) (W.alloc (.cells (madeCells #[.int .i64 0, .int .i64 0, .int .i64 0] (0 * 3)) 135)) := make_parts 0 (by omega)
    clear hmk
    go_enter Tryz.func67, Tryz.ntmps67
    go_wp2
    refine wp_loop_rounds 1 ?_
    rw [rounds_succ]
    go_wp2
    go_ret
    have h := World.ownsRow_lit (base := w.heap.size) (e := 135) (size := 3) w (madeCells #[.int .i64 0, .int .i64 0, .int .i64 0] (0 * 3)) 0 (Nat.le_refl _) (by decide) (by rw [size_madeCells])
    rw [show (madeCells #[Value.int .i64 0, .int .i64 0, .int .i64 0] (0 * 3)).toList = [] by simp [madeCells]] at h
    exact ⟨_, rfl, h, (Below.refl _ _).alloc (Nat.le_refl _) _⟩
  · have HC := Lib.hid hc
    clear hc
    go_enter Tryz.func67, Tryz.ntmps67
    go_wp2
    clear hmk
    go_loopw [4] (fun i wr => ∃ k : Nat, k ≤ l.length ∧ i = .int .i64 k ∧ Hid (wr.ownsRow w.heap.size 135 3 (.slice (some ⟨w.heap.size, 0, none⟩) l.length l.length) l.length (halfOf PartD.cells zeroP l k)) ∧ Below w.heap.size w wr) (fun i _ => l.length - (intOf i).toNat)
    case atStart =>
      refine ⟨0, Nat.zero_le _, rfl, ?_, (Below.refl _ _).alloc (Nat.le_refl _) _⟩
      have h := World.ownsRow_lit (base := w.heap.size) (e := 135) (size := 3) w (madeCells #[.int .i64 0, .int .i64 0, .int .i64 0] (l.length * 3)) l.length (Nat.le_refl _) (by unfold maxLen; omega) (by rw [size_madeCells])
      have e := made_flat #[.int .i64 0, .int .i64 0, .int .i64 0] l.length
      rw [half_none]
      exact Lib.hid (e ▸ h)
    case round =>
      obtain ⟨k, hk, rfl, hown, hb⟩ := hrel
      by_cases hlt : k < l.length
      · obtain ⟨x, hx⟩ : ∃ x, l[k]? = some x := ⟨_, List.getElem?_eq_getElem hlt⟩
        obtain ⟨q0, q1, q2⟩ := SlP.cells HC.out k x hx
        have hlt2 : g < w.heap.size := World.block_lt_of_cell? w ⟨g, o + k * 3, none⟩ q0
        have c0 := (hb.cell (p := ⟨g, o + k * 3, none⟩) hlt2).trans q0
        have c1 := (hb.cell (p := ⟨g, o + k * 3 + 1, none⟩) hlt2).trans q1
        have c2 := (hb.cell (p := ⟨g, o + k * 3 + 2, none⟩) hlt2).trans q2
        have Hx := Lib.hid hx
        clear q0 q1 q2 hx
        go_wp2_with fail
        refine (toPart_any _ _ _ _).mono ?_
        rintro e w1 ⟨rfl, hb1⟩
        have own1 := ownsRow_below hown.out hb1
        have B1 : Below w.heap.size w w1 := hb.trans (hb1.mono hb.size)
        have s0 : w1.cell? ⟨w.heap.size, k * 3, none⟩ = some (.int .i64 0) := (World.ownsRow.cellAt own1 (k * 3) (by omega)).trans (half_at partLen l k hlt 0 _ rfl)
        have s1 : w1.cell? ⟨w.heap.size, k * 3 + 1, none⟩ = some (.int .i64 0) := (World.ownsRow.cellAt own1 (k * 3 + 1) (by omega)).trans (half_at partLen l k hlt 1 _ rfl)
        have s2 : w1.cell? ⟨w.heap.size, k * 3 + 2, none⟩ = some (.int .i64 0) := (World.ownsRow.cellAt own1 (k * 3 + 2) (by omega)).trans (half_at partLen l k hlt 2 _ rfl)
        have z0 : w1.frozen? ⟨w.heap.size, k * 3, none⟩ = false := World.ownsRow.frozenAt own1 _
        have z1 : w1.frozen? ⟨w.heap.size, k * 3 + 1, none⟩ = false := World.ownsRow.frozenAt own1 _
        have z2 : w1.frozen? ⟨w.heap.size, k * 3 + 2, none⟩ = false := World.ownsRow.frozenAt own1 _
        have hst := (World.ownsRow.stored (World.ownsRow.stored (World.ownsRow.stored own1 (k * 3) (.int .i64 x.amp)).1 (k * 3 + 1) (.int .i64 x.per)).1 (k * 3 + 2) (.int .i64 x.pha)).1
        have e := half_set partLen (zc := zeroP) rfl l k x Hx.out
        have HO := Lib.hid ((show (((halfOf PartD.cells zeroP l k).set (k * 3) (.int .i64 x.amp)).set (k * 3 + 1) (.int .i64 x.per)).set (k * 3 + 2) (.int .i64 x.pha) = halfOf PartD.cells zeroP l (k + 1) from e) ▸ hst)
        have HB := Lib.hid ((((B1.setCell (p := ⟨w.heap.size, k * 3, none⟩) (Nat.le_refl _) (.int .i64 x.amp)).setCell (p := ⟨w.heap.size, k * 3 + 1, none⟩) (Nat.le_refl _) (.int .i64 x.per)).setCell (p := ⟨w.heap.size, k * 3 + 2, none⟩) (Nat.le_refl _) (.int .i64 x.pha)))
        clear own1 hst e hb1 B1
        go_wp2
        go_roundw
        case rel => exact ⟨k + 1, by omega, by go_num, HO, HB.out⟩
        case measure => simp [intOf]; omega
      · go_wp2
        go_ret
        obtain rfl : k = l.length := by omega
        have ho := hown.out
        rw [half_full] at ho
        exact ⟨_, rfl, ho, hb⟩
theorem szPartS_any (A : Option Addr) (n c : Nat) (w : World) (hn : n ≤ 9223372036854775807) (lim : Int) (h0 : 0 ≤ lim) (h1 : lim ≤ 1048576) :
    Calls Tryz.prog 63 #[.slice A n c, .int .i64 lim] w fun e w' => e = .returned (.int .i64 (if lim < (n : Int) then -1 else lim - (n : Int))) ∧ w = w' := by
  by_cases hlt : lim < (n : Int)
  · go_enter Tryz.func63, Tryz.ntmps63
    go_wp2
    go_ret
    exact ⟨rfl, rfl⟩
  · go_enter Tryz.func63, Tryz.ntmps63
    go_wp2
    go_ret
    exact ⟨rfl, rfl⟩
set_option maxHeartbeats 1000000 in
theorem eqPartS_same (va vb : Value) (l : List PartD) (w : World) (ha : SlP w va l) (hb : SlP w vb l) :
    Calls Tryz.prog 76 #[va, vb] w fun e w' => e = .returned (.bool true) ∧ Below w.heap.size w w' := by
  obtain ⟨hl, ha⟩ := ha
  obtain ⟨_, hb⟩ := hb
  rcases ha with ⟨rfl, A, c, rfl⟩ | ⟨g, o, c, rfl, hp, _, hca⟩
  · rcases hb with ⟨_, A', c', rfl⟩ | ⟨g', o', c', rfl, hp, _, _⟩
    · go_enter Tryz.func76, Tryz.ntmps76
      go_wp2
      refine wp_loop_rounds 1 ?_
      rw [rounds_succ]
      go_wp2
      go_ret
      exact ⟨rfl, Below.refl _ _⟩
    · exact absurd hp (by simp)
  · rcases hb with ⟨rfl, A', c', rfl⟩ | ⟨g', o', c', rfl, _, _, hcb⟩
    · exact absurd hp (by simp)
    · have HA := Lib.hid hca
      have HB := Lib.hid hcb
      clear hca hcb
      go_enter Tryz.func76, Tryz.ntmps76
      go_wp2
      go_loopw [5] (fun i wr => ∃ k : Nat, k ≤ l.length ∧ i = .int .i64 k ∧ Below w.heap.size w wr) (fun i _ => l.length - (intOf i).toNat)
      case atStart => exact ⟨0, Nat.zero_le _, rfl, Below.refl _ _⟩
      case round =>
        obtain ⟨k, hk, rfl, hb⟩ := hrel
        by_cases hlt : k < l.length
        · obtain ⟨x, hx⟩ : ∃ x, l[k]? = some x := ⟨_, List.getElem?_eq_getElem hlt⟩
          obtain ⟨p0, p1, p2⟩ := SlP.cells HA.out k x hx
          obtain ⟨q0, q1, q2⟩ := SlP.cells HB.out k x hx
          have hg : g < w.heap.size := World.block_lt_of_cell? w ⟨g, o + k * 3, none⟩ p0
          have hg' : g' < w.heap.size := World.block_lt_of_cell? w ⟨g', o' + k * 3, none⟩ q0
          have a0 := (hb.cell (p := ⟨g, o + k * 3, none⟩) hg).trans p0
          have a1 := (hb.cell (p := ⟨g, o + k * 3 + 1, none⟩) hg).trans p1
          have a2 := (hb.cell (p := ⟨g, o + k * 3 + 2, none⟩) hg).trans p2
          have b0 := (hb.cell (p := ⟨g', o' + k * 3, none⟩) hg').trans q0
          have b1 := (hb.cell (p := ⟨g', o' + k * 3 + 1, none⟩) hg').trans q1
          have b2 := (hb.cell (p := ⟨g', o' + k * 3 + 2, none⟩) hg').trans q2
          have hbs := hb.size
          clear p0 p1 p2 q0 q1 q2 hx
          go_wp2
          go_still_tail 8, (by kernel_rfl)
          change wpList _ _ _ _ _ wr.drew
          have hd := hb.drew
          generalize wr.drew = w2 at hd ⊢
          have hds := hd.size
          clear a0 a1 a2 b0 b1 b2 hb hbs
          go_wp2_with fail
          refine (eqPart_same _ _ _ _).mono ?_
          rintro e w3 ⟨rfl, hb3⟩
          have B3 := Lib.hid (hd.trans (hb3.mono hds))
          clear hb3 hd hds
          go_wp2
          go_roundw
          case rel => exact ⟨k + 1, by omega, by go_num, B3.out⟩
          case measure => simp [intOf]; omega
        · go_wp2
          go_ret
          exact ⟨rfl, hb⟩
end Go.Proofs.YtpimcbhjkednpaaGreat
namespace Go.Proofs.YtpimcbhjkednpaaGreat
open Go.RowKit
set_option maxRecDepth 100000
def tideB (m : Int) (l : List PartD) : Bool := decide (-1000 ≤ m ∧ m ≤ 1000 ∧ l.length ≤ 4) && l.all partB
theorem tideB_true {m : Int} {l : List PartD} (h : tideB m l = true) : -1000 ≤ m ∧ m ≤ 1000 ∧ l.length ≤ 4 ∧ ∀ x ∈ l, partB x = true := by
  unfold tideB at h
  rw [Bool.and_eq_true, List.all_eq_true] at h
  have := of_decide_eq_true h.1
  exact ⟨this.1, this.2.1, this.2.2, h.2⟩
theorem tideB_mk {m : Int} {l : List PartD} (h : -1000 ≤ m ∧ m ≤ 1000 ∧ l.length ≤ 4 ∧ ∀ x ∈ l, partB x = true) : tideB m l = true := by
  unfold tideB
  rw [Bool.and_eq_true, List.all_eq_true]
  exact ⟨decide_eq_true ⟨h.1, h.2.1, h.2.2.1⟩, h.2.2.2⟩
theorem tideB_no {m : Int} {l : List PartD} (h : ¬ (-1000 ≤ m ∧ m ≤ 1000 ∧ l.length ≤ 4)) : tideB m l = false := by
  unfold tideB
  rw [decide_eq_false h]; rfl
theorem tideB_bad {m : Int} {l : List PartD} (x : PartD) (i : Nat) (hx : l[i]? = some x) (h : partB x = false) : tideB m l = false := by
  cases e : tideB m l with
  | false => rfl
  | true => rw [(tideB_true e).2.2.2 x (List.mem_of_getElem? hx)] at h; cases h
theorem bcell {W w1 : World} (hb : Below W.heap.size W w1) : (∀ b o, b < W.heap.size → w1.cell? ⟨b, o, none⟩ = W.cell? ⟨b, o, none⟩) ∧ (∀ b o, b < W.heap.size → w1.frozen? ⟨b, o, none⟩ = W.frozen? ⟨b, o, none⟩) :=
  ⟨fun b o h => hb.cell (p := ⟨b, o, none⟩) h, fun b o h => hb.frozen (p := ⟨b, o, none⟩) h⟩
theorem SlP.at {w : World} {v : Value} {l : List PartD} (h : SlP w v l) : ∃ A c, v = .slice A l.length c := SlOf.form h
theorem SlP.below {w w' : World} {v : Value} {l : List PartD} (h : SlP w v l) (hb : Below w.heap.size w w') : SlP w' v l := SlOf.below h hb
theorem OwnP.sl {w : World} {base : Nat} {v : Value} {l : List PartD} (h : OwnP w base v l) (hl : l.length ≤ 1000000000) : SlP w v l := own_sl partLen h hl
theorem set_under {w : World} {base : Nat} {v : Value} {l : List PartD} (h : OwnP w base v l) {a : Addr} (ha : a.block < base) (u : Value) : OwnP (w.setCell a u) base v l := by
  refine World.ownsRow.kept h (row := some a.block) ⟨rfl, rfl, rfl, by simp [World.setCell], fun i hi hne => Below.heap_setCell w _ u i (by rintro rfl; exact hne rfl)⟩ ?_
  cases hv : v.ownBlock with
  | none => exact .inl rfl
  | some g =>
    right
    intro e
    have := (World.ownsRow.lt h g hv).1
    have := Option.some.inj e
    omega
theorem szTide_any (m : Int) (A : Option Addr) (n c : Nat) (w : World) (hn : n ≤ 9223372036854775807) (lim : Int) (h0 : 0 ≤ lim) (h1 : lim ≤ 1048576) :
    Calls Tryz.prog 31 #[.agg #[.int .i64 m, .slice A n c], .int .i64 lim] w fun e w' => e = .returned (.int .i64 (if lim < (n : Int) then -1 else lim - (n : Int))) ∧ Below w.heap.size w w' := by
  have C := fun W => Lib.hid (szPartS_any A n c W hn lim h0 h1)
  by_cases hlt : lim < (n : Int)
  · rw [if_pos hlt] at C ⊢
    go_enter Tryz.func31, Tryz.ntmps31
    go_wp2_with fail
    refine (C _).out.mono ?_
    rintro e w1 ⟨rfl, rfl⟩
    go_wp2
    go_ret
    exact ⟨rfl, Joins.below_alloc1 _ _⟩
  · rw [if_neg hlt] at C ⊢
    go_enter Tryz.func31, Tryz.ntmps31
    go_wp2_with fail
    refine (C _).out.mono ?_
    rintro e w1 ⟨rfl, rfl⟩
    go_wp2
    go_ret
    exact ⟨rfl, Joins.below_alloc1 _ _⟩
theorem eqTide_same (m : Int) (va vb : Value) (l : List PartD) (w : World) (ha : SlP w va l) (hb : SlP w vb l) :
    Calls Tryz.prog 43 #[.agg #[.int .i64 m, va], .agg #[.int .i64 m, vb]] w fun e w' => e = .returned (.bool true) ∧ Below w.heap.size w w' := by
  have HA := Lib.hid ha
  have HB := Lib.hid hb
  obtain ⟨A, c, rfl⟩ := ha.at
  obtain ⟨A', c', rfl⟩ := hb.at
  clear ha hb
  go_enter Tryz.func43, Tryz.ntmps43
  go_wp2_with fail
  have hb0 := Joins.below_alloc2 w (.cells #[.int .i64 m, .slice A l.length c] 41) (.cells #[.int .i64 m, .slice A' l.length c'] 41)
  refine (eqPartS_same _ _ l _ (HA.out.below hb0) (HB.out.below hb0)).mono ?_
  rintro e w1 ⟨rfl, hb⟩
  go_wp2
  go_ret
  exact ⟨rfl, hb0.trans (hb.mono hb0.size)⟩
end Go.Proofs.YtpimcbhjkednpaaGreat
