
/- What ExactPassageOk and ExactArrivalOf and ExactPassagesOf and ExactIsChain rests on, part 19: contracts and mathematics. -/
import Derived.Test.YtooeikimoheecaaPa18
import Derived.Test.YtooeikimoheecaaPa7
import Derived.Test.YtooeikimoheecaaPa13
import Derived.Test.YtooeikimoheecaaPa15
import Derived.Test.YtooeikimoheecaaPa5
import Derived.Test.YtooeikimoheecaaPa1
import Derived.Test.YtooeikimoheecaaPa3
import Derived.StillTailTactics
import Derived.Deep.DeepCutAuto
namespace Go.Proofs.Ytooeikimoheecaa
open Go.RowKit
set_option maxRecDepth 100000
set_option maxHeartbeats 4000000 in
theorem specPassageOk (yd0 yd1 : Value) (d : ChartD) (yl : Value) (l : List ShipD) (p : PassageD) (w : World) (rd : RdChart w yd0 yd1 d) (rl : SlShip w yl l) (fd : ∀ x ∈ d.points, PointD.wf x) (fl : ∀ x ∈ l, ShipD.wf x) :
    Calls Try.prog 17 #[.agg #[yd0, yd1], yl, p.val] w (fun e w' => e = .returned (.bool (passB d l p)) ∧ Below w.heap.size w w') := by
  have Rd := Lib.hid rd
  obtain ⟨rd0, rd1⟩ := rd
  obtain ⟨Ad0, cd0, rfl⟩ := SlOf.form rd0
  obtain ⟨Ad1, cd1, rfl⟩ := SlOf.form rd1
  have Nd := Lib.hid fd
  clear fd
  clear rd0 rd1
  have Rl := Lib.hid rl
  obtain ⟨Al, cl, rfl⟩ := SlOf.form rl
  clear rl
  have Nl := Lib.hid fl
  clear fl
  obtain ⟨W0, hW0⟩ : ∃ W0, W0 = ((w.alloc (.cells #[.slice Ad0 d.points.length cd0, .slice Ad1 d.segs.length cd1] 32)).alloc (.cells #[.int .i64 p.ship, .int .i64 p.segment, .bool p.toward, .int .i64 p.start, .int .i64 p.stop] 67)) := ⟨_, rfl⟩
  have B := Lib.hid ((Joins.below_alloc1 w (.cells #[.slice Ad0 d.points.length cd0, .slice Ad1 d.segs.length cd1] 32)).trans ((Joins.below_alloc1 (w.alloc (.cells #[.slice Ad0 d.points.length cd0, .slice Ad1 d.segs.length cd1] 32)) (.cells #[.int .i64 p.ship, .int .i64 p.segment, .bool p.toward, .int .i64 p.start, .int .i64 p.stop] 67)).mono (by simp; try omega)))
  have Kd := Lib.hid ((Blk.new w #[.slice Ad0 d.points.length cd0, .slice Ad1 d.segs.length cd1] 32).below (Joins.below_alloc1 _ (.cells #[.int .i64 p.ship, .int .i64 p.segment, .bool p.toward, .int .i64 p.start, .int .i64 p.stop] 67)))
  have Kp := Lib.hid (Blk.new (w.alloc (.cells #[.slice Ad0 d.points.length cd0, .slice Ad1 d.segs.length cd1] 32)) #[.int .i64 p.ship, .int .i64 p.segment, .bool p.toward, .int .i64 p.start, .int .i64 p.stop] 67)
  rw [World.size_alloc] at Kp
  have HW0 := Lib.hid hW0
  rw [← hW0] at B Kd Kp
  clear hW0
  have hdl := Rd.out.2.1
  have hll := Rl.out.1
  obtain ⟨b1, hb1⟩ : ∃ b, chartB d = b := ⟨_, rfl⟩
  have Hb1 := Lib.hid hb1
  obtain ⟨b2, hb2⟩ : ∃ b, fleetB l = b := ⟨_, rfl⟩
  have Hb2 := Lib.hid hb2
  obtain ⟨b3, hb3⟩ : ∃ b, inB p.ship 0 ((l.length : Int) - 1) = b := ⟨_, rfl⟩
  have Hb3 := Lib.hid hb3
  obtain ⟨b4, hb4⟩ : ∃ b, inB p.segment 0 ((d.segs.length : Int) - 1) = b := ⟨_, rfl⟩
  have Hb4 := Lib.hid hb4
  obtain ⟨b5, hb5⟩ : ∃ b, inB p.start 0 2880 = b := ⟨_, rfl⟩
  have Hb5 := Lib.hid hb5
  have HP := Lib.hid (show passPre d l p = (b1 && b2 && b3 && b4 && b5) by unfold passPre; rw [hb1, hb2, hb3, hb4, hb5])
  clear hb1 hb2 hb3 hb4 hb5
  cases b1 with
  | false =>
    have E := Lib.hid (passB_bad (HP.out.trans (by simp)))
    clear HP
    go_enter Try.func17, Try.ntmps17
    have vd0 : W0.cell? ⟨w.heap.size, 0, none⟩ = some (.slice Ad0 d.points.length cd0) := Kd.out.cell 0
    have vd1 : W0.cell? ⟨w.heap.size, 1, none⟩ = some (.slice Ad1 d.segs.length cd1) := Kd.out.cell 1
    have vp0 : W0.cell? ⟨w.heap.size + 1, 0, none⟩ = some (.int .i64 p.ship) := Kp.out.cell 0
    have vp1 : W0.cell? ⟨w.heap.size + 1, 1, none⟩ = some (.int .i64 p.segment) := Kp.out.cell 1
    have vp2 : W0.cell? ⟨w.heap.size + 1, 2, none⟩ = some (.bool p.toward) := Kp.out.cell 2
    have vp3 : W0.cell? ⟨w.heap.size + 1, 3, none⟩ = some (.int .i64 p.start) := Kp.out.cell 3
    have vp4 : W0.cell? ⟨w.heap.size + 1, 4, none⟩ = some (.int .i64 p.stop) := Kp.out.cell 4
    go_wp2_with fail
    rw [← HW0.out]
    clear vd0 vd1 vp0 vp1 vp2 vp3 vp4
    refine (specChartOk _ _ d _ (Rd.out.below B.out) Nd.out).mono ?_
    rw [Hb1.out]
    rintro e w1 ⟨rfl, hb1⟩
    have B1 := Lib.hid (B.out.trans (hb1.mono B.out.size))
    have Kd_1 := Lib.hid (Kd.out.below hb1)
    have Kp_1 := Lib.hid (Kp.out.below hb1)
    clear hb1
    go_wp2
    go_ret
    exact ⟨ret_bool E.out.symm, B1.out⟩
  | true =>
  cases b2 with
  | false =>
    have E := Lib.hid (passB_bad (HP.out.trans (by simp)))
    clear HP
    go_enter Try.func17, Try.ntmps17
    have vd0 : W0.cell? ⟨w.heap.size, 0, none⟩ = some (.slice Ad0 d.points.length cd0) := Kd.out.cell 0
    have vd1 : W0.cell? ⟨w.heap.size, 1, none⟩ = some (.slice Ad1 d.segs.length cd1) := Kd.out.cell 1
    have vp0 : W0.cell? ⟨w.heap.size + 1, 0, none⟩ = some (.int .i64 p.ship) := Kp.out.cell 0
    have vp1 : W0.cell? ⟨w.heap.size + 1, 1, none⟩ = some (.int .i64 p.segment) := Kp.out.cell 1
    have vp2 : W0.cell? ⟨w.heap.size + 1, 2, none⟩ = some (.bool p.toward) := Kp.out.cell 2
    have vp3 : W0.cell? ⟨w.heap.size + 1, 3, none⟩ = some (.int .i64 p.start) := Kp.out.cell 3
    have vp4 : W0.cell? ⟨w.heap.size + 1, 4, none⟩ = some (.int .i64 p.stop) := Kp.out.cell 4
    go_wp2_with fail
    rw [← HW0.out]
    clear vd0 vd1 vp0 vp1 vp2 vp3 vp4
    refine (specChartOk _ _ d _ (Rd.out.below B.out) Nd.out).mono ?_
    rw [Hb1.out]
    rintro e w1 ⟨rfl, hb1⟩
    have B1 := Lib.hid (B.out.trans (hb1.mono B.out.size))
    have Kd_1 := Lib.hid (Kd.out.below hb1)
    have Kp_1 := Lib.hid (Kp.out.below hb1)
    clear hb1
    have vd0 : w1.cell? ⟨w.heap.size, 0, none⟩ = some (.slice Ad0 d.points.length cd0) := Kd_1.out.cell 0
    have vd1 : w1.cell? ⟨w.heap.size, 1, none⟩ = some (.slice Ad1 d.segs.length cd1) := Kd_1.out.cell 1
    have vp0 : w1.cell? ⟨w.heap.size + 1, 0, none⟩ = some (.int .i64 p.ship) := Kp_1.out.cell 0
    have vp1 : w1.cell? ⟨w.heap.size + 1, 1, none⟩ = some (.int .i64 p.segment) := Kp_1.out.cell 1
    have vp2 : w1.cell? ⟨w.heap.size + 1, 2, none⟩ = some (.bool p.toward) := Kp_1.out.cell 2
    have vp3 : w1.cell? ⟨w.heap.size + 1, 3, none⟩ = some (.int .i64 p.start) := Kp_1.out.cell 3
    have vp4 : w1.cell? ⟨w.heap.size + 1, 4, none⟩ = some (.int .i64 p.stop) := Kp_1.out.cell 4
    go_wp2_with fail
    clear vd0 vd1 vp0 vp1 vp2 vp3 vp4
    refine (specFleetOk _ l _ (Rl.out.below B1.out) Nl.out).mono ?_
    rw [Hb2.out]
    rintro e w2 ⟨rfl, hb2⟩
    have B2 := Lib.hid (B1.out.trans (hb2.mono B1.out.size))
    have Kd_2 := Lib.hid (Kd_1.out.below hb2)
    have Kp_2 := Lib.hid (Kp_1.out.below hb2)
    clear hb2
    go_wp2
    go_ret
    exact ⟨ret_bool E.out.symm, B2.out⟩
  | true =>
  cases b3 with
  | false =>
    have E := Lib.hid (passB_bad (HP.out.trans (by simp)))
    clear HP
    go_enter Try.func17, Try.ntmps17
    have vd0 : W0.cell? ⟨w.heap.size, 0, none⟩ = some (.slice Ad0 d.points.length cd0) := Kd.out.cell 0
    have vd1 : W0.cell? ⟨w.heap.size, 1, none⟩ = some (.slice Ad1 d.segs.length cd1) := Kd.out.cell 1
    have vp0 : W0.cell? ⟨w.heap.size + 1, 0, none⟩ = some (.int .i64 p.ship) := Kp.out.cell 0
    have vp1 : W0.cell? ⟨w.heap.size + 1, 1, none⟩ = some (.int .i64 p.segment) := Kp.out.cell 1
    have vp2 : W0.cell? ⟨w.heap.size + 1, 2, none⟩ = some (.bool p.toward) := Kp.out.cell 2
    have vp3 : W0.cell? ⟨w.heap.size + 1, 3, none⟩ = some (.int .i64 p.start) := Kp.out.cell 3
    have vp4 : W0.cell? ⟨w.heap.size + 1, 4, none⟩ = some (.int .i64 p.stop) := Kp.out.cell 4
    go_wp2_with fail
    rw [← HW0.out]
    clear vd0 vd1 vp0 vp1 vp2 vp3 vp4
    refine (specChartOk _ _ d _ (Rd.out.below B.out) Nd.out).mono ?_
    rw [Hb1.out]
    rintro e w1 ⟨rfl, hb1⟩
    have B1 := Lib.hid (B.out.trans (hb1.mono B.out.size))
    have Kd_1 := Lib.hid (Kd.out.below hb1)
    have Kp_1 := Lib.hid (Kp.out.below hb1)
    clear hb1
    have vd0 : w1.cell? ⟨w.heap.size, 0, none⟩ = some (.slice Ad0 d.points.length cd0) := Kd_1.out.cell 0
    have vd1 : w1.cell? ⟨w.heap.size, 1, none⟩ = some (.slice Ad1 d.segs.length cd1) := Kd_1.out.cell 1
    have vp0 : w1.cell? ⟨w.heap.size + 1, 0, none⟩ = some (.int .i64 p.ship) := Kp_1.out.cell 0
    have vp1 : w1.cell? ⟨w.heap.size + 1, 1, none⟩ = some (.int .i64 p.segment) := Kp_1.out.cell 1
    have vp2 : w1.cell? ⟨w.heap.size + 1, 2, none⟩ = some (.bool p.toward) := Kp_1.out.cell 2
    have vp3 : w1.cell? ⟨w.heap.size + 1, 3, none⟩ = some (.int .i64 p.start) := Kp_1.out.cell 3
    have vp4 : w1.cell? ⟨w.heap.size + 1, 4, none⟩ = some (.int .i64 p.stop) := Kp_1.out.cell 4
    go_wp2_with fail
    clear vd0 vd1 vp0 vp1 vp2 vp3 vp4
    refine (specFleetOk _ l _ (Rl.out.below B1.out) Nl.out).mono ?_
    rw [Hb2.out]
    rintro e w2 ⟨rfl, hb2⟩
    have B2 := Lib.hid (B1.out.trans (hb2.mono B1.out.size))
    have Kd_2 := Lib.hid (Kd_1.out.below hb2)
    have Kp_2 := Lib.hid (Kp_1.out.below hb2)
    clear hb2
    have vd0 : w2.cell? ⟨w.heap.size, 0, none⟩ = some (.slice Ad0 d.points.length cd0) := Kd_2.out.cell 0
    have vd1 : w2.cell? ⟨w.heap.size, 1, none⟩ = some (.slice Ad1 d.segs.length cd1) := Kd_2.out.cell 1
    have vp0 : w2.cell? ⟨w.heap.size + 1, 0, none⟩ = some (.int .i64 p.ship) := Kp_2.out.cell 0
    have vp1 : w2.cell? ⟨w.heap.size + 1, 1, none⟩ = some (.int .i64 p.segment) := Kp_2.out.cell 1
    have vp2 : w2.cell? ⟨w.heap.size + 1, 2, none⟩ = some (.bool p.toward) := Kp_2.out.cell 2
    have vp3 : w2.cell? ⟨w.heap.size + 1, 3, none⟩ = some (.int .i64 p.start) := Kp_2.out.cell 3
    have vp4 : w2.cell? ⟨w.heap.size + 1, 4, none⟩ = some (.int .i64 p.stop) := Kp_2.out.cell 4
    go_wp2_with fail
    clear vd0 vd1 vp0 vp1 vp2 vp3 vp4
    refine (l01In_any _ _ _ _).mono ?_
    rw [Hb3.out]
    rintro e wz ⟨rfl, rfl⟩
    go_wp2
    go_ret
    exact ⟨ret_bool E.out.symm, B2.out⟩
  | true =>
  cases b4 with
  | false =>
    have E := Lib.hid (passB_bad (HP.out.trans (by simp)))
    clear HP
    go_enter Try.func17, Try.ntmps17
    have vd0 : W0.cell? ⟨w.heap.size, 0, none⟩ = some (.slice Ad0 d.points.length cd0) := Kd.out.cell 0
    have vd1 : W0.cell? ⟨w.heap.size, 1, none⟩ = some (.slice Ad1 d.segs.length cd1) := Kd.out.cell 1
    have vp0 : W0.cell? ⟨w.heap.size + 1, 0, none⟩ = some (.int .i64 p.ship) := Kp.out.cell 0
    have vp1 : W0.cell? ⟨w.heap.size + 1, 1, none⟩ = some (.int .i64 p.segment) := Kp.out.cell 1
    have vp2 : W0.cell? ⟨w.heap.size + 1, 2, none⟩ = some (.bool p.toward) := Kp.out.cell 2
    have vp3 : W0.cell? ⟨w.heap.size + 1, 3, none⟩ = some (.int .i64 p.start) := Kp.out.cell 3
    have vp4 : W0.cell? ⟨w.heap.size + 1, 4, none⟩ = some (.int .i64 p.stop) := Kp.out.cell 4
    go_wp2_with fail
    rw [← HW0.out]
    clear vd0 vd1 vp0 vp1 vp2 vp3 vp4
    refine (specChartOk _ _ d _ (Rd.out.below B.out) Nd.out).mono ?_
    rw [Hb1.out]
    rintro e w1 ⟨rfl, hb1⟩
    have B1 := Lib.hid (B.out.trans (hb1.mono B.out.size))
    have Kd_1 := Lib.hid (Kd.out.below hb1)
    have Kp_1 := Lib.hid (Kp.out.below hb1)
    clear hb1
    have vd0 : w1.cell? ⟨w.heap.size, 0, none⟩ = some (.slice Ad0 d.points.length cd0) := Kd_1.out.cell 0
    have vd1 : w1.cell? ⟨w.heap.size, 1, none⟩ = some (.slice Ad1 d.segs.length cd1) := Kd_1.out.cell 1
    have vp0 : w1.cell? ⟨w.heap.size + 1, 0, none⟩ = some (.int .i64 p.ship) := Kp_1.out.cell 0
    have vp1 : w1.cell? ⟨w.heap.size + 1, 1, none⟩ = some (.int .i64 p.segment) := Kp_1.out.cell 1
    have vp2 : w1.cell? ⟨w.heap.size + 1, 2, none⟩ = some (.bool p.toward) := Kp_1.out.cell 2
    have vp3 : w1.cell? ⟨w.heap.size + 1, 3, none⟩ = some (.int .i64 p.start) := Kp_1.out.cell 3
    have vp4 : w1.cell? ⟨w.heap.size + 1, 4, none⟩ = some (.int .i64 p.stop) := Kp_1.out.cell 4
    go_wp2_with fail
    clear vd0 vd1 vp0 vp1 vp2 vp3 vp4
    refine (specFleetOk _ l _ (Rl.out.below B1.out) Nl.out).mono ?_
    rw [Hb2.out]
    rintro e w2 ⟨rfl, hb2⟩
    have B2 := Lib.hid (B1.out.trans (hb2.mono B1.out.size))
    have Kd_2 := Lib.hid (Kd_1.out.below hb2)
    have Kp_2 := Lib.hid (Kp_1.out.below hb2)
    clear hb2
    have vd0 : w2.cell? ⟨w.heap.size, 0, none⟩ = some (.slice Ad0 d.points.length cd0) := Kd_2.out.cell 0
    have vd1 : w2.cell? ⟨w.heap.size, 1, none⟩ = some (.slice Ad1 d.segs.length cd1) := Kd_2.out.cell 1
    have vp0 : w2.cell? ⟨w.heap.size + 1, 0, none⟩ = some (.int .i64 p.ship) := Kp_2.out.cell 0
    have vp1 : w2.cell? ⟨w.heap.size + 1, 1, none⟩ = some (.int .i64 p.segment) := Kp_2.out.cell 1
    have vp2 : w2.cell? ⟨w.heap.size + 1, 2, none⟩ = some (.bool p.toward) := Kp_2.out.cell 2
    have vp3 : w2.cell? ⟨w.heap.size + 1, 3, none⟩ = some (.int .i64 p.start) := Kp_2.out.cell 3
    have vp4 : w2.cell? ⟨w.heap.size + 1, 4, none⟩ = some (.int .i64 p.stop) := Kp_2.out.cell 4
    go_wp2_with fail
    clear vd0 vd1 vp0 vp1 vp2 vp3 vp4
    refine (l01In_any _ _ _ _).mono ?_
    rw [Hb3.out]
    rintro e wz ⟨rfl, rfl⟩
    have vd0 : w2.cell? ⟨w.heap.size, 0, none⟩ = some (.slice Ad0 d.points.length cd0) := Kd_2.out.cell 0
    have vd1 : w2.cell? ⟨w.heap.size, 1, none⟩ = some (.slice Ad1 d.segs.length cd1) := Kd_2.out.cell 1
    have vp0 : w2.cell? ⟨w.heap.size + 1, 0, none⟩ = some (.int .i64 p.ship) := Kp_2.out.cell 0
    have vp1 : w2.cell? ⟨w.heap.size + 1, 1, none⟩ = some (.int .i64 p.segment) := Kp_2.out.cell 1
    have vp2 : w2.cell? ⟨w.heap.size + 1, 2, none⟩ = some (.bool p.toward) := Kp_2.out.cell 2
    have vp3 : w2.cell? ⟨w.heap.size + 1, 3, none⟩ = some (.int .i64 p.start) := Kp_2.out.cell 3
    have vp4 : w2.cell? ⟨w.heap.size + 1, 4, none⟩ = some (.int .i64 p.stop) := Kp_2.out.cell 4
    go_wp2_with fail
    clear vd0 vd1 vp0 vp1 vp2 vp3 vp4
    refine (l01In_any _ _ _ _).mono ?_
    rw [Hb4.out]
    rintro e wz ⟨rfl, rfl⟩
    go_wp2
    go_ret
    exact ⟨ret_bool E.out.symm, B2.out⟩
  | true =>
  cases b5 with
  | false =>
    have E := Lib.hid (passB_bad (HP.out.trans (by simp)))
    clear HP
    go_enter Try.func17, Try.ntmps17
    have vd0 : W0.cell? ⟨w.heap.size, 0, none⟩ = some (.slice Ad0 d.points.length cd0) := Kd.out.cell 0
    have vd1 : W0.cell? ⟨w.heap.size, 1, none⟩ = some (.slice Ad1 d.segs.length cd1) := Kd.out.cell 1
    have vp0 : W0.cell? ⟨w.heap.size + 1, 0, none⟩ = some (.int .i64 p.ship) := Kp.out.cell 0
    have vp1 : W0.cell? ⟨w.heap.size + 1, 1, none⟩ = some (.int .i64 p.segment) := Kp.out.cell 1
    have vp2 : W0.cell? ⟨w.heap.size + 1, 2, none⟩ = some (.bool p.toward) := Kp.out.cell 2
    have vp3 : W0.cell? ⟨w.heap.size + 1, 3, none⟩ = some (.int .i64 p.start) := Kp.out.cell 3
    have vp4 : W0.cell? ⟨w.heap.size + 1, 4, none⟩ = some (.int .i64 p.stop) := Kp.out.cell 4
    go_wp2_with fail
    rw [← HW0.out]
    clear vd0 vd1 vp0 vp1 vp2 vp3 vp4
    refine (specChartOk _ _ d _ (Rd.out.below B.out) Nd.out).mono ?_
    rw [Hb1.out]
    rintro e w1 ⟨rfl, hb1⟩
    have B1 := Lib.hid (B.out.trans (hb1.mono B.out.size))
    have Kd_1 := Lib.hid (Kd.out.below hb1)
    have Kp_1 := Lib.hid (Kp.out.below hb1)
    clear hb1
    have vd0 : w1.cell? ⟨w.heap.size, 0, none⟩ = some (.slice Ad0 d.points.length cd0) := Kd_1.out.cell 0
    have vd1 : w1.cell? ⟨w.heap.size, 1, none⟩ = some (.slice Ad1 d.segs.length cd1) := Kd_1.out.cell 1
    have vp0 : w1.cell? ⟨w.heap.size + 1, 0, none⟩ = some (.int .i64 p.ship) := Kp_1.out.cell 0
    have vp1 : w1.cell? ⟨w.heap.size + 1, 1, none⟩ = some (.int .i64 p.segment) := Kp_1.out.cell 1
    have vp2 : w1.cell? ⟨w.heap.size + 1, 2, none⟩ = some (.bool p.toward) := Kp_1.out.cell 2
    have vp3 : w1.cell? ⟨w.heap.size + 1, 3, none⟩ = some (.int .i64 p.start) := Kp_1.out.cell 3
    have vp4 : w1.cell? ⟨w.heap.size + 1, 4, none⟩ = some (.int .i64 p.stop) := Kp_1.out.cell 4
    go_wp2_with fail
    clear vd0 vd1 vp0 vp1 vp2 vp3 vp4
    refine (specFleetOk _ l _ (Rl.out.below B1.out) Nl.out).mono ?_
    rw [Hb2.out]
    rintro e w2 ⟨rfl, hb2⟩
    have B2 := Lib.hid (B1.out.trans (hb2.mono B1.out.size))
    have Kd_2 := Lib.hid (Kd_1.out.below hb2)
    have Kp_2 := Lib.hid (Kp_1.out.below hb2)
    clear hb2
    have vd0 : w2.cell? ⟨w.heap.size, 0, none⟩ = some (.slice Ad0 d.points.length cd0) := Kd_2.out.cell 0
    have vd1 : w2.cell? ⟨w.heap.size, 1, none⟩ = some (.slice Ad1 d.segs.length cd1) := Kd_2.out.cell 1
    have vp0 : w2.cell? ⟨w.heap.size + 1, 0, none⟩ = some (.int .i64 p.ship) := Kp_2.out.cell 0
    have vp1 : w2.cell? ⟨w.heap.size + 1, 1, none⟩ = some (.int .i64 p.segment) := Kp_2.out.cell 1
    have vp2 : w2.cell? ⟨w.heap.size + 1, 2, none⟩ = some (.bool p.toward) := Kp_2.out.cell 2
    have vp3 : w2.cell? ⟨w.heap.size + 1, 3, none⟩ = some (.int .i64 p.start) := Kp_2.out.cell 3
    have vp4 : w2.cell? ⟨w.heap.size + 1, 4, none⟩ = some (.int .i64 p.stop) := Kp_2.out.cell 4
    go_wp2_with fail
    clear vd0 vd1 vp0 vp1 vp2 vp3 vp4
    refine (l01In_any _ _ _ _).mono ?_
    rw [Hb3.out]
    rintro e wz ⟨rfl, rfl⟩
    have vd0 : w2.cell? ⟨w.heap.size, 0, none⟩ = some (.slice Ad0 d.points.length cd0) := Kd_2.out.cell 0
    have vd1 : w2.cell? ⟨w.heap.size, 1, none⟩ = some (.slice Ad1 d.segs.length cd1) := Kd_2.out.cell 1
    have vp0 : w2.cell? ⟨w.heap.size + 1, 0, none⟩ = some (.int .i64 p.ship) := Kp_2.out.cell 0
    have vp1 : w2.cell? ⟨w.heap.size + 1, 1, none⟩ = some (.int .i64 p.segment) := Kp_2.out.cell 1
    have vp2 : w2.cell? ⟨w.heap.size + 1, 2, none⟩ = some (.bool p.toward) := Kp_2.out.cell 2
    have vp3 : w2.cell? ⟨w.heap.size + 1, 3, none⟩ = some (.int .i64 p.start) := Kp_2.out.cell 3
    have vp4 : w2.cell? ⟨w.heap.size + 1, 4, none⟩ = some (.int .i64 p.stop) := Kp_2.out.cell 4
    go_wp2_with fail
    clear vd0 vd1 vp0 vp1 vp2 vp3 vp4
    refine (l01In_any _ _ _ _).mono ?_
    rw [Hb4.out]
    rintro e wz ⟨rfl, rfl⟩
    have vd0 : w2.cell? ⟨w.heap.size, 0, none⟩ = some (.slice Ad0 d.points.length cd0) := Kd_2.out.cell 0
    have vd1 : w2.cell? ⟨w.heap.size, 1, none⟩ = some (.slice Ad1 d.segs.length cd1) := Kd_2.out.cell 1
    have vp0 : w2.cell? ⟨w.heap.size + 1, 0, none⟩ = some (.int .i64 p.ship) := Kp_2.out.cell 0
    have vp1 : w2.cell? ⟨w.heap.size + 1, 1, none⟩ = some (.int .i64 p.segment) := Kp_2.out.cell 1
    have vp2 : w2.cell? ⟨w.heap.size + 1, 2, none⟩ = some (.bool p.toward) := Kp_2.out.cell 2
    have vp3 : w2.cell? ⟨w.heap.size + 1, 3, none⟩ = some (.int .i64 p.start) := Kp_2.out.cell 3
    have vp4 : w2.cell? ⟨w.heap.size + 1, 4, none⟩ = some (.int .i64 p.stop) := Kp_2.out.cell 4
    go_wp2_with fail
    clear vd0 vd1 vp0 vp1 vp2 vp3 vp4
    refine (l01In_any _ _ _ _).mono ?_
    rw [Hb5.out]
    rintro e wz ⟨rfl, rfl⟩
    go_wp2
    go_ret
    exact ⟨ret_bool E.out.symm, B2.out⟩
  | true =>
  obtain ⟨s, hs, hx, i0, il⟩ := shipAt_in Hb3.out
  have E0 := Lib.hid (passB_ok (HP.out.trans (by simp)) hs)
  have hsk := (fleetB_ship Hb2.out hx).1
  have HX := Lib.hid (List.mem_of_getElem? hx)
  have hsl : sailB d p.segment s = true := by unfold sailB; rw [Hb1.out, hsk, Hb4.out]; rfl
  obtain ⟨m0, m1⟩ := minOn_bnd hsl
  obtain ⟨mn, hmn⟩ : ∃ mn, minOn d p.segment s = mn := ⟨_, rfl⟩
  have HMN := Lib.hid hmn
  rw [hmn] at m0 m1 E0
  have hb5 := of_decide_eq_true (show decide (0 ≤ p.start ∧ p.start ≤ 2880) = true from Hb5.out)
  obtain ⟨t0, t1⟩ := hb5
  have wst : IntKind.i64.wrap (p.start + mn) = p.start + mn := by rw [IntKind.wrap_i64]; omega
  obtain ⟨k, hk⟩ : ∃ k : Nat, p.ship = (k : Int) := ⟨p.ship.toNat, by omega⟩
  rw [hk] at hx il
  simp only [Int.toNat_natCast] at hx il
  rw [hk] at Kp
  have HK := Lib.hid hk
  clear HP hs hsk hsl hmn hk i0
  rcases Rl.out.2 with ⟨he, _⟩ | ⟨g, o, c, e, hpos, hcap, hc⟩
  · rw [he] at il; simp at il
  injection e with hA _ hcp
  subst hA hcp
  obtain ⟨q0, q1, q2, q3, q4, q5⟩ := SlShip.cells hc k s hx
  have Y0 := Lib.hid q0
  have Y1 := Lib.hid q1
  have Y2 := Lib.hid q2
  have Y3 := Lib.hid q3
  have Y4 := Lib.hid q4
  have Y5 := Lib.hid q5
  clear q0 q1 q2 q3 q4 q5 hc hx
  go_enter Try.func17, Try.ntmps17
  have vd0 : W0.cell? ⟨w.heap.size, 0, none⟩ = some (.slice Ad0 d.points.length cd0) := Kd.out.cell 0
  have vd1 : W0.cell? ⟨w.heap.size, 1, none⟩ = some (.slice Ad1 d.segs.length cd1) := Kd.out.cell 1
  have vp0 : W0.cell? ⟨w.heap.size + 1, 0, none⟩ = some (.int .i64 (k : Int)) := Kp.out.cell 0
  have vp1 : W0.cell? ⟨w.heap.size + 1, 1, none⟩ = some (.int .i64 p.segment) := Kp.out.cell 1
  have vp2 : W0.cell? ⟨w.heap.size + 1, 2, none⟩ = some (.bool p.toward) := Kp.out.cell 2
  have vp3 : W0.cell? ⟨w.heap.size + 1, 3, none⟩ = some (.int .i64 p.start) := Kp.out.cell 3
  have vp4 : W0.cell? ⟨w.heap.size + 1, 4, none⟩ = some (.int .i64 p.stop) := Kp.out.cell 4
  go_wp2_with fail
  rw [← HW0.out]
  clear vd0 vd1 vp0 vp1 vp2 vp3 vp4
  refine (specChartOk _ _ d _ (Rd.out.below B.out) Nd.out).mono ?_
  rw [Hb1.out]
  rintro e w1 ⟨rfl, hb1⟩
  have B1 := Lib.hid (B.out.trans (hb1.mono B.out.size))
  have Kd_1 := Lib.hid (Kd.out.below hb1)
  have Kp_1 := Lib.hid (Kp.out.below hb1)
  clear hb1
  have vd0 : w1.cell? ⟨w.heap.size, 0, none⟩ = some (.slice Ad0 d.points.length cd0) := Kd_1.out.cell 0
  have vd1 : w1.cell? ⟨w.heap.size, 1, none⟩ = some (.slice Ad1 d.segs.length cd1) := Kd_1.out.cell 1
  have vp0 : w1.cell? ⟨w.heap.size + 1, 0, none⟩ = some (.int .i64 (k : Int)) := Kp_1.out.cell 0
  have vp1 : w1.cell? ⟨w.heap.size + 1, 1, none⟩ = some (.int .i64 p.segment) := Kp_1.out.cell 1
  have vp2 : w1.cell? ⟨w.heap.size + 1, 2, none⟩ = some (.bool p.toward) := Kp_1.out.cell 2
  have vp3 : w1.cell? ⟨w.heap.size + 1, 3, none⟩ = some (.int .i64 p.start) := Kp_1.out.cell 3
  have vp4 : w1.cell? ⟨w.heap.size + 1, 4, none⟩ = some (.int .i64 p.stop) := Kp_1.out.cell 4
  go_wp2_with fail
  clear vd0 vd1 vp0 vp1 vp2 vp3 vp4
  refine (specFleetOk _ l _ (Rl.out.below B1.out) Nl.out).mono ?_
  rw [Hb2.out]
  rintro e w2 ⟨rfl, hb2⟩
  have B2 := Lib.hid (B1.out.trans (hb2.mono B1.out.size))
  have Kd_2 := Lib.hid (Kd_1.out.below hb2)
  have Kp_2 := Lib.hid (Kp_1.out.below hb2)
  clear hb2
  have vd0 : w2.cell? ⟨w.heap.size, 0, none⟩ = some (.slice Ad0 d.points.length cd0) := Kd_2.out.cell 0
  have vd1 : w2.cell? ⟨w.heap.size, 1, none⟩ = some (.slice Ad1 d.segs.length cd1) := Kd_2.out.cell 1
  have vp0 : w2.cell? ⟨w.heap.size + 1, 0, none⟩ = some (.int .i64 (k : Int)) := Kp_2.out.cell 0
  have vp1 : w2.cell? ⟨w.heap.size + 1, 1, none⟩ = some (.int .i64 p.segment) := Kp_2.out.cell 1
  have vp2 : w2.cell? ⟨w.heap.size + 1, 2, none⟩ = some (.bool p.toward) := Kp_2.out.cell 2
  have vp3 : w2.cell? ⟨w.heap.size + 1, 3, none⟩ = some (.int .i64 p.start) := Kp_2.out.cell 3
  have vp4 : w2.cell? ⟨w.heap.size + 1, 4, none⟩ = some (.int .i64 p.stop) := Kp_2.out.cell 4
  go_wp2_with fail
  clear vd0 vd1 vp0 vp1 vp2 vp3 vp4
  refine (l01In_any _ _ _ _).mono ?_
  rw [← HK.out, Hb3.out]
  rintro e wz ⟨rfl, rfl⟩
  have vd0 : w2.cell? ⟨w.heap.size, 0, none⟩ = some (.slice Ad0 d.points.length cd0) := Kd_2.out.cell 0
  have vd1 : w2.cell? ⟨w.heap.size, 1, none⟩ = some (.slice Ad1 d.segs.length cd1) := Kd_2.out.cell 1
  have vp0 : w2.cell? ⟨w.heap.size + 1, 0, none⟩ = some (.int .i64 (k : Int)) := Kp_2.out.cell 0
  have vp1 : w2.cell? ⟨w.heap.size + 1, 1, none⟩ = some (.int .i64 p.segment) := Kp_2.out.cell 1
  have vp2 : w2.cell? ⟨w.heap.size + 1, 2, none⟩ = some (.bool p.toward) := Kp_2.out.cell 2
  have vp3 : w2.cell? ⟨w.heap.size + 1, 3, none⟩ = some (.int .i64 p.start) := Kp_2.out.cell 3
  have vp4 : w2.cell? ⟨w.heap.size + 1, 4, none⟩ = some (.int .i64 p.stop) := Kp_2.out.cell 4
  go_wp2_with fail
  clear vd0 vd1 vp0 vp1 vp2 vp3 vp4
  refine (l01In_any _ _ _ _).mono ?_
  rw [Hb4.out]
  rintro e wz ⟨rfl, rfl⟩
  have vd0 : w2.cell? ⟨w.heap.size, 0, none⟩ = some (.slice Ad0 d.points.length cd0) := Kd_2.out.cell 0
  have vd1 : w2.cell? ⟨w.heap.size, 1, none⟩ = some (.slice Ad1 d.segs.length cd1) := Kd_2.out.cell 1
  have vp0 : w2.cell? ⟨w.heap.size + 1, 0, none⟩ = some (.int .i64 (k : Int)) := Kp_2.out.cell 0
  have vp1 : w2.cell? ⟨w.heap.size + 1, 1, none⟩ = some (.int .i64 p.segment) := Kp_2.out.cell 1
  have vp2 : w2.cell? ⟨w.heap.size + 1, 2, none⟩ = some (.bool p.toward) := Kp_2.out.cell 2
  have vp3 : w2.cell? ⟨w.heap.size + 1, 3, none⟩ = some (.int .i64 p.start) := Kp_2.out.cell 3
  have vp4 : w2.cell? ⟨w.heap.size + 1, 4, none⟩ = some (.int .i64 p.stop) := Kp_2.out.cell 4
  go_wp2_with fail
  clear vd0 vd1 vp0 vp1 vp2 vp3 vp4
  refine (l01In_any _ _ _ _).mono ?_
  rw [Hb5.out]
  rintro e wz ⟨rfl, rfl⟩
  have FY0 := Lib.hid (show w2.cell? ⟨g, o + k * 6, none⟩ = some (.string s.name) from cell_onV Y0.out B2.out)
  have FY1 := Lib.hid (show w2.cell? ⟨g, o + k * 6 + 1, none⟩ = some (.int .i64 s.length) from cell_onV Y1.out B2.out)
  have FY2 := Lib.hid (show w2.cell? ⟨g, o + k * 6 + 2, none⟩ = some (.int .i64 s.draught) from cell_onV Y2.out B2.out)
  have FY3 := Lib.hid (show w2.cell? ⟨g, o + k * 6 + 3, none⟩ = some (.int .i64 s.line) from cell_onV Y3.out B2.out)
  have FY4 := Lib.hid (show w2.cell? ⟨g, o + k * 6 + 4, none⟩ = some (.int .i64 s.tugs) from cell_onV Y4.out B2.out)
  have FY5 := Lib.hid (show w2.cell? ⟨g, o + k * 6 + 5, none⟩ = some (.bool s.slow) from cell_onV Y5.out B2.out)
  obtain ⟨qb, hq⟩ : ∃ b, (p.stop == p.start + mn) = b := ⟨_, rfl⟩
  rw [hq] at E0
  have E := Lib.hid E0
  clear E0
  cases qb with
  | false =>
    have Fd0 := Lib.hid (show w2.cell? ⟨w.heap.size, 0, none⟩ = some (.slice Ad0 d.points.length cd0) from Kd_2.out.cell 0)
    have Fd1 := Lib.hid (show w2.cell? ⟨w.heap.size, 1, none⟩ = some (.slice Ad1 d.segs.length cd1) from Kd_2.out.cell 1)
    have Fp0 := Lib.hid (show w2.cell? ⟨w.heap.size + 1, 0, none⟩ = some (.int .i64 (k : Int)) from Kp_2.out.cell 0)
    have Fp1 := Lib.hid (show w2.cell? ⟨w.heap.size + 1, 1, none⟩ = some (.int .i64 p.segment) from Kp_2.out.cell 1)
    have Fp2 := Lib.hid (show w2.cell? ⟨w.heap.size + 1, 2, none⟩ = some (.bool p.toward) from Kp_2.out.cell 2)
    have Fp3 := Lib.hid (show w2.cell? ⟨w.heap.size + 1, 3, none⟩ = some (.int .i64 p.start) from Kp_2.out.cell 3)
    have Fp4 := Lib.hid (show w2.cell? ⟨w.heap.size + 1, 4, none⟩ = some (.int .i64 p.stop) from Kp_2.out.cell 4)
    have DD := Lib.hid ((Below.refl w2.heap.size w2).drew)
    have vFd0 := Fd0.out
    have vFd1 := Fd1.out
    have vFp0 := Fp0.out
    have vFp1 := Fp1.out
    have vFp2 := Fp2.out
    have vFp3 := Fp3.out
    have vFp4 := Fp4.out
    have vFY0 := FY0.out
    have vFY1 := FY1.out
    have vFY2 := FY2.out
    have vFY3 := FY3.out
    have vFY4 := FY4.out
    have vFY5 := FY5.out
    go_upto_region 3 with fail
    refine wp_region_held_drew (S := (fun w' => w'.cell? ⟨w.heap.size, 0, none⟩ = some (.slice Ad0 d.points.length cd0) ∧ w'.cell? ⟨w.heap.size, 1, none⟩ = some (.slice Ad1 d.segs.length cd1) ∧ w'.cell? ⟨w.heap.size + 1, 0, none⟩ = some (.int .i64 (k : Int)) ∧ w'.cell? ⟨w.heap.size + 1, 1, none⟩ = some (.int .i64 p.segment) ∧ w'.cell? ⟨w.heap.size + 1, 2, none⟩ = some (.bool p.toward) ∧ w'.cell? ⟨w.heap.size + 1, 3, none⟩ = some (.int .i64 p.start) ∧ w'.cell? ⟨w.heap.size + 1, 4, none⟩ = some (.int .i64 p.stop) ∧ w'.cell? ⟨g, o + k * 6, none⟩ = some (.string s.name) ∧ w'.cell? ⟨g, o + k * 6 + 1, none⟩ = some (.int .i64 s.length) ∧ w'.cell? ⟨g, o + k * 6 + 2, none⟩ = some (.int .i64 s.draught) ∧ w'.cell? ⟨g, o + k * 6 + 3, none⟩ = some (.int .i64 s.line) ∧ w'.cell? ⟨g, o + k * 6 + 4, none⟩ = some (.int .i64 s.tugs) ∧ w'.cell? ⟨g, o + k * 6 + 5, none⟩ = some (.bool s.slow) ∧ Hid (Below w2.heap.size w2 w'))) (by kernel_rfl) ?_ (fun hHeld => ?_)
    · (try dsimp only); go_keep
    refine wpAnyH_take (i := 0) (v := ?_) (by simp only [List.getElem?_toArray, List.getElem?_cons_zero]; rfl) (by kernel_rfl) (by kernel_rfl) (by kernel_rfl) (by exact fun _ _ _ h => h) (Or.inl ⟨by rfl, ?_⟩) (by assumption) ?_; rotate_left; focus (intro w hSw; (try dsimp only at hSw); first | (go_simp; done) | (go_simp; with_reducible rfl))
    try simp only [Act.put, List.setIfInBounds_toArray, List.set_cons_zero, List.set_cons_succ]
    refine wpAnyH_take (i := 1) (v := ?_) (by simp only [List.getElem?_toArray, List.getElem?_cons_succ, List.getElem?_cons_zero]; rfl) (by kernel_rfl) (by kernel_rfl) (by kernel_rfl) (by exact fun _ _ _ h => h) (Or.inl ⟨by rfl, ?_⟩) (by assumption) ?_; rotate_left; focus (intro w hSw; (try dsimp only at hSw); first | (go_simp; done) | (go_simp; with_reducible rfl))
    try simp only [Act.put, List.setIfInBounds_toArray, List.set_cons_zero, List.set_cons_succ]
    refine wpAnyH_take (i := 2) (v := ?_) (by simp only [List.getElem?_toArray, List.getElem?_cons_succ, List.getElem?_cons_zero]; rfl) (by kernel_rfl) (by kernel_rfl) (by kernel_rfl) (by exact fun _ _ _ h => h) (Or.inl ⟨by rfl, ?_⟩) (by assumption) ?_; rotate_left; focus (intro w hSw; (try dsimp only at hSw); first | (go_simp; done) | (go_simp; with_reducible rfl))
    try simp only [Act.put, List.setIfInBounds_toArray, List.set_cons_zero, List.set_cons_succ]
    refine wpAnyH_take (i := 3) (v := ?_) (by simp only [List.getElem?_toArray, List.getElem?_cons_succ, List.getElem?_cons_zero]; rfl) (by kernel_rfl) (by kernel_rfl) (by kernel_rfl) (by exact fun _ _ _ h => h) (Or.inl ⟨by rfl, ?_⟩) (by assumption) ?_; rotate_left; focus (intro w hSw; (try dsimp only at hSw); first | (go_simp; done) | (go_simp; with_reducible rfl))
    try simp only [Act.put, List.setIfInBounds_toArray, List.set_cons_zero, List.set_cons_succ]
    refine wpAnyH_take (i := 4) (v := ?_) (by simp only [List.getElem?_toArray, List.getElem?_cons_succ, List.getElem?_cons_zero]; rfl) (by kernel_rfl) (by kernel_rfl) (by kernel_rfl) (by exact fun _ _ _ h => h) (Or.inl ⟨by rfl, ?_⟩) (by assumption) ?_; rotate_left; focus (intro w hSw; (try dsimp only at hSw); first | (go_simp; done) | (go_simp; with_reducible rfl))
    try simp only [Act.put, List.setIfInBounds_toArray, List.set_cons_zero, List.set_cons_succ]
    refine wpAnyH_take (i := 5) (v := ?_) (by simp only [List.getElem?_toArray, List.getElem?_cons_succ, List.getElem?_cons_zero]; rfl) (by kernel_rfl) (by kernel_rfl) (by kernel_rfl) (by exact fun _ _ _ h => h) (Or.inl ⟨by rfl, ?_⟩) (by assumption) ?_; rotate_left; focus (intro w hSw; (try dsimp only at hSw); first | (go_simp; done) | (go_simp; with_reducible rfl))
    try simp only [Act.put, List.setIfInBounds_toArray, List.set_cons_zero, List.set_cons_succ]
    refine wpAnyH_take (i := 6) (v := ?_) (by simp only [List.getElem?_toArray, List.getElem?_cons_succ, List.getElem?_cons_zero]; rfl) (by kernel_rfl) (by kernel_rfl) (by kernel_rfl) (by exact fun _ _ _ h => h) (Or.inl ⟨by rfl, ?_⟩) (by assumption) ?_; rotate_left; focus (intro w hSw; (try dsimp only at hSw); first | (go_simp; done) | (go_simp; with_reducible rfl))
    try simp only [Act.put, List.setIfInBounds_toArray, List.set_cons_zero, List.set_cons_succ]
    refine wpAnyH_take (i := 7) (v := ?_) (by simp only [List.getElem?_toArray, List.getElem?_cons_succ, List.getElem?_cons_zero]; rfl) (by kernel_rfl) (by kernel_rfl) (by kernel_rfl) (by exact fun _ _ _ h => h) (Or.inl ⟨by rfl, ?_⟩) (by assumption) ?_; rotate_left; focus (intro w hSw; (try dsimp only at hSw); first | (go_simp; done) | (go_simp; with_reducible rfl))
    try simp only [Act.put, List.setIfInBounds_toArray, List.set_cons_zero, List.set_cons_succ]
    refine wpAnyH_take (i := 8) (v := ?_) (by simp only [List.getElem?_toArray, List.getElem?_cons_succ, List.getElem?_cons_zero]; rfl) (by kernel_rfl) (by kernel_rfl) (by kernel_rfl) (by exact fun _ _ _ h => h) (Or.inl ⟨by rfl, ?_⟩) (by assumption) ?_; rotate_left; focus (intro w hSw; (try dsimp only at hSw); first | (go_simp; done) | (go_simp; with_reducible rfl))
    try simp only [Act.put, List.setIfInBounds_toArray, List.set_cons_zero, List.set_cons_succ]
    refine wpAnyH_take (i := 9) (v := ?_) (by simp only [List.getElem?_toArray, List.getElem?_cons_succ, List.getElem?_cons_zero]; rfl) (by kernel_rfl) (by kernel_rfl) (by kernel_rfl) (by exact fun _ _ _ h => h) (Or.inl ⟨by rfl, ?_⟩) (by assumption) ?_; rotate_left; focus (intro w hSw; (try dsimp only at hSw); first | (go_simp; done) | (go_simp; with_reducible rfl))
    try simp only [Act.put, List.setIfInBounds_toArray, List.set_cons_zero, List.set_cons_succ]
    refine wpAnyH_take (i := 10) (v := ?_) (by simp only [List.getElem?_toArray, List.getElem?_cons_succ, List.getElem?_cons_zero]; rfl) (by kernel_rfl) (by kernel_rfl) (by kernel_rfl) (by exact fun _ _ _ h => h) (Or.inl ⟨by rfl, ?_⟩) (by assumption) ?_; rotate_left; focus (intro w hSw; (try dsimp only at hSw); first | (go_simp; done) | (go_simp; with_reducible rfl))
    try simp only [Act.put, List.setIfInBounds_toArray, List.set_cons_zero, List.set_cons_succ]
    refine wpAnyH_take (i := 11) (v := ?_) (by simp only [List.getElem?_toArray, List.getElem?_cons_succ, List.getElem?_cons_zero]; rfl) (by kernel_rfl) (by kernel_rfl) (by kernel_rfl) (by exact fun _ _ _ h => h) (Or.inl ⟨by rfl, ?_⟩) (by assumption) ?_; rotate_left; focus (intro w hSw; (try dsimp only at hSw); first | (go_simp; done) | (go_simp; with_reducible rfl))
    try simp only [Act.put, List.setIfInBounds_toArray, List.set_cons_zero, List.set_cons_succ]
    refine wpAnyH_ready (rs := [12]) (by kernel_rfl) (by simp) ?_
    refine AllReadyH.cons rfl (fun K hK => ?_) AllReadyH.nil
    rw [if_pos (by rfl)]
    go_simp
    go_at_call 63
    have kB := hHeld.2.2.2.2.2.2.2.2.2.2.2.2.2
    refine (specMinutesOn _ _ d p.segment s _ (Rd.out.below (B2.out.trans (kB.out.mono B2.out.size))) Nd.out (Nl.out s HX.out)).mono ?_
    rw [HMN.out]
    rintro e wq2_12 ⟨rfl, hbk⟩
    have HBK := kB.out.trans (hbk.mono kB.out.size)
    have QS := Lib.hid (show wq2_12.cell? ⟨w.heap.size, 0, none⟩ = some (.slice Ad0 d.points.length cd0) ∧ wq2_12.cell? ⟨w.heap.size, 1, none⟩ = some (.slice Ad1 d.segs.length cd1) ∧ wq2_12.cell? ⟨w.heap.size + 1, 0, none⟩ = some (.int .i64 (k : Int)) ∧ wq2_12.cell? ⟨w.heap.size + 1, 1, none⟩ = some (.int .i64 p.segment) ∧ wq2_12.cell? ⟨w.heap.size + 1, 2, none⟩ = some (.bool p.toward) ∧ wq2_12.cell? ⟨w.heap.size + 1, 3, none⟩ = some (.int .i64 p.start) ∧ wq2_12.cell? ⟨w.heap.size + 1, 4, none⟩ = some (.int .i64 p.stop) ∧ wq2_12.cell? ⟨g, o + k * 6, none⟩ = some (.string s.name) ∧ wq2_12.cell? ⟨g, o + k * 6 + 1, none⟩ = some (.int .i64 s.length) ∧ wq2_12.cell? ⟨g, o + k * 6 + 2, none⟩ = some (.int .i64 s.draught) ∧ wq2_12.cell? ⟨g, o + k * 6 + 3, none⟩ = some (.int .i64 s.line) ∧ wq2_12.cell? ⟨g, o + k * 6 + 4, none⟩ = some (.int .i64 s.tugs) ∧ wq2_12.cell? ⟨g, o + k * 6 + 5, none⟩ = some (.bool s.slow) ∧ Hid (Below w2.heap.size w2 wq2_12) from ⟨cell_onV Fd0.out HBK, cell_onV Fd1.out HBK, cell_onV Fp0.out HBK, cell_onV Fp1.out HBK, cell_onV Fp2.out HBK, cell_onV Fp3.out HBK, cell_onV Fp4.out HBK, cell_onV FY0.out HBK, cell_onV FY1.out HBK, cell_onV FY2.out HBK, cell_onV FY3.out HBK, cell_onV FY4.out HBK, cell_onV FY5.out HBK, Lib.hid HBK⟩)
    clear hbk kB hHeld HBK
    go_simp
    refine hK.out _ _ ?_ (fun hHeld => ?_)
    · (try dsimp only); exact QS.out
    clear hK K
    try simp only [Act.put, List.setIfInBounds_toArray, List.set_cons_zero, List.set_cons_succ]
    refine wpAnyH_take (i := 13) (v := ?_) (by simp only [List.getElem?_toArray, List.getElem?_cons_succ, List.getElem?_cons_zero]; rfl) (by kernel_rfl) (by kernel_rfl) (by kernel_rfl) (by exact fun _ _ _ h => h) (Or.inl ⟨by rfl, ?_⟩) (by assumption) ?_; rotate_left; focus (intro w hSw; (try dsimp only at hSw); first | (go_simp; done) | (go_simp; with_reducible rfl))
    try simp only [Act.put, List.setIfInBounds_toArray, List.set_cons_zero, List.set_cons_succ]
    refine wpAnyH_take (i := 14) (v := ?_) (by simp only [List.getElem?_toArray, List.getElem?_cons_succ, List.getElem?_cons_zero]; rfl) (by kernel_rfl) (by kernel_rfl) (by kernel_rfl) (by exact fun _ _ _ h => h) (Or.inl ⟨by rfl, ?_⟩) (by assumption) ?_; rotate_left; focus (intro w hSw; (try dsimp only at hSw); first | (go_simp; done) | (go_simp; with_reducible rfl))
    try simp only [Act.put, List.setIfInBounds_toArray, List.set_cons_zero, List.set_cons_succ]
    refine wpAnyH_take (i := 15) (v := ?_) (by simp only [List.getElem?_toArray, List.getElem?_cons_succ, List.getElem?_cons_zero]; rfl) (by kernel_rfl) (by kernel_rfl) (by kernel_rfl) (by exact fun _ _ _ h => h) (Or.inl ⟨by rfl, ?_⟩) (by assumption) ?_; rotate_left; focus (intro w hSw; (try dsimp only at hSw); first | (go_simp; done) | (go_simp; with_reducible rfl))
    try simp only [Act.put, List.setIfInBounds_toArray, List.set_cons_zero, List.set_cons_succ]
    refine wpAnyH_take (i := 16) (v := undef) (by simp only [List.getElem?_toArray, List.getElem?_cons_succ, List.getElem?_cons_zero]; rfl) (by kernel_rfl) (by kernel_rfl) (by kernel_rfl) (by exact fun _ _ _ h => h) (Or.inr ⟨by rfl, rfl⟩) (by assumption) ?_
    try simp only [Act.put, List.setIfInBounds_toArray, List.set_cons_zero, List.set_cons_succ]
    refine wpAnyH_take (i := 17) (v := undef) (by simp only [List.getElem?_toArray, List.getElem?_cons_succ, List.getElem?_cons_zero]; rfl) (by kernel_rfl) (by kernel_rfl) (by kernel_rfl) (by exact fun _ _ _ h => h) (Or.inr ⟨by rfl, rfl⟩) (by assumption) ?_
    try simp only [Act.put, List.setIfInBounds_toArray, List.set_cons_zero, List.set_cons_succ]
    refine wpAnyH_take (i := 18) (v := undef) (by simp only [List.getElem?_toArray, List.getElem?_cons_succ, List.getElem?_cons_zero]; rfl) (by kernel_rfl) (by kernel_rfl) (by kernel_rfl) (by exact fun _ _ _ h => h) (Or.inr ⟨by rfl, rfl⟩) (by assumption) ?_
    try simp only [Act.put, List.setIfInBounds_toArray, List.set_cons_zero, List.set_cons_succ]
    refine wpAnyH_take (i := 19) (v := ?_) (by simp only [List.getElem?_toArray, List.getElem?_cons_succ, List.getElem?_cons_zero]; rfl) (by kernel_rfl) (by kernel_rfl) (by kernel_rfl) (by exact fun _ _ _ h => h) (Or.inl ⟨by rfl, ?_⟩) (by assumption) ?_; rotate_left; focus (intro w hSw; (try dsimp only at hSw); first | (go_simp; done) | (go_simp; with_reducible rfl))
    try simp only [Act.put, List.setIfInBounds_toArray, List.set_cons_zero, List.set_cons_succ]
    refine wpAnyH_take (i := 20) (v := ?_) (by simp only [List.getElem?_toArray, List.getElem?_cons_succ, List.getElem?_cons_zero]; rfl) (by kernel_rfl) (by kernel_rfl) (by kernel_rfl) (by exact fun _ _ _ h => h) (Or.inl ⟨by rfl, ?_⟩) (by assumption) ?_; rotate_left; focus (intro w hSw; (try dsimp only at hSw); first | (go_simp; done) | (go_simp; with_reducible rfl))
    try simp only [Act.put, List.setIfInBounds_toArray, List.set_cons_zero, List.set_cons_succ]
    refine wpAnyH_done (by kernel_rfl) ?_ _
    go_wp2
    go_ret
    exact ⟨ret_bool (by rw [E.out]; simp), B2.out.trans (hHeld.2.2.2.2.2.2.2.2.2.2.2.2.2.out.mono B2.out.size)⟩
  | true =>
    have Fd0 := Lib.hid (show w2.cell? ⟨w.heap.size, 0, none⟩ = some (.slice Ad0 d.points.length cd0) from Kd_2.out.cell 0)
    have Fd1 := Lib.hid (show w2.cell? ⟨w.heap.size, 1, none⟩ = some (.slice Ad1 d.segs.length cd1) from Kd_2.out.cell 1)
    have Fp0 := Lib.hid (show w2.cell? ⟨w.heap.size + 1, 0, none⟩ = some (.int .i64 (k : Int)) from Kp_2.out.cell 0)
    have Fp1 := Lib.hid (show w2.cell? ⟨w.heap.size + 1, 1, none⟩ = some (.int .i64 p.segment) from Kp_2.out.cell 1)
    have Fp2 := Lib.hid (show w2.cell? ⟨w.heap.size + 1, 2, none⟩ = some (.bool p.toward) from Kp_2.out.cell 2)
    have Fp3 := Lib.hid (show w2.cell? ⟨w.heap.size + 1, 3, none⟩ = some (.int .i64 p.start) from Kp_2.out.cell 3)
    have Fp4 := Lib.hid (show w2.cell? ⟨w.heap.size + 1, 4, none⟩ = some (.int .i64 p.stop) from Kp_2.out.cell 4)
    have DD := Lib.hid ((Below.refl w2.heap.size w2).drew)
    have vFd0 := Fd0.out
    have vFd1 := Fd1.out
    have vFp0 := Fp0.out
    have vFp1 := Fp1.out
    have vFp2 := Fp2.out
    have vFp3 := Fp3.out
    have vFp4 := Fp4.out
    have vFY0 := FY0.out
    have vFY1 := FY1.out
    have vFY2 := FY2.out
    have vFY3 := FY3.out
    have vFY4 := FY4.out
    have vFY5 := FY5.out
    go_upto_region 3 with fail
    refine wp_region_held_drew (S := (fun w' => w'.cell? ⟨w.heap.size, 0, none⟩ = some (.slice Ad0 d.points.length cd0) ∧ w'.cell? ⟨w.heap.size, 1, none⟩ = some (.slice Ad1 d.segs.length cd1) ∧ w'.cell? ⟨w.heap.size + 1, 0, none⟩ = some (.int .i64 (k : Int)) ∧ w'.cell? ⟨w.heap.size + 1, 1, none⟩ = some (.int .i64 p.segment) ∧ w'.cell? ⟨w.heap.size + 1, 2, none⟩ = some (.bool p.toward) ∧ w'.cell? ⟨w.heap.size + 1, 3, none⟩ = some (.int .i64 p.start) ∧ w'.cell? ⟨w.heap.size + 1, 4, none⟩ = some (.int .i64 p.stop) ∧ w'.cell? ⟨g, o + k * 6, none⟩ = some (.string s.name) ∧ w'.cell? ⟨g, o + k * 6 + 1, none⟩ = some (.int .i64 s.length) ∧ w'.cell? ⟨g, o + k * 6 + 2, none⟩ = some (.int .i64 s.draught) ∧ w'.cell? ⟨g, o + k * 6 + 3, none⟩ = some (.int .i64 s.line) ∧ w'.cell? ⟨g, o + k * 6 + 4, none⟩ = some (.int .i64 s.tugs) ∧ w'.cell? ⟨g, o + k * 6 + 5, none⟩ = some (.bool s.slow) ∧ Hid (Below w2.heap.size w2 w'))) (by kernel_rfl) ?_ (fun hHeld => ?_)
    · (try dsimp only); go_keep
    refine wpAnyH_take (i := 0) (v := ?_) (by simp only [List.getElem?_toArray, List.getElem?_cons_zero]; rfl) (by kernel_rfl) (by kernel_rfl) (by kernel_rfl) (by exact fun _ _ _ h => h) (Or.inl ⟨by rfl, ?_⟩) (by assumption) ?_; rotate_left; focus (intro w hSw; (try dsimp only at hSw); first | (go_simp; done) | (go_simp; with_reducible rfl))
    try simp only [Act.put, List.setIfInBounds_toArray, List.set_cons_zero, List.set_cons_succ]
    refine wpAnyH_take (i := 1) (v := ?_) (by simp only [List.getElem?_toArray, List.getElem?_cons_succ, List.getElem?_cons_zero]; rfl) (by kernel_rfl) (by kernel_rfl) (by kernel_rfl) (by exact fun _ _ _ h => h) (Or.inl ⟨by rfl, ?_⟩) (by assumption) ?_; rotate_left; focus (intro w hSw; (try dsimp only at hSw); first | (go_simp; done) | (go_simp; with_reducible rfl))
    try simp only [Act.put, List.setIfInBounds_toArray, List.set_cons_zero, List.set_cons_succ]
    refine wpAnyH_take (i := 2) (v := ?_) (by simp only [List.getElem?_toArray, List.getElem?_cons_succ, List.getElem?_cons_zero]; rfl) (by kernel_rfl) (by kernel_rfl) (by kernel_rfl) (by exact fun _ _ _ h => h) (Or.inl ⟨by rfl, ?_⟩) (by assumption) ?_; rotate_left; focus (intro w hSw; (try dsimp only at hSw); first | (go_simp; done) | (go_simp; with_reducible rfl))
    try simp only [Act.put, List.setIfInBounds_toArray, List.set_cons_zero, List.set_cons_succ]
    refine wpAnyH_take (i := 3) (v := ?_) (by simp only [List.getElem?_toArray, List.getElem?_cons_succ, List.getElem?_cons_zero]; rfl) (by kernel_rfl) (by kernel_rfl) (by kernel_rfl) (by exact fun _ _ _ h => h) (Or.inl ⟨by rfl, ?_⟩) (by assumption) ?_; rotate_left; focus (intro w hSw; (try dsimp only at hSw); first | (go_simp; done) | (go_simp; with_reducible rfl))
    try simp only [Act.put, List.setIfInBounds_toArray, List.set_cons_zero, List.set_cons_succ]
    refine wpAnyH_take (i := 4) (v := ?_) (by simp only [List.getElem?_toArray, List.getElem?_cons_succ, List.getElem?_cons_zero]; rfl) (by kernel_rfl) (by kernel_rfl) (by kernel_rfl) (by exact fun _ _ _ h => h) (Or.inl ⟨by rfl, ?_⟩) (by assumption) ?_; rotate_left; focus (intro w hSw; (try dsimp only at hSw); first | (go_simp; done) | (go_simp; with_reducible rfl))
    try simp only [Act.put, List.setIfInBounds_toArray, List.set_cons_zero, List.set_cons_succ]
    refine wpAnyH_take (i := 5) (v := ?_) (by simp only [List.getElem?_toArray, List.getElem?_cons_succ, List.getElem?_cons_zero]; rfl) (by kernel_rfl) (by kernel_rfl) (by kernel_rfl) (by exact fun _ _ _ h => h) (Or.inl ⟨by rfl, ?_⟩) (by assumption) ?_; rotate_left; focus (intro w hSw; (try dsimp only at hSw); first | (go_simp; done) | (go_simp; with_reducible rfl))
    try simp only [Act.put, List.setIfInBounds_toArray, List.set_cons_zero, List.set_cons_succ]
    refine wpAnyH_take (i := 6) (v := ?_) (by simp only [List.getElem?_toArray, List.getElem?_cons_succ, List.getElem?_cons_zero]; rfl) (by kernel_rfl) (by kernel_rfl) (by kernel_rfl) (by exact fun _ _ _ h => h) (Or.inl ⟨by rfl, ?_⟩) (by assumption) ?_; rotate_left; focus (intro w hSw; (try dsimp only at hSw); first | (go_simp; done) | (go_simp; with_reducible rfl))
    try simp only [Act.put, List.setIfInBounds_toArray, List.set_cons_zero, List.set_cons_succ]
    refine wpAnyH_take (i := 7) (v := ?_) (by simp only [List.getElem?_toArray, List.getElem?_cons_succ, List.getElem?_cons_zero]; rfl) (by kernel_rfl) (by kernel_rfl) (by kernel_rfl) (by exact fun _ _ _ h => h) (Or.inl ⟨by rfl, ?_⟩) (by assumption) ?_; rotate_left; focus (intro w hSw; (try dsimp only at hSw); first | (go_simp; done) | (go_simp; with_reducible rfl))
    try simp only [Act.put, List.setIfInBounds_toArray, List.set_cons_zero, List.set_cons_succ]
    refine wpAnyH_take (i := 8) (v := ?_) (by simp only [List.getElem?_toArray, List.getElem?_cons_succ, List.getElem?_cons_zero]; rfl) (by kernel_rfl) (by kernel_rfl) (by kernel_rfl) (by exact fun _ _ _ h => h) (Or.inl ⟨by rfl, ?_⟩) (by assumption) ?_; rotate_left; focus (intro w hSw; (try dsimp only at hSw); first | (go_simp; done) | (go_simp; with_reducible rfl))
    try simp only [Act.put, List.setIfInBounds_toArray, List.set_cons_zero, List.set_cons_succ]
    refine wpAnyH_take (i := 9) (v := ?_) (by simp only [List.getElem?_toArray, List.getElem?_cons_succ, List.getElem?_cons_zero]; rfl) (by kernel_rfl) (by kernel_rfl) (by kernel_rfl) (by exact fun _ _ _ h => h) (Or.inl ⟨by rfl, ?_⟩) (by assumption) ?_; rotate_left; focus (intro w hSw; (try dsimp only at hSw); first | (go_simp; done) | (go_simp; with_reducible rfl))
    try simp only [Act.put, List.setIfInBounds_toArray, List.set_cons_zero, List.set_cons_succ]
    refine wpAnyH_take (i := 10) (v := ?_) (by simp only [List.getElem?_toArray, List.getElem?_cons_succ, List.getElem?_cons_zero]; rfl) (by kernel_rfl) (by kernel_rfl) (by kernel_rfl) (by exact fun _ _ _ h => h) (Or.inl ⟨by rfl, ?_⟩) (by assumption) ?_; rotate_left; focus (intro w hSw; (try dsimp only at hSw); first | (go_simp; done) | (go_simp; with_reducible rfl))
    try simp only [Act.put, List.setIfInBounds_toArray, List.set_cons_zero, List.set_cons_succ]
    refine wpAnyH_take (i := 11) (v := ?_) (by simp only [List.getElem?_toArray, List.getElem?_cons_succ, List.getElem?_cons_zero]; rfl) (by kernel_rfl) (by kernel_rfl) (by kernel_rfl) (by exact fun _ _ _ h => h) (Or.inl ⟨by rfl, ?_⟩) (by assumption) ?_; rotate_left; focus (intro w hSw; (try dsimp only at hSw); first | (go_simp; done) | (go_simp; with_reducible rfl))
    try simp only [Act.put, List.setIfInBounds_toArray, List.set_cons_zero, List.set_cons_succ]
    refine wpAnyH_ready (rs := [12]) (by kernel_rfl) (by simp) ?_
    refine AllReadyH.cons rfl (fun K hK => ?_) AllReadyH.nil
    rw [if_pos (by rfl)]
    go_simp
    go_at_call 63
    have kB := hHeld.2.2.2.2.2.2.2.2.2.2.2.2.2
    refine (specMinutesOn _ _ d p.segment s _ (Rd.out.below (B2.out.trans (kB.out.mono B2.out.size))) Nd.out (Nl.out s HX.out)).mono ?_
    rw [HMN.out]
    rintro e wq2_12 ⟨rfl, hbk⟩
    have HBK := kB.out.trans (hbk.mono kB.out.size)
    have QS := Lib.hid (show wq2_12.cell? ⟨w.heap.size, 0, none⟩ = some (.slice Ad0 d.points.length cd0) ∧ wq2_12.cell? ⟨w.heap.size, 1, none⟩ = some (.slice Ad1 d.segs.length cd1) ∧ wq2_12.cell? ⟨w.heap.size + 1, 0, none⟩ = some (.int .i64 (k : Int)) ∧ wq2_12.cell? ⟨w.heap.size + 1, 1, none⟩ = some (.int .i64 p.segment) ∧ wq2_12.cell? ⟨w.heap.size + 1, 2, none⟩ = some (.bool p.toward) ∧ wq2_12.cell? ⟨w.heap.size + 1, 3, none⟩ = some (.int .i64 p.start) ∧ wq2_12.cell? ⟨w.heap.size + 1, 4, none⟩ = some (.int .i64 p.stop) ∧ wq2_12.cell? ⟨g, o + k * 6, none⟩ = some (.string s.name) ∧ wq2_12.cell? ⟨g, o + k * 6 + 1, none⟩ = some (.int .i64 s.length) ∧ wq2_12.cell? ⟨g, o + k * 6 + 2, none⟩ = some (.int .i64 s.draught) ∧ wq2_12.cell? ⟨g, o + k * 6 + 3, none⟩ = some (.int .i64 s.line) ∧ wq2_12.cell? ⟨g, o + k * 6 + 4, none⟩ = some (.int .i64 s.tugs) ∧ wq2_12.cell? ⟨g, o + k * 6 + 5, none⟩ = some (.bool s.slow) ∧ Hid (Below w2.heap.size w2 wq2_12) from ⟨cell_onV Fd0.out HBK, cell_onV Fd1.out HBK, cell_onV Fp0.out HBK, cell_onV Fp1.out HBK, cell_onV Fp2.out HBK, cell_onV Fp3.out HBK, cell_onV Fp4.out HBK, cell_onV FY0.out HBK, cell_onV FY1.out HBK, cell_onV FY2.out HBK, cell_onV FY3.out HBK, cell_onV FY4.out HBK, cell_onV FY5.out HBK, Lib.hid HBK⟩)
    clear hbk kB hHeld HBK
    go_simp
    refine hK.out _ _ ?_ (fun hHeld => ?_)
    · (try dsimp only); exact QS.out
    clear hK K
    try simp only [Act.put, List.setIfInBounds_toArray, List.set_cons_zero, List.set_cons_succ]
    refine wpAnyH_take (i := 13) (v := ?_) (by simp only [List.getElem?_toArray, List.getElem?_cons_succ, List.getElem?_cons_zero]; rfl) (by kernel_rfl) (by kernel_rfl) (by kernel_rfl) (by exact fun _ _ _ h => h) (Or.inl ⟨by rfl, ?_⟩) (by assumption) ?_; rotate_left; focus (intro w hSw; (try dsimp only at hSw); first | (go_simp; done) | (go_simp; with_reducible rfl))
    try simp only [Act.put, List.setIfInBounds_toArray, List.set_cons_zero, List.set_cons_succ]
    refine wpAnyH_take (i := 14) (v := ?_) (by simp only [List.getElem?_toArray, List.getElem?_cons_succ, List.getElem?_cons_zero]; rfl) (by kernel_rfl) (by kernel_rfl) (by kernel_rfl) (by exact fun _ _ _ h => h) (Or.inl ⟨by rfl, ?_⟩) (by assumption) ?_; rotate_left; focus (intro w hSw; (try dsimp only at hSw); first | (go_simp; done) | (go_simp; with_reducible rfl))
    try simp only [Act.put, List.setIfInBounds_toArray, List.set_cons_zero, List.set_cons_succ]
    refine wpAnyH_take (i := 15) (v := ?_) (by simp only [List.getElem?_toArray, List.getElem?_cons_succ, List.getElem?_cons_zero]; rfl) (by kernel_rfl) (by kernel_rfl) (by kernel_rfl) (by exact fun _ _ _ h => h) (Or.inl ⟨by rfl, ?_⟩) (by assumption) ?_; rotate_left; focus (intro w hSw; (try dsimp only at hSw); first | (go_simp; done) | (go_simp; with_reducible rfl))
    try simp only [Act.put, List.setIfInBounds_toArray, List.set_cons_zero, List.set_cons_succ]
    refine wpAnyH_take (i := 16) (v := ?_) (by simp only [List.getElem?_toArray, List.getElem?_cons_succ, List.getElem?_cons_zero]; rfl) (by kernel_rfl) (by kernel_rfl) (by kernel_rfl) (by exact fun _ _ _ h => h) (Or.inl ⟨by rfl, ?_⟩) (by assumption) ?_; rotate_left; focus (intro w hSw; (try dsimp only at hSw); first | (go_simp; done) | (go_simp; with_reducible rfl))
    try simp only [Act.put, List.setIfInBounds_toArray, List.set_cons_zero, List.set_cons_succ]
    refine wpAnyH_take (i := 17) (v := ?_) (by simp only [List.getElem?_toArray, List.getElem?_cons_succ, List.getElem?_cons_zero]; rfl) (by kernel_rfl) (by kernel_rfl) (by kernel_rfl) (by exact fun _ _ _ h => h) (Or.inl ⟨by rfl, ?_⟩) (by assumption) ?_; rotate_left; focus (intro w hSw; (try dsimp only at hSw); first | (go_simp; done) | (go_simp; with_reducible rfl))
    try simp only [Act.put, List.setIfInBounds_toArray, List.set_cons_zero, List.set_cons_succ]
    refine wpAnyH_take (i := 18) (v := ?_) (by simp only [List.getElem?_toArray, List.getElem?_cons_succ, List.getElem?_cons_zero]; rfl) (by kernel_rfl) (by kernel_rfl) (by kernel_rfl) (by exact fun _ _ _ h => h) (Or.inl ⟨by rfl, ?_⟩) (by assumption) ?_; rotate_left; focus (intro w hSw; (try dsimp only at hSw); first | (go_simp; done) | (go_simp; with_reducible rfl))
    try simp only [Act.put, List.setIfInBounds_toArray, List.set_cons_zero, List.set_cons_succ]
    refine wpAnyH_take (i := 19) (v := ?_) (by simp only [List.getElem?_toArray, List.getElem?_cons_succ, List.getElem?_cons_zero]; rfl) (by kernel_rfl) (by kernel_rfl) (by kernel_rfl) (by exact fun _ _ _ h => h) (Or.inl ⟨by rfl, ?_⟩) (by assumption) ?_; rotate_left; focus (intro w hSw; (try dsimp only at hSw); first | (go_simp; done) | (go_simp; with_reducible rfl))
    try simp only [Act.put, List.setIfInBounds_toArray, List.set_cons_zero, List.set_cons_succ]
    refine wpAnyH_take (i := 20) (v := ?_) (by simp only [List.getElem?_toArray, List.getElem?_cons_succ, List.getElem?_cons_zero]; rfl) (by kernel_rfl) (by kernel_rfl) (by kernel_rfl) (by exact fun _ _ _ h => h) (Or.inl ⟨by rfl, ?_⟩) (by assumption) ?_; rotate_left; focus (intro w hSw; (try dsimp only at hSw); first | (go_simp; done) | (go_simp; with_reducible rfl))
    try simp only [Act.put, List.setIfInBounds_toArray, List.set_cons_zero, List.set_cons_succ]
    refine wpAnyH_done (by kernel_rfl) ?_ _
    go_wp2
    go_ret
    exact ⟨ret_bool (by rw [E.out]; simp), B2.out.trans (hHeld.2.2.2.2.2.2.2.2.2.2.2.2.2.out.mono B2.out.size)⟩
set_option maxHeartbeats 4000000 in
theorem l08Ends_any (v0 v1 : Value) (d : ChartD) (ps pg pa po : Int) (pt : Bool) (g : SegmentD) (w : World) (h : RdChart w v0 v1 d) (hg : segAt d pg = some g) :
    Calls Try.prog 80 #[.agg #[v0, v1], .agg #[.int .i64 ps, .int .i64 pg, .bool pt, .int .i64 pa, .int .i64 po]] w fun e w' => e = .returned (.tuple #[.int .i64 (headOf g pt), .int .i64 (tailOf g pt)]) ∧ Below w.heap.size w w' := by
  have hin : inB pg 0 ((d.segs.length : Int) - 1) = true := by
    cases hb : inB pg 0 ((d.segs.length : Int) - 1) with
    | true => rfl
    | false => rw [segAt_out hb] at hg; cases hg
  obtain ⟨g2, hg2, hx, i0, il⟩ := segAt_in hin
  obtain rfl : g2 = g := by rw [hg] at hg2; injection hg2 with e; exact e.symm
  obtain ⟨k, rfl⟩ : ∃ k : Nat, pg = (k : Int) := ⟨pg.toNat, by omega⟩
  simp only [Int.toNat_natCast] at hx il
  obtain ⟨h0, h1⟩ := h
  obtain ⟨A0, c0, rfl⟩ := h0.at
  have hdl := h1.1
  rcases h1.2 with ⟨he, _⟩ | ⟨g', o', c', rfl, hpos, hcap, hc⟩
  · rw [he] at il; simp at il
  obtain ⟨q0, q1, q2, q3, q4⟩ := SlSegment.cells hc k g2 hx
  obtain ⟨W0, hW0⟩ : ∃ W0, W0 = ((w.alloc (.cells #[.slice A0 d.points.length c0, .slice (some ⟨g', o', none⟩) d.segs.length c'] 32)).alloc (.cells #[.int .i64 ps, .int .i64 (k : Int), .bool pt, .int .i64 pa, .int .i64 po] 67)) := ⟨_, rfl⟩
  have HW0 := Lib.hid hW0
  have B := Lib.hid (Joins.below_alloc2 w (.cells #[.slice A0 d.points.length c0, .slice (some ⟨g', o', none⟩) d.segs.length c'] 32) (.cells #[.int .i64 ps, .int .i64 (k : Int), .bool pt, .int .i64 pa, .int .i64 po] 67))
  have KC := Lib.hid ((Blk.new w #[.slice A0 d.points.length c0, .slice (some ⟨g', o', none⟩) d.segs.length c'] 32).below (Joins.below_alloc1 _ (.cells #[.int .i64 ps, .int .i64 (k : Int), .bool pt, .int .i64 pa, .int .i64 po] 67)))
  have KP := Lib.hid (Blk.new (w.alloc (.cells #[.slice A0 d.points.length c0, .slice (some ⟨g', o', none⟩) d.segs.length c'] 32)) #[.int .i64 ps, .int .i64 (k : Int), .bool pt, .int .i64 pa, .int .i64 po] 67)
  rw [World.size_alloc] at KP
  rw [← hW0] at B KC KP
  have y0 := cell_onV q0 B.out
  have y1 := cell_onV q1 B.out
  have y2 := cell_onV q2 B.out
  have y3 := cell_onV q3 B.out
  have y4 := cell_onV q4 B.out
  clear hW0 q0 q1 q2 q3 q4 hc hx hg hg2 hin i0 h0 h1
  obtain ⟨ga, gb, gd, gm, ge⟩ := g2
  dsimp only at y0 y1 y2 y3 y4
  have BA := Lib.hid (B.out.alloc B.out.size (.cells #[.int .i64 ga, .int .i64 gb, .int .i64 gd, .int .i64 gm, .bool ge] 123))
  have p0 : W0.cell? ⟨w.heap.size, 0, none⟩ = some (.slice A0 d.points.length c0) := KC.out.cell 0
  have p1 : W0.cell? ⟨w.heap.size, 1, none⟩ = some (.slice (some ⟨g', o', none⟩) d.segs.length c') := KC.out.cell 1
  have s0 : W0.cell? ⟨w.heap.size + 1, 0, none⟩ = some (.int .i64 ps) := KP.out.cell 0
  have s1 : W0.cell? ⟨w.heap.size + 1, 1, none⟩ = some (.int .i64 (k : Int)) := KP.out.cell 1
  have s2 : W0.cell? ⟨w.heap.size + 1, 2, none⟩ = some (.bool pt) := KP.out.cell 2
  have s3 : W0.cell? ⟨w.heap.size + 1, 3, none⟩ = some (.int .i64 pa) := KP.out.cell 3
  have s4 : W0.cell? ⟨w.heap.size + 1, 4, none⟩ = some (.int .i64 po) := KP.out.cell 4
  obtain ⟨W1, hW1⟩ : ∃ W1, W1 = W0.alloc (.cells #[.int .i64 ga, .int .i64 gb, .int .i64 gd, .int .i64 gm, .bool ge] 123) := ⟨_, rfl⟩
  have HW1 := Lib.hid hW1
  rw [← hW1] at BA
  have KS := Blk.new W0 #[.int .i64 ga, .int .i64 gb, .int .i64 gd, .int .i64 gm, .bool ge] 123
  rw [← hW1] at KS
  have t2 : W1.cell? ⟨w.heap.size + 1, 2, none⟩ = some (.bool pt) := by rw [hW1]; exact (KP.out.below (Joins.below_alloc1 _ _)).cell 2
  have u0 : W1.cell? ⟨W0.heap.size, 0, none⟩ = some (.int .i64 ga) := KS.cell 0
  have u1 : W1.cell? ⟨W0.heap.size, 1, none⟩ = some (.int .i64 gb) := KS.cell 1
  have u2 : W1.cell? ⟨W0.heap.size, 2, none⟩ = some (.int .i64 gd) := KS.cell 2
  have u3 : W1.cell? ⟨W0.heap.size, 3, none⟩ = some (.int .i64 gm) := KS.cell 3
  have u4 : W1.cell? ⟨W0.heap.size, 4, none⟩ = some (.bool ge) := KS.cell 4
  clear hW1 KS
  cases pt with
  | true =>
    go_enter Try.func80, Try.ntmps80
    go_upto_region 1 with fail
    rw [← HW0.out]
    go_upto_region 2 with fail
    rw [← HW1.out]
    clear y0 y1 y2 y3 y4 p0 p1 s0 s1 s2 s3 s4
    go_upto_region 3 with fail
    go_quiet (fail)
    go_wp2
    refine bodyPost_ret (v := .tuple #[.int .i64 ga, .int .i64 gb]) (by simp [results, Try.results80, go_sem, *]) rfl ⟨rfl, ?_⟩
    repeat (first | exact BA.out | refine below_drewN ?_ _ | refine Below.setCell ?_ (by first | omega | (simp <;> omega)) _)
  | false =>
    go_enter Try.func80, Try.ntmps80
    go_upto_region 1 with fail
    rw [← HW0.out]
    go_upto_region 2 with fail
    rw [← HW1.out]
    clear y0 y1 y2 y3 y4 p0 p1 s0 s1 s2 s3 s4
    go_upto_region 4 with fail
    go_quiet (fail)
    go_wp2
    refine bodyPost_ret (v := .tuple #[.int .i64 gb, .int .i64 ga]) (by simp [results, Try.results80, go_sem, *]) rfl ⟨rfl, ?_⟩
    repeat (first | exact BA.out | refine below_drewN ?_ _ | refine Below.setCell ?_ (by first | omega | (simp <;> omega)) _)
theorem segAt_at {d : ChartD} {i : Int} {s : SegmentD} (h : segAt d i = some s) : d.segs[i.toNat]? = some s ∧ 0 ≤ i ∧ i.toNat < d.segs.length := by
  unfold segAt at h
  split at h
  · exact ⟨h, by assumption, (List.getElem?_eq_some_iff.1 h).1⟩
  · cases h
theorem minSum_nonneg {d : ChartD} (hd : chartB d = true) : ∀ (l : List Int) {x : Int}, minSum d l = some x → 0 ≤ x
  | [], x, h => by cases h; exact Int.le_refl _
  | i :: l, x, h => by
    unfold minSum at h
    cases hs : segAt d i with
    | none => rw [hs] at h; cases h
    | some g =>
      cases hr : minSum d l with
      | none => rw [hs, hr] at h; cases h
      | some r =>
        rw [hs, hr] at h
        injection h with e
        have := minSum_nonneg hd l hr
        obtain ⟨-, -, -, -, -, -, -, m0, -⟩ := segB_true (chartB_seg hd (segAt_at hs).1)
        omega
theorem minutes_neg (d : ChartD) (l : List Int) : decide (minutesI d l < 0) = !(chartB d && (minSum d l).isSome) := by
  cases h : chartB d with
  | false => rw [minutesI_bad h]; rfl
  | true =>
    unfold minutesI
    rw [if_pos h]
    cases hs : minSum d l with
    | none => rfl
    | some x =>
      have := minSum_nonneg h l hs
      simp
      omega
theorem last_at {l : List Int} {n : Nat} {x : Int} (hn : l.length = n + 1) (hx : l[n]? = some x) : l.getLast? = some x := by
  rw [List.getLast?_eq_getElem?, hn, Nat.add_sub_cancel]; exact hx
theorem minSum_seg {d : ChartD} : ∀ {l : List Int} {x : Int}, minSum d l = some x → ∀ i ∈ l, ∃ g, segAt d i = some g
  | [], x, h, i, hi => by simp at hi
  | j :: l, x, h, i, hi => by
    unfold minSum at h
    cases hs : segAt d j with
    | none => rw [hs] at h; cases h
    | some g =>
      cases hr : minSum d l with
      | none => rw [hs, hr] at h; cases h
      | some r =>
        rcases List.mem_cons.1 hi with rfl | hi
        · exact ⟨g, hs⟩
        · exact minSum_seg hr i hi
set_option maxHeartbeats 4000000 in
theorem specArrivalOf (yd0 yd1 : Value) (d : ChartD) (s : ShipD) (yr : Value) (r : List Int) (yt : Value) (t : List Int) (w : World) (rd : RdChart w yd0 yd1 d) (rr : SlInt w yr r) (rt : SlInt w yt t) (fd : ∀ x ∈ d.points, PointD.wf x) (fs : s.wf) :
    Calls Try.prog 25 #[.agg #[yd0, yd1], s.val, yr, yt] w (fun e w' => e = .returned (.int .i64 (arrI d s r t)) ∧ Below w.heap.size w w') := by
  have Rd := Lib.hid rd
  obtain ⟨rd0, rd1⟩ := rd
  obtain ⟨Ad0, cd0, rfl⟩ := SlOf.form rd0
  obtain ⟨Ad1, cd1, rfl⟩ := SlOf.form rd1
  have Nd := Lib.hid fd
  clear fd
  clear rd0 rd1
  have Ns := Lib.hid fs
  clear fs
  have Rr := Lib.hid rr
  obtain ⟨Ar, cr, rfl⟩ := SlOf.form rr
  clear rr
  have Rt := Lib.hid rt
  obtain ⟨At, ct, rfl⟩ := SlOf.form rt
  clear rt
  obtain ⟨W0, hW0⟩ : ∃ W0, W0 = ((w.alloc (.cells #[.slice Ad0 d.points.length cd0, .slice Ad1 d.segs.length cd1] 32)).alloc (.cells #[.string s.name, .int .i64 s.length, .int .i64 s.draught, .int .i64 s.line, .int .i64 s.tugs, .bool s.slow] 46)) := ⟨_, rfl⟩
  have B := Lib.hid ((Joins.below_alloc1 w (.cells #[.slice Ad0 d.points.length cd0, .slice Ad1 d.segs.length cd1] 32)).trans ((Joins.below_alloc1 (w.alloc (.cells #[.slice Ad0 d.points.length cd0, .slice Ad1 d.segs.length cd1] 32)) (.cells #[.string s.name, .int .i64 s.length, .int .i64 s.draught, .int .i64 s.line, .int .i64 s.tugs, .bool s.slow] 46)).mono (by simp; try omega)))
  have Kd := Lib.hid ((Blk.new w #[.slice Ad0 d.points.length cd0, .slice Ad1 d.segs.length cd1] 32).below (Joins.below_alloc1 _ (.cells #[.string s.name, .int .i64 s.length, .int .i64 s.draught, .int .i64 s.line, .int .i64 s.tugs, .bool s.slow] 46)))
  have Ks := Lib.hid (Blk.new (w.alloc (.cells #[.slice Ad0 d.points.length cd0, .slice Ad1 d.segs.length cd1] 32)) #[.string s.name, .int .i64 s.length, .int .i64 s.draught, .int .i64 s.line, .int .i64 s.tugs, .bool s.slow] 46)
  rw [World.size_alloc] at Ks
  have HW0 := Lib.hid hW0
  rw [← hW0] at B Kd Ks
  clear hW0
  have hdl := Rd.out.2.1
  have hrl := Rr.out.1
  have htl := Rt.out.1
  obtain ⟨mi, hmi⟩ : ∃ m, minutesI d r = m := ⟨_, rfl⟩
  have hneg := minutes_neg d r
  rw [hmi] at hneg
  have HMI := Lib.hid hmi
  obtain ⟨b1, hb1⟩ : ∃ b, (chartB d && (minSum d r).isSome) = b := ⟨_, rfl⟩
  rw [hb1] at hneg
  have H1 := Lib.hid hb1
  obtain ⟨b2, hb2⟩ : ∃ b, shipB s = b := ⟨_, rfl⟩
  have H2 := Lib.hid hb2
  obtain ⟨b3, hb3⟩ : ∃ b, ((r.length : Int) == (t.length : Int)) = b := ⟨_, rfl⟩
  have H3 := Lib.hid hb3
  have hb3' : ((r.length : Int) != (t.length : Int)) = !b3 := by rw [bne, hb3]
  obtain ⟨b4, hb4⟩ : ∃ b, ((r.length : Int) == 0) = b := ⟨_, rfl⟩
  have H4 := Lib.hid hb4
  clear hmi hb1 hb2
  cases b1 with
  | false =>
    have E := Lib.hid (arrI_no (s := s) (starts := t) (d := d) (route := r) (by rintro ⟨h1, -, h3, -⟩; have := H1.out; rw [h1, h3] at this; cases this))
    have hng : mi < 0 := of_decide_eq_true (hneg.trans rfl)
    go_enter Try.func25, Try.ntmps25
    have vd0 : W0.cell? ⟨w.heap.size, 0, none⟩ = some (.slice Ad0 d.points.length cd0) := Kd.out.cell 0
    have vd1 : W0.cell? ⟨w.heap.size, 1, none⟩ = some (.slice Ad1 d.segs.length cd1) := Kd.out.cell 1
    have vs0 : W0.cell? ⟨w.heap.size + 1, 0, none⟩ = some (.string s.name) := Ks.out.cell 0
    have vs1 : W0.cell? ⟨w.heap.size + 1, 1, none⟩ = some (.int .i64 s.length) := Ks.out.cell 1
    have vs2 : W0.cell? ⟨w.heap.size + 1, 2, none⟩ = some (.int .i64 s.draught) := Ks.out.cell 2
    have vs3 : W0.cell? ⟨w.heap.size + 1, 3, none⟩ = some (.int .i64 s.line) := Ks.out.cell 3
    have vs4 : W0.cell? ⟨w.heap.size + 1, 4, none⟩ = some (.int .i64 s.tugs) := Ks.out.cell 4
    have vs5 : W0.cell? ⟨w.heap.size + 1, 5, none⟩ = some (.bool s.slow) := Ks.out.cell 5
    go_wp2_with fail
    rw [← HW0.out]
    clear vd0 vd1 vs0 vs1 vs2 vs3 vs4 vs5
    refine (specRouteMinutes _ _ d _ r _ (Rd.out.below B.out) (Rr.out.below B.out) Nd.out).mono ?_
    rw [HMI.out]
    rintro e w1 ⟨rfl, hb1⟩
    have B1 := Lib.hid (B.out.trans (hb1.mono B.out.size))
    have Kd_1 := Lib.hid (Kd.out.below hb1)
    have Ks_1 := Lib.hid (Ks.out.below hb1)
    clear hb1
    go_wp2
    go_ret
    exact ⟨ret_int E.out.symm, B1.out⟩
  | true =>
  have hng : ¬ (mi < 0) := of_decide_eq_false (hneg.trans rfl)
  cases b2 with
  | false =>
    have E := Lib.hid (arrI_no (s := s) (starts := t) (d := d) (route := r) (by rintro ⟨-, h2, -⟩; rw [H2.out] at h2; cases h2))
    go_enter Try.func25, Try.ntmps25
    have vd0 : W0.cell? ⟨w.heap.size, 0, none⟩ = some (.slice Ad0 d.points.length cd0) := Kd.out.cell 0
    have vd1 : W0.cell? ⟨w.heap.size, 1, none⟩ = some (.slice Ad1 d.segs.length cd1) := Kd.out.cell 1
    have vs0 : W0.cell? ⟨w.heap.size + 1, 0, none⟩ = some (.string s.name) := Ks.out.cell 0
    have vs1 : W0.cell? ⟨w.heap.size + 1, 1, none⟩ = some (.int .i64 s.length) := Ks.out.cell 1
    have vs2 : W0.cell? ⟨w.heap.size + 1, 2, none⟩ = some (.int .i64 s.draught) := Ks.out.cell 2
    have vs3 : W0.cell? ⟨w.heap.size + 1, 3, none⟩ = some (.int .i64 s.line) := Ks.out.cell 3
    have vs4 : W0.cell? ⟨w.heap.size + 1, 4, none⟩ = some (.int .i64 s.tugs) := Ks.out.cell 4
    have vs5 : W0.cell? ⟨w.heap.size + 1, 5, none⟩ = some (.bool s.slow) := Ks.out.cell 5
    go_wp2_with fail
    rw [← HW0.out]
    clear vd0 vd1 vs0 vs1 vs2 vs3 vs4 vs5
    refine (specRouteMinutes _ _ d _ r _ (Rd.out.below B.out) (Rr.out.below B.out) Nd.out).mono ?_
    rw [HMI.out]
    rintro e w1 ⟨rfl, hb1⟩
    have B1 := Lib.hid (B.out.trans (hb1.mono B.out.size))
    have Kd_1 := Lib.hid (Kd.out.below hb1)
    have Ks_1 := Lib.hid (Ks.out.below hb1)
    clear hb1
    have vd0 : w1.cell? ⟨w.heap.size, 0, none⟩ = some (.slice Ad0 d.points.length cd0) := Kd_1.out.cell 0
    have vd1 : w1.cell? ⟨w.heap.size, 1, none⟩ = some (.slice Ad1 d.segs.length cd1) := Kd_1.out.cell 1
    have vs0 : w1.cell? ⟨w.heap.size + 1, 0, none⟩ = some (.string s.name) := Ks_1.out.cell 0
    have vs1 : w1.cell? ⟨w.heap.size + 1, 1, none⟩ = some (.int .i64 s.length) := Ks_1.out.cell 1
    have vs2 : w1.cell? ⟨w.heap.size + 1, 2, none⟩ = some (.int .i64 s.draught) := Ks_1.out.cell 2
    have vs3 : w1.cell? ⟨w.heap.size + 1, 3, none⟩ = some (.int .i64 s.line) := Ks_1.out.cell 3
    have vs4 : w1.cell? ⟨w.heap.size + 1, 4, none⟩ = some (.int .i64 s.tugs) := Ks_1.out.cell 4
    have vs5 : w1.cell? ⟨w.heap.size + 1, 5, none⟩ = some (.bool s.slow) := Ks_1.out.cell 5
    go_wp2_with fail
    clear vd0 vd1 vs0 vs1 vs2 vs3 vs4 vs5
    refine (specShipOk s _ Ns.out).mono ?_
    rw [H2.out]
    rintro e w2 ⟨rfl, hb2⟩
    have B2 := Lib.hid (B1.out.trans (hb2.mono B1.out.size))
    have Kd_2 := Lib.hid (Kd_1.out.below hb2)
    have Ks_2 := Lib.hid (Ks_1.out.below hb2)
    clear hb2
    go_wp2
    go_ret
    exact ⟨ret_int E.out.symm, B2.out⟩
  | true =>
  cases b3 with
  | false =>
    have E := Lib.hid (arrI_no (s := s) (starts := t) (d := d) (route := r) (by rintro ⟨-, -, -, h4, -⟩; have := H3.out; rw [h4] at this; simp at this))
    go_enter Try.func25, Try.ntmps25
    have vd0 : W0.cell? ⟨w.heap.size, 0, none⟩ = some (.slice Ad0 d.points.length cd0) := Kd.out.cell 0
    have vd1 : W0.cell? ⟨w.heap.size, 1, none⟩ = some (.slice Ad1 d.segs.length cd1) := Kd.out.cell 1
    have vs0 : W0.cell? ⟨w.heap.size + 1, 0, none⟩ = some (.string s.name) := Ks.out.cell 0
    have vs1 : W0.cell? ⟨w.heap.size + 1, 1, none⟩ = some (.int .i64 s.length) := Ks.out.cell 1
    have vs2 : W0.cell? ⟨w.heap.size + 1, 2, none⟩ = some (.int .i64 s.draught) := Ks.out.cell 2
    have vs3 : W0.cell? ⟨w.heap.size + 1, 3, none⟩ = some (.int .i64 s.line) := Ks.out.cell 3
    have vs4 : W0.cell? ⟨w.heap.size + 1, 4, none⟩ = some (.int .i64 s.tugs) := Ks.out.cell 4
    have vs5 : W0.cell? ⟨w.heap.size + 1, 5, none⟩ = some (.bool s.slow) := Ks.out.cell 5
    go_wp2_with fail
    rw [← HW0.out]
    clear vd0 vd1 vs0 vs1 vs2 vs3 vs4 vs5
    refine (specRouteMinutes _ _ d _ r _ (Rd.out.below B.out) (Rr.out.below B.out) Nd.out).mono ?_
    rw [HMI.out]
    rintro e w1 ⟨rfl, hb1⟩
    have B1 := Lib.hid (B.out.trans (hb1.mono B.out.size))
    have Kd_1 := Lib.hid (Kd.out.below hb1)
    have Ks_1 := Lib.hid (Ks.out.below hb1)
    clear hb1
    have vd0 : w1.cell? ⟨w.heap.size, 0, none⟩ = some (.slice Ad0 d.points.length cd0) := Kd_1.out.cell 0
    have vd1 : w1.cell? ⟨w.heap.size, 1, none⟩ = some (.slice Ad1 d.segs.length cd1) := Kd_1.out.cell 1
    have vs0 : w1.cell? ⟨w.heap.size + 1, 0, none⟩ = some (.string s.name) := Ks_1.out.cell 0
    have vs1 : w1.cell? ⟨w.heap.size + 1, 1, none⟩ = some (.int .i64 s.length) := Ks_1.out.cell 1
    have vs2 : w1.cell? ⟨w.heap.size + 1, 2, none⟩ = some (.int .i64 s.draught) := Ks_1.out.cell 2
    have vs3 : w1.cell? ⟨w.heap.size + 1, 3, none⟩ = some (.int .i64 s.line) := Ks_1.out.cell 3
    have vs4 : w1.cell? ⟨w.heap.size + 1, 4, none⟩ = some (.int .i64 s.tugs) := Ks_1.out.cell 4
    have vs5 : w1.cell? ⟨w.heap.size + 1, 5, none⟩ = some (.bool s.slow) := Ks_1.out.cell 5
    go_wp2_with fail
    clear vd0 vd1 vs0 vs1 vs2 vs3 vs4 vs5
    refine (specShipOk s _ Ns.out).mono ?_
    rw [H2.out]
    rintro e w2 ⟨rfl, hb2⟩
    have B2 := Lib.hid (B1.out.trans (hb2.mono B1.out.size))
    have Kd_2 := Lib.hid (Kd_1.out.below hb2)
    have Ks_2 := Lib.hid (Ks_1.out.below hb2)
    clear hb2
    go_wp2
    go_ret
    exact ⟨ret_int E.out.symm, B2.out⟩
  | true =>
  cases b4 with
  | true =>
    have E := Lib.hid (arrI_no (s := s) (starts := t) (d := d) (route := r) (by rintro ⟨-, -, -, -, h5, -⟩; have := H4.out; simp at this; exact h5 this))
    go_enter Try.func25, Try.ntmps25
    have vd0 : W0.cell? ⟨w.heap.size, 0, none⟩ = some (.slice Ad0 d.points.length cd0) := Kd.out.cell 0
    have vd1 : W0.cell? ⟨w.heap.size, 1, none⟩ = some (.slice Ad1 d.segs.length cd1) := Kd.out.cell 1
    have vs0 : W0.cell? ⟨w.heap.size + 1, 0, none⟩ = some (.string s.name) := Ks.out.cell 0
    have vs1 : W0.cell? ⟨w.heap.size + 1, 1, none⟩ = some (.int .i64 s.length) := Ks.out.cell 1
    have vs2 : W0.cell? ⟨w.heap.size + 1, 2, none⟩ = some (.int .i64 s.draught) := Ks.out.cell 2
    have vs3 : W0.cell? ⟨w.heap.size + 1, 3, none⟩ = some (.int .i64 s.line) := Ks.out.cell 3
    have vs4 : W0.cell? ⟨w.heap.size + 1, 4, none⟩ = some (.int .i64 s.tugs) := Ks.out.cell 4
    have vs5 : W0.cell? ⟨w.heap.size + 1, 5, none⟩ = some (.bool s.slow) := Ks.out.cell 5
    go_wp2_with fail
    rw [← HW0.out]
    clear vd0 vd1 vs0 vs1 vs2 vs3 vs4 vs5
    refine (specRouteMinutes _ _ d _ r _ (Rd.out.below B.out) (Rr.out.below B.out) Nd.out).mono ?_
    rw [HMI.out]
    rintro e w1 ⟨rfl, hb1⟩
    have B1 := Lib.hid (B.out.trans (hb1.mono B.out.size))
    have Kd_1 := Lib.hid (Kd.out.below hb1)
    have Ks_1 := Lib.hid (Ks.out.below hb1)
    clear hb1
    have vd0 : w1.cell? ⟨w.heap.size, 0, none⟩ = some (.slice Ad0 d.points.length cd0) := Kd_1.out.cell 0
    have vd1 : w1.cell? ⟨w.heap.size, 1, none⟩ = some (.slice Ad1 d.segs.length cd1) := Kd_1.out.cell 1
    have vs0 : w1.cell? ⟨w.heap.size + 1, 0, none⟩ = some (.string s.name) := Ks_1.out.cell 0
    have vs1 : w1.cell? ⟨w.heap.size + 1, 1, none⟩ = some (.int .i64 s.length) := Ks_1.out.cell 1
    have vs2 : w1.cell? ⟨w.heap.size + 1, 2, none⟩ = some (.int .i64 s.draught) := Ks_1.out.cell 2
    have vs3 : w1.cell? ⟨w.heap.size + 1, 3, none⟩ = some (.int .i64 s.line) := Ks_1.out.cell 3
    have vs4 : w1.cell? ⟨w.heap.size + 1, 4, none⟩ = some (.int .i64 s.tugs) := Ks_1.out.cell 4
    have vs5 : w1.cell? ⟨w.heap.size + 1, 5, none⟩ = some (.bool s.slow) := Ks_1.out.cell 5
    go_wp2_with fail
    clear vd0 vd1 vs0 vs1 vs2 vs3 vs4 vs5
    refine (specShipOk s _ Ns.out).mono ?_
    rw [H2.out]
    rintro e w2 ⟨rfl, hb2⟩
    have B2 := Lib.hid (B1.out.trans (hb2.mono B1.out.size))
    have Kd_2 := Lib.hid (Kd_1.out.below hb2)
    have Ks_2 := Lib.hid (Ks_1.out.below hb2)
    clear hb2
    go_wp2
    go_ret
    exact ⟨ret_int E.out.symm, B2.out⟩
  | false =>
  obtain ⟨n, hn⟩ : ∃ n, r.length = n + 1 := ⟨r.length - 1, by have : r.length ≠ 0 := fun e => (by have := H4.out; rw [e] at this; simp at this); omega⟩
  have hn2 : t.length = n + 1 := by have := H3.out; simp at this; omega
  obtain ⟨lt, hlt⟩ : ∃ x, t[n]? = some x := ⟨_, List.getElem?_eq_getElem (by omega)⟩
  obtain ⟨li, hli⟩ : ∃ x, r[n]? = some x := ⟨_, List.getElem?_eq_getElem (by omega)⟩
  have h1 := H1.out
  simp only [Bool.and_eq_true] at h1
  obtain ⟨hcb, hms⟩ := h1
  obtain ⟨ms, hms'⟩ := Option.isSome_iff_exists.1 hms
  obtain ⟨g, hg⟩ := minSum_seg hms' li (List.mem_of_getElem? hli)
  have HIN := Lib.hid (fun hin : inB lt 0 2880 = true => arrI_yes (d := d) (s := s) (route := r) (starts := t) hcb H2.out hms (hn.trans hn2.symm) (by intro e; rw [e] at hn; simp at hn) (last_at hn2 hlt) hin (last_at hn hli) hg)
  have HOUT := Lib.hid (fun hin : inB lt 0 2880 = false => arrI_no (d := d) (s := s) (route := r) (starts := t) (by rintro ⟨-, -, -, -, -, h⟩; rw [last_at hn2 hlt] at h; simp only [Option.getD_some] at h; rw [hin] at h; cases h))
  obtain ⟨hx, li0, lil⟩ := segAt_at hg
  obtain ⟨-, -, -, -, -, -, -, gm0, gm1⟩ := segB_true (chartB_seg hcb hx)
  obtain ⟨k, rfl⟩ : ∃ k : Nat, li = (k : Int) := ⟨li.toNat, by omega⟩
  simp only [Int.toNat_natCast] at hx lil
  have wr : IntKind.i64.wrap ((r.length : Int) - 1) = (n : Int) := by rw [IntKind.wrap_i64]; omega
  have wt : IntKind.i64.wrap ((t.length : Int) - 1) = (n : Int) := by rw [IntKind.wrap_i64]; omega
  have nr : n < r.length := by omega
  have nt : n < t.length := by omega
  rcases Rt.out.2 with ⟨he, _⟩ | ⟨gt, ot, ct', e, tpos, tcap, tc⟩
  · rw [he] at nt; simp at nt
  injection e with hA _ hcp
  subst hA hcp
  have yt := SlInt.cells tc n lt hlt
  rcases Rr.out.2 with ⟨he, _⟩ | ⟨gr, or', cr', e, rpos, rcap, rc⟩
  · rw [he] at nr; simp at nr
  injection e with hA _ hcp
  subst hA hcp
  have yr := SlInt.cells rc n _ hli
  rcases Rd.out.2.2 with ⟨he, _⟩ | ⟨g', o', c', e, dpos, dcap, dc⟩
  · rw [he] at lil; simp at lil
  injection e with hA _ hcp
  subst hA hcp
  obtain ⟨q0, q1, q2, q3, q4⟩ := SlSegment.cells dc k g hx
  have Zyt := Lib.hid yt
  have Zyr := Lib.hid yr
  have Zq0 := Lib.hid q0
  have Zq1 := Lib.hid q1
  have Zq2 := Lib.hid q2
  have Zq3 := Lib.hid q3
  have Zq4 := Lib.hid q4
  clear yt yr q0 q1 q2 q3 q4 tc rc dc hx hg hli hlt hms hms' hcb hn hn2 li0 H1 H3 H4
  go_enter Try.func25, Try.ntmps25
  have vd0 : W0.cell? ⟨w.heap.size, 0, none⟩ = some (.slice Ad0 d.points.length cd0) := Kd.out.cell 0
  have vd1 : W0.cell? ⟨w.heap.size, 1, none⟩ = some (.slice (some ⟨g', o', none⟩) d.segs.length cd1) := Kd.out.cell 1
  have vs0 : W0.cell? ⟨w.heap.size + 1, 0, none⟩ = some (.string s.name) := Ks.out.cell 0
  have vs1 : W0.cell? ⟨w.heap.size + 1, 1, none⟩ = some (.int .i64 s.length) := Ks.out.cell 1
  have vs2 : W0.cell? ⟨w.heap.size + 1, 2, none⟩ = some (.int .i64 s.draught) := Ks.out.cell 2
  have vs3 : W0.cell? ⟨w.heap.size + 1, 3, none⟩ = some (.int .i64 s.line) := Ks.out.cell 3
  have vs4 : W0.cell? ⟨w.heap.size + 1, 4, none⟩ = some (.int .i64 s.tugs) := Ks.out.cell 4
  have vs5 : W0.cell? ⟨w.heap.size + 1, 5, none⟩ = some (.bool s.slow) := Ks.out.cell 5
  go_wp2_with fail
  rw [← HW0.out]
  clear vd0 vd1 vs0 vs1 vs2 vs3 vs4 vs5
  refine (specRouteMinutes _ _ d _ r _ (Rd.out.below B.out) (Rr.out.below B.out) Nd.out).mono ?_
  rw [HMI.out]
  rintro e w1 ⟨rfl, hb1⟩
  have B1 := Lib.hid (B.out.trans (hb1.mono B.out.size))
  have Kd_1 := Lib.hid (Kd.out.below hb1)
  have Ks_1 := Lib.hid (Ks.out.below hb1)
  clear hb1
  have vd0 : w1.cell? ⟨w.heap.size, 0, none⟩ = some (.slice Ad0 d.points.length cd0) := Kd_1.out.cell 0
  have vd1 : w1.cell? ⟨w.heap.size, 1, none⟩ = some (.slice (some ⟨g', o', none⟩) d.segs.length cd1) := Kd_1.out.cell 1
  have vs0 : w1.cell? ⟨w.heap.size + 1, 0, none⟩ = some (.string s.name) := Ks_1.out.cell 0
  have vs1 : w1.cell? ⟨w.heap.size + 1, 1, none⟩ = some (.int .i64 s.length) := Ks_1.out.cell 1
  have vs2 : w1.cell? ⟨w.heap.size + 1, 2, none⟩ = some (.int .i64 s.draught) := Ks_1.out.cell 2
  have vs3 : w1.cell? ⟨w.heap.size + 1, 3, none⟩ = some (.int .i64 s.line) := Ks_1.out.cell 3
  have vs4 : w1.cell? ⟨w.heap.size + 1, 4, none⟩ = some (.int .i64 s.tugs) := Ks_1.out.cell 4
  have vs5 : w1.cell? ⟨w.heap.size + 1, 5, none⟩ = some (.bool s.slow) := Ks_1.out.cell 5
  go_wp2_with fail
  clear vd0 vd1 vs0 vs1 vs2 vs3 vs4 vs5
  refine (specShipOk s _ Ns.out).mono ?_
  rw [H2.out]
  rintro e w2 ⟨rfl, hb2⟩
  have B2 := Lib.hid (B1.out.trans (hb2.mono B1.out.size))
  have Kd_2 := Lib.hid (Kd_1.out.below hb2)
  have Ks_2 := Lib.hid (Ks_1.out.below hb2)
  clear hb2
  have vd0 : w2.cell? ⟨w.heap.size, 0, none⟩ = some (.slice Ad0 d.points.length cd0) := Kd_2.out.cell 0
  have vd1 : w2.cell? ⟨w.heap.size, 1, none⟩ = some (.slice (some ⟨g', o', none⟩) d.segs.length cd1) := Kd_2.out.cell 1
  have vs0 : w2.cell? ⟨w.heap.size + 1, 0, none⟩ = some (.string s.name) := Ks_2.out.cell 0
  have vs1 : w2.cell? ⟨w.heap.size + 1, 1, none⟩ = some (.int .i64 s.length) := Ks_2.out.cell 1
  have vs2 : w2.cell? ⟨w.heap.size + 1, 2, none⟩ = some (.int .i64 s.draught) := Ks_2.out.cell 2
  have vs3 : w2.cell? ⟨w.heap.size + 1, 3, none⟩ = some (.int .i64 s.line) := Ks_2.out.cell 3
  have vs4 : w2.cell? ⟨w.heap.size + 1, 4, none⟩ = some (.int .i64 s.tugs) := Ks_2.out.cell 4
  have vs5 : w2.cell? ⟨w.heap.size + 1, 5, none⟩ = some (.bool s.slow) := Ks_2.out.cell 5
  have yt := cell_onV Zyt.out B2.out
  have yr := cell_onV Zyr.out B2.out
  have q0 := cell_onV Zq0.out B2.out
  have q1 := cell_onV Zq1.out B2.out
  have q2 := cell_onV Zq2.out B2.out
  have q3 := cell_onV Zq3.out B2.out
  have q4 := cell_onV Zq4.out B2.out
  go_wp2_with fail
  clear vd0 vd1 vs0 vs1 vs2 vs3 vs4 vs5 yt yr q0 q1 q2 q3 q4
  obtain ⟨ib, hib⟩ : ∃ b, inB lt 0 2880 = b := ⟨_, rfl⟩
  refine (l01In_any _ _ _ _).mono ?_
  rw [hib]
  rintro e wz ⟨rfl, rfl⟩
  have HIB := Lib.hid hib
  cases ib with
  | false =>
    have E := Lib.hid (HOUT.out HIB.out)
    clear hib
    go_wp2
    go_ret
    exact ⟨ret_int E.out.symm, B2.out⟩
  | true =>
    have E := Lib.hid (HIN.out HIB.out)
    have tb : 0 ≤ lt ∧ lt ≤ 2880 := of_decide_eq_true hib
    obtain ⟨t0, t1⟩ := tb
    clear hib
    have wsum : IntKind.i64.wrap (lt + onMin g s) = lt + onMin g s := by have h0 : 0 ≤ onMin g s ∧ onMin g s ≤ 480 := (by unfold onMin; split <;> omega); rw [IntKind.wrap_i64]; omega
    have Fyr := Lib.hid (show w2.cell? ⟨gr, or' + n, none⟩ = some (.int .i64 (k : Int)) from cell_onV Zyr.out B2.out)
    have Fq0 := Lib.hid (show w2.cell? ⟨g', o' + k * 5, none⟩ = some (.int .i64 g.a) from cell_onV Zq0.out B2.out)
    have Fq1 := Lib.hid (show w2.cell? ⟨g', o' + k * 5 + 1, none⟩ = some (.int .i64 g.b) from cell_onV Zq1.out B2.out)
    have Fq2 := Lib.hid (show w2.cell? ⟨g', o' + k * 5 + 2, none⟩ = some (.int .i64 g.depth) from cell_onV Zq2.out B2.out)
    have Fq3 := Lib.hid (show w2.cell? ⟨g', o' + k * 5 + 3, none⟩ = some (.int .i64 g.minutes) from cell_onV Zq3.out B2.out)
    have Fq4 := Lib.hid (show w2.cell? ⟨g', o' + k * 5 + 4, none⟩ = some (.bool g.meet) from cell_onV Zq4.out B2.out)
    have Fd0 := Lib.hid (show w2.cell? ⟨w.heap.size, 0, none⟩ = some (.slice Ad0 d.points.length cd0) from Kd_2.out.cell 0)
    have Fd1 := Lib.hid (show w2.cell? ⟨w.heap.size, 1, none⟩ = some (.slice (some ⟨g', o', none⟩) d.segs.length cd1) from Kd_2.out.cell 1)
    have Fs0 := Lib.hid (show w2.cell? ⟨w.heap.size + 1, 0, none⟩ = some (.string s.name) from Ks_2.out.cell 0)
    have Fs1 := Lib.hid (show w2.cell? ⟨w.heap.size + 1, 1, none⟩ = some (.int .i64 s.length) from Ks_2.out.cell 1)
    have Fs2 := Lib.hid (show w2.cell? ⟨w.heap.size + 1, 2, none⟩ = some (.int .i64 s.draught) from Ks_2.out.cell 2)
    have Fs3 := Lib.hid (show w2.cell? ⟨w.heap.size + 1, 3, none⟩ = some (.int .i64 s.line) from Ks_2.out.cell 3)
    have Fs4 := Lib.hid (show w2.cell? ⟨w.heap.size + 1, 4, none⟩ = some (.int .i64 s.tugs) from Ks_2.out.cell 4)
    have Fs5 := Lib.hid (show w2.cell? ⟨w.heap.size + 1, 5, none⟩ = some (.bool s.slow) from Ks_2.out.cell 5)
    have DD := Lib.hid ((Below.refl w2.heap.size w2).drew)
    have vFd0 := Fd0.out
    have vFd1 := Fd1.out
    have vFs0 := Fs0.out
    have vFs1 := Fs1.out
    have vFs2 := Fs2.out
    have vFs3 := Fs3.out
    have vFs4 := Fs4.out
    have vFs5 := Fs5.out
    have vFyr := Fyr.out
    have vFq0 := Fq0.out
    have vFq1 := Fq1.out
    have vFq2 := Fq2.out
    have vFq3 := Fq3.out
    have vFq4 := Fq4.out
    go_upto_region 6 with fail
    refine wp_region_held_drew (S := (fun w' => w'.cell? ⟨w.heap.size, 0, none⟩ = some (.slice Ad0 d.points.length cd0) ∧ w'.cell? ⟨w.heap.size, 1, none⟩ = some (.slice (some ⟨g', o', none⟩) d.segs.length cd1) ∧ w'.cell? ⟨w.heap.size + 1, 0, none⟩ = some (.string s.name) ∧ w'.cell? ⟨w.heap.size + 1, 1, none⟩ = some (.int .i64 s.length) ∧ w'.cell? ⟨w.heap.size + 1, 2, none⟩ = some (.int .i64 s.draught) ∧ w'.cell? ⟨w.heap.size + 1, 3, none⟩ = some (.int .i64 s.line) ∧ w'.cell? ⟨w.heap.size + 1, 4, none⟩ = some (.int .i64 s.tugs) ∧ w'.cell? ⟨w.heap.size + 1, 5, none⟩ = some (.bool s.slow) ∧ w'.cell? ⟨gr, or' + n, none⟩ = some (.int .i64 (k : Int)) ∧ w'.cell? ⟨g', o' + k * 5, none⟩ = some (.int .i64 g.a) ∧ w'.cell? ⟨g', o' + k * 5 + 1, none⟩ = some (.int .i64 g.b) ∧ w'.cell? ⟨g', o' + k * 5 + 2, none⟩ = some (.int .i64 g.depth) ∧ w'.cell? ⟨g', o' + k * 5 + 3, none⟩ = some (.int .i64 g.minutes) ∧ w'.cell? ⟨g', o' + k * 5 + 4, none⟩ = some (.bool g.meet) ∧ Hid (Below w2.heap.size w2 w'))) (by kernel_rfl) ?_ (fun hHeld => ?_)
    · (try dsimp only); go_keep
    refine wpAnyH_take (i := 0) (v := ?_) (by simp only [List.getElem?_toArray, List.getElem?_cons_zero]; rfl) (by kernel_rfl) (by kernel_rfl) (by kernel_rfl) (by exact fun _ _ _ h => h) (Or.inl ⟨by rfl, ?_⟩) (by assumption) ?_; rotate_left; focus (intro w hSw; (try dsimp only at hSw); first | (go_simp; done) | (go_simp; with_reducible rfl))
    try simp only [Act.put, List.setIfInBounds_toArray, List.set_cons_zero, List.set_cons_succ]
    refine wpAnyH_take (i := 1) (v := ?_) (by simp only [List.getElem?_toArray, List.getElem?_cons_succ, List.getElem?_cons_zero]; rfl) (by kernel_rfl) (by kernel_rfl) (by kernel_rfl) (by exact fun _ _ _ h => h) (Or.inl ⟨by rfl, ?_⟩) (by assumption) ?_; rotate_left; focus (intro w hSw; (try dsimp only at hSw); first | (go_simp; done) | (go_simp; with_reducible rfl))
    try simp only [Act.put, List.setIfInBounds_toArray, List.set_cons_zero, List.set_cons_succ]
    refine wpAnyH_take (i := 2) (v := ?_) (by simp only [List.getElem?_toArray, List.getElem?_cons_succ, List.getElem?_cons_zero]; rfl) (by kernel_rfl) (by kernel_rfl) (by kernel_rfl) (by exact fun _ _ _ h => h) (Or.inl ⟨by rfl, ?_⟩) (by assumption) ?_; rotate_left; focus (intro w hSw; (try dsimp only at hSw); first | (go_simp; done) | (go_simp; with_reducible rfl))
    try simp only [Act.put, List.setIfInBounds_toArray, List.set_cons_zero, List.set_cons_succ]
    refine wpAnyH_take (i := 3) (v := ?_) (by simp only [List.getElem?_toArray, List.getElem?_cons_succ, List.getElem?_cons_zero]; rfl) (by kernel_rfl) (by kernel_rfl) (by kernel_rfl) (by exact fun _ _ _ h => h) (Or.inl ⟨by rfl, ?_⟩) (by assumption) ?_; rotate_left; focus (intro w hSw; (try dsimp only at hSw); first | (go_simp; done) | (go_simp; with_reducible rfl))
    try simp only [Act.put, List.setIfInBounds_toArray, List.set_cons_zero, List.set_cons_succ]
    refine wpAnyH_take (i := 4) (v := ?_) (by simp only [List.getElem?_toArray, List.getElem?_cons_succ, List.getElem?_cons_zero]; rfl) (by kernel_rfl) (by kernel_rfl) (by kernel_rfl) (by exact fun _ _ _ h => h) (Or.inl ⟨by rfl, ?_⟩) (by assumption) ?_; rotate_left; focus (intro w hSw; (try dsimp only at hSw); first | (go_simp; done) | (go_simp; with_reducible rfl))
    try simp only [Act.put, List.setIfInBounds_toArray, List.set_cons_zero, List.set_cons_succ]
    refine wpAnyH_take (i := 5) (v := ?_) (by simp only [List.getElem?_toArray, List.getElem?_cons_succ, List.getElem?_cons_zero]; rfl) (by kernel_rfl) (by kernel_rfl) (by kernel_rfl) (by exact fun _ _ _ h => h) (Or.inl ⟨by rfl, ?_⟩) (by assumption) ?_; rotate_left; focus (intro w hSw; (try dsimp only at hSw); first | (go_simp; done) | (go_simp; with_reducible rfl))
    try simp only [Act.put, List.setIfInBounds_toArray, List.set_cons_zero, List.set_cons_succ]
    refine wpAnyH_take (i := 6) (v := ?_) (by simp only [List.getElem?_toArray, List.getElem?_cons_succ, List.getElem?_cons_zero]; rfl) (by kernel_rfl) (by kernel_rfl) (by kernel_rfl) (by exact fun _ _ _ h => h) (Or.inl ⟨by rfl, ?_⟩) (by assumption) ?_; rotate_left; focus (intro w hSw; (try dsimp only at hSw); first | (go_simp; done) | (go_simp; with_reducible rfl))
    try simp only [Act.put, List.setIfInBounds_toArray, List.set_cons_zero, List.set_cons_succ]
    refine wpAnyH_take (i := 7) (v := ?_) (by simp only [List.getElem?_toArray, List.getElem?_cons_succ, List.getElem?_cons_zero]; rfl) (by kernel_rfl) (by kernel_rfl) (by kernel_rfl) (by exact fun _ _ _ h => h) (Or.inl ⟨by rfl, ?_⟩) (by assumption) ?_; rotate_left; focus (intro w hSw; (try dsimp only at hSw); first | (go_simp; done) | (go_simp; with_reducible rfl))
    try simp only [Act.put, List.setIfInBounds_toArray, List.set_cons_zero, List.set_cons_succ]
    refine wpAnyH_take (i := 8) (v := ?_) (by simp only [List.getElem?_toArray, List.getElem?_cons_succ, List.getElem?_cons_zero]; rfl) (by kernel_rfl) (by kernel_rfl) (by kernel_rfl) (by exact fun _ _ _ h => h) (Or.inl ⟨by rfl, ?_⟩) (by assumption) ?_; rotate_left; focus (intro w hSw; (try dsimp only at hSw); first | (go_simp; done) | (go_simp; with_reducible rfl))
    try simp only [Act.put, List.setIfInBounds_toArray, List.set_cons_zero, List.set_cons_succ]
    refine wpAnyH_take (i := 9) (v := ?_) (by simp only [List.getElem?_toArray, List.getElem?_cons_succ, List.getElem?_cons_zero]; rfl) (by kernel_rfl) (by kernel_rfl) (by kernel_rfl) (by exact fun _ _ _ h => h) (Or.inl ⟨by rfl, ?_⟩) (by assumption) ?_; rotate_left; focus (intro w hSw; (try dsimp only at hSw); first | (go_simp; done) | (go_simp; with_reducible rfl))
    try simp only [Act.put, List.setIfInBounds_toArray, List.set_cons_zero, List.set_cons_succ]
    refine wpAnyH_take (i := 10) (v := ?_) (by simp only [List.getElem?_toArray, List.getElem?_cons_succ, List.getElem?_cons_zero]; rfl) (by kernel_rfl) (by kernel_rfl) (by kernel_rfl) (by exact fun _ _ _ h => h) (Or.inl ⟨by rfl, ?_⟩) (by assumption) ?_; rotate_left; focus (intro w hSw; (try dsimp only at hSw); first | (go_simp; done) | (go_simp; with_reducible rfl))
    try simp only [Act.put, List.setIfInBounds_toArray, List.set_cons_zero, List.set_cons_succ]
    refine wpAnyH_take (i := 11) (v := ?_) (by simp only [List.getElem?_toArray, List.getElem?_cons_succ, List.getElem?_cons_zero]; rfl) (by kernel_rfl) (by kernel_rfl) (by kernel_rfl) (by exact fun _ _ _ h => h) (Or.inl ⟨by rfl, ?_⟩) (by assumption) ?_; rotate_left; focus (intro w hSw; (try dsimp only at hSw); first | (go_simp; done) | (go_simp; with_reducible rfl))
    try simp only [Act.put, List.setIfInBounds_toArray, List.set_cons_zero, List.set_cons_succ]
    refine wpAnyH_ready (rs := [12]) (by kernel_rfl) (by simp) ?_
    refine AllReadyH.cons rfl (fun K hK => ?_) AllReadyH.nil
    rw [if_pos (by rfl)]
    go_simp
    go_at_call 72
    have kB := hHeld.2.2.2.2.2.2.2.2.2.2.2.2.2.2
    refine (l06Minutes_any g s _ (by omega) gm1).mono ?_
    rintro e wq2_12 ⟨rfl, hbk⟩
    have HBK := kB.out.trans (hbk.mono kB.out.size)
    have QS := Lib.hid (show wq2_12.cell? ⟨w.heap.size, 0, none⟩ = some (.slice Ad0 d.points.length cd0) ∧ wq2_12.cell? ⟨w.heap.size, 1, none⟩ = some (.slice (some ⟨g', o', none⟩) d.segs.length cd1) ∧ wq2_12.cell? ⟨w.heap.size + 1, 0, none⟩ = some (.string s.name) ∧ wq2_12.cell? ⟨w.heap.size + 1, 1, none⟩ = some (.int .i64 s.length) ∧ wq2_12.cell? ⟨w.heap.size + 1, 2, none⟩ = some (.int .i64 s.draught) ∧ wq2_12.cell? ⟨w.heap.size + 1, 3, none⟩ = some (.int .i64 s.line) ∧ wq2_12.cell? ⟨w.heap.size + 1, 4, none⟩ = some (.int .i64 s.tugs) ∧ wq2_12.cell? ⟨w.heap.size + 1, 5, none⟩ = some (.bool s.slow) ∧ wq2_12.cell? ⟨gr, or' + n, none⟩ = some (.int .i64 (k : Int)) ∧ wq2_12.cell? ⟨g', o' + k * 5, none⟩ = some (.int .i64 g.a) ∧ wq2_12.cell? ⟨g', o' + k * 5 + 1, none⟩ = some (.int .i64 g.b) ∧ wq2_12.cell? ⟨g', o' + k * 5 + 2, none⟩ = some (.int .i64 g.depth) ∧ wq2_12.cell? ⟨g', o' + k * 5 + 3, none⟩ = some (.int .i64 g.minutes) ∧ wq2_12.cell? ⟨g', o' + k * 5 + 4, none⟩ = some (.bool g.meet) ∧ Hid (Below w2.heap.size w2 wq2_12) from ⟨cell_onV Fd0.out HBK, cell_onV Fd1.out HBK, cell_onV Fs0.out HBK, cell_onV Fs1.out HBK, cell_onV Fs2.out HBK, cell_onV Fs3.out HBK, cell_onV Fs4.out HBK, cell_onV Fs5.out HBK, cell_onV Fyr.out HBK, cell_onV Fq0.out HBK, cell_onV Fq1.out HBK, cell_onV Fq2.out HBK, cell_onV Fq3.out HBK, cell_onV Fq4.out HBK, Lib.hid HBK⟩)
    clear hbk kB hHeld HBK
    go_simp
    refine hK.out _ _ ?_ (fun hHeld => ?_)
    · (try dsimp only); exact QS.out
    clear hK K
    try simp only [Act.put, List.setIfInBounds_toArray, List.set_cons_zero, List.set_cons_succ]
    refine wpAnyH_take (i := 13) (v := ?_) (by simp only [List.getElem?_toArray, List.getElem?_cons_succ, List.getElem?_cons_zero]; rfl) (by kernel_rfl) (by kernel_rfl) (by kernel_rfl) (by exact fun _ _ _ h => h) (Or.inl ⟨by rfl, ?_⟩) (by assumption) ?_; rotate_left; focus (intro w hSw; (try dsimp only at hSw); first | (go_simp; done) | (go_simp; with_reducible rfl))
    try simp only [Act.put, List.setIfInBounds_toArray, List.set_cons_zero, List.set_cons_succ]
    refine wpAnyH_take (i := 14) (v := ?_) (by simp only [List.getElem?_toArray, List.getElem?_cons_succ, List.getElem?_cons_zero]; rfl) (by kernel_rfl) (by kernel_rfl) (by kernel_rfl) (by exact fun _ _ _ h => h) (Or.inl ⟨by rfl, ?_⟩) (by assumption) ?_; rotate_left; focus (intro w hSw; (try dsimp only at hSw); first | (go_simp; done) | (go_simp; with_reducible rfl))
    try simp only [Act.put, List.setIfInBounds_toArray, List.set_cons_zero, List.set_cons_succ]
    refine wpAnyH_done (by kernel_rfl) ?_ _
    go_wp2
    go_ret
    exact ⟨ret_int E.out.symm, B2.out.trans (hHeld.2.2.2.2.2.2.2.2.2.2.2.2.2.2.out.mono B2.out.size)⟩
set_option maxHeartbeats 8000000 in
theorem specPassagesOf (yd0 yd1 : Value) (d : ChartD) (sh : Int) (s : ShipD) (fr : Int) (yr : Value) (r : List Int) (yt : Value) (t : List Int) (w : World) (rd : RdChart w yd0 yd1 d) (rr : SlInt w yr r) (rt : SlInt w yt t) (fd : ∀ x ∈ d.points, PointD.wf x) (fs : s.wf) :
    Calls Try.prog 29 #[.agg #[yd0, yd1], .int .i64 sh, s.val, .int .i64 fr, yr, yt] w (NewPassage (passL d sh s fr r t) w) := by
  have Rd := Lib.hid rd
  obtain ⟨rd0, rd1⟩ := rd
  obtain ⟨Ad0, cd0, rfl⟩ := SlOf.form rd0
  obtain ⟨Ad1, cd1, rfl⟩ := SlOf.form rd1
  have Nd := Lib.hid fd
  clear fd
  clear rd0 rd1
  have Ns := Lib.hid fs
  clear fs
  have Rr := Lib.hid rr
  obtain ⟨Ar, cr, rfl⟩ := SlOf.form rr
  clear rr
  have Rt := Lib.hid rt
  obtain ⟨At, ct, rfl⟩ := SlOf.form rt
  clear rt
  obtain ⟨W0, hW0⟩ : ∃ W0, W0 = ((w.alloc (.cells #[.slice Ad0 d.points.length cd0, .slice Ad1 d.segs.length cd1] 32)).alloc (.cells #[.string s.name, .int .i64 s.length, .int .i64 s.draught, .int .i64 s.line, .int .i64 s.tugs, .bool s.slow] 46)) := ⟨_, rfl⟩
  have B := Lib.hid ((Joins.below_alloc1 w (.cells #[.slice Ad0 d.points.length cd0, .slice Ad1 d.segs.length cd1] 32)).trans ((Joins.below_alloc1 (w.alloc (.cells #[.slice Ad0 d.points.length cd0, .slice Ad1 d.segs.length cd1] 32)) (.cells #[.string s.name, .int .i64 s.length, .int .i64 s.draught, .int .i64 s.line, .int .i64 s.tugs, .bool s.slow] 46)).mono (by simp; try omega)))
  have Kd := Lib.hid ((Blk.new w #[.slice Ad0 d.points.length cd0, .slice Ad1 d.segs.length cd1] 32).below (Joins.below_alloc1 _ (.cells #[.string s.name, .int .i64 s.length, .int .i64 s.draught, .int .i64 s.line, .int .i64 s.tugs, .bool s.slow] 46)))
  have Ks := Lib.hid (Blk.new (w.alloc (.cells #[.slice Ad0 d.points.length cd0, .slice Ad1 d.segs.length cd1] 32)) #[.string s.name, .int .i64 s.length, .int .i64 s.draught, .int .i64 s.line, .int .i64 s.tugs, .bool s.slow] 46)
  rw [World.size_alloc] at Ks
  have HW0 := Lib.hid hW0
  rw [← hW0] at B Kd Ks
  clear hW0
  have hdl := Rd.out.2.1
  have hrl := Rr.out.1
  have htl := Rt.out.1
  obtain ⟨i0, hin0, hz0, hz1, hz2⟩ := info_parts info_passage
  have HI := Lib.hid (And.intro hin0 (And.intro hz0 (And.intro hz1 hz2)))
  clear hin0 hz0 hz1 hz2
  obtain ⟨b1, hb1⟩ : ∃ b, routeB d fr r = b := ⟨_, rfl⟩
  have H1 := Lib.hid hb1
  obtain ⟨b2, hb2⟩ : ∃ b, shipB s = b := ⟨_, rfl⟩
  have H2 := Lib.hid hb2
  obtain ⟨b3, hb3⟩ : ∃ b, ((r.length : Int) == (t.length : Int)) = b := ⟨_, rfl⟩
  have H3 := Lib.hid hb3
  have hb3' : ((r.length : Int) != (t.length : Int)) = !b3 := by rw [bne, hb3]
  have HP := Lib.hid (show passPre' d s fr r t = (b1 && b2 && b3) by unfold passPre'; rw [hb1, hb2, ← hb3]; congr 1; by_cases e : r.length = t.length <;> simp [e]; omega)
  clear hb1 hb2
  cases b1 with
  | false =>
    have E := Lib.hid (passL_bad (ship := sh) (HP.out.trans (by simp)))
    clear HP
    go_enter Try.func29, Try.ntmps29
    have vd0 : W0.cell? ⟨w.heap.size, 0, none⟩ = some (.slice Ad0 d.points.length cd0) := Kd.out.cell 0
    have vd1 : W0.cell? ⟨w.heap.size, 1, none⟩ = some (.slice Ad1 d.segs.length cd1) := Kd.out.cell 1
    have vs0 : W0.cell? ⟨w.heap.size + 1, 0, none⟩ = some (.string s.name) := Ks.out.cell 0
    have vs1 : W0.cell? ⟨w.heap.size + 1, 1, none⟩ = some (.int .i64 s.length) := Ks.out.cell 1
    have vs2 : W0.cell? ⟨w.heap.size + 1, 2, none⟩ = some (.int .i64 s.draught) := Ks.out.cell 2
    have vs3 : W0.cell? ⟨w.heap.size + 1, 3, none⟩ = some (.int .i64 s.line) := Ks.out.cell 3
    have vs4 : W0.cell? ⟨w.heap.size + 1, 4, none⟩ = some (.int .i64 s.tugs) := Ks.out.cell 4
    have vs5 : W0.cell? ⟨w.heap.size + 1, 5, none⟩ = some (.bool s.slow) := Ks.out.cell 5
    go_wp2_with fail
    rw [← HW0.out]
    clear vd0 vd1 vs0 vs1 vs2 vs3 vs4 vs5
    refine (specRouteOk _ _ d fr _ r _ (Rd.out.below B.out) (Rr.out.below B.out) Nd.out).mono ?_
    rw [H1.out]
    rintro e w1 ⟨rfl, hb1⟩
    have B1 := Lib.hid (B.out.trans (hb1.mono B.out.size))
    have Kd_1 := Lib.hid (Kd.out.below hb1)
    have Ks_1 := Lib.hid (Ks.out.below hb1)
    have BW1 := Lib.hid hb1
    clear hb1
    go_wp2
    go_ret
    exact ⟨_, rfl, by rw [E.out]; exact (GathO.empty (cs := PassageD.cells) (t := 67) (k := 5) B1.out).1, B1.out⟩
  | true =>
  cases b2 with
  | false =>
    have E := Lib.hid (passL_bad (ship := sh) (HP.out.trans (by simp)))
    clear HP
    go_enter Try.func29, Try.ntmps29
    have vd0 : W0.cell? ⟨w.heap.size, 0, none⟩ = some (.slice Ad0 d.points.length cd0) := Kd.out.cell 0
    have vd1 : W0.cell? ⟨w.heap.size, 1, none⟩ = some (.slice Ad1 d.segs.length cd1) := Kd.out.cell 1
    have vs0 : W0.cell? ⟨w.heap.size + 1, 0, none⟩ = some (.string s.name) := Ks.out.cell 0
    have vs1 : W0.cell? ⟨w.heap.size + 1, 1, none⟩ = some (.int .i64 s.length) := Ks.out.cell 1
    have vs2 : W0.cell? ⟨w.heap.size + 1, 2, none⟩ = some (.int .i64 s.draught) := Ks.out.cell 2
    have vs3 : W0.cell? ⟨w.heap.size + 1, 3, none⟩ = some (.int .i64 s.line) := Ks.out.cell 3
    have vs4 : W0.cell? ⟨w.heap.size + 1, 4, none⟩ = some (.int .i64 s.tugs) := Ks.out.cell 4
    have vs5 : W0.cell? ⟨w.heap.size + 1, 5, none⟩ = some (.bool s.slow) := Ks.out.cell 5
    go_wp2_with fail
    rw [← HW0.out]
    clear vd0 vd1 vs0 vs1 vs2 vs3 vs4 vs5
    refine (specRouteOk _ _ d fr _ r _ (Rd.out.below B.out) (Rr.out.below B.out) Nd.out).mono ?_
    rw [H1.out]
    rintro e w1 ⟨rfl, hb1⟩
    have B1 := Lib.hid (B.out.trans (hb1.mono B.out.size))
    have Kd_1 := Lib.hid (Kd.out.below hb1)
    have Ks_1 := Lib.hid (Ks.out.below hb1)
    have BW1 := Lib.hid hb1
    clear hb1
    have vd0 : w1.cell? ⟨w.heap.size, 0, none⟩ = some (.slice Ad0 d.points.length cd0) := Kd_1.out.cell 0
    have vd1 : w1.cell? ⟨w.heap.size, 1, none⟩ = some (.slice Ad1 d.segs.length cd1) := Kd_1.out.cell 1
    have vs0 : w1.cell? ⟨w.heap.size + 1, 0, none⟩ = some (.string s.name) := Ks_1.out.cell 0
    have vs1 : w1.cell? ⟨w.heap.size + 1, 1, none⟩ = some (.int .i64 s.length) := Ks_1.out.cell 1
    have vs2 : w1.cell? ⟨w.heap.size + 1, 2, none⟩ = some (.int .i64 s.draught) := Ks_1.out.cell 2
    have vs3 : w1.cell? ⟨w.heap.size + 1, 3, none⟩ = some (.int .i64 s.line) := Ks_1.out.cell 3
    have vs4 : w1.cell? ⟨w.heap.size + 1, 4, none⟩ = some (.int .i64 s.tugs) := Ks_1.out.cell 4
    have vs5 : w1.cell? ⟨w.heap.size + 1, 5, none⟩ = some (.bool s.slow) := Ks_1.out.cell 5
    go_wp2_with fail
    clear vd0 vd1 vs0 vs1 vs2 vs3 vs4 vs5
    refine (specShipOk s _ Ns.out).mono ?_
    rw [H2.out]
    rintro e w2 ⟨rfl, hb2⟩
    have B2 := Lib.hid (B1.out.trans (hb2.mono B1.out.size))
    have Kd_2 := Lib.hid (Kd_1.out.below hb2)
    have Ks_2 := Lib.hid (Ks_1.out.below hb2)
    have BW2 := Lib.hid (BW1.out.trans (hb2.mono BW1.out.size))
    clear hb2
    go_wp2
    go_ret
    exact ⟨_, rfl, by rw [E.out]; exact (GathO.empty (cs := PassageD.cells) (t := 67) (k := 5) B2.out).1, B2.out⟩
  | true =>
  cases b3 with
  | false =>
    have E := Lib.hid (passL_bad (ship := sh) (HP.out.trans (by simp)))
    clear HP
    go_enter Try.func29, Try.ntmps29
    have vd0 : W0.cell? ⟨w.heap.size, 0, none⟩ = some (.slice Ad0 d.points.length cd0) := Kd.out.cell 0
    have vd1 : W0.cell? ⟨w.heap.size, 1, none⟩ = some (.slice Ad1 d.segs.length cd1) := Kd.out.cell 1
    have vs0 : W0.cell? ⟨w.heap.size + 1, 0, none⟩ = some (.string s.name) := Ks.out.cell 0
    have vs1 : W0.cell? ⟨w.heap.size + 1, 1, none⟩ = some (.int .i64 s.length) := Ks.out.cell 1
    have vs2 : W0.cell? ⟨w.heap.size + 1, 2, none⟩ = some (.int .i64 s.draught) := Ks.out.cell 2
    have vs3 : W0.cell? ⟨w.heap.size + 1, 3, none⟩ = some (.int .i64 s.line) := Ks.out.cell 3
    have vs4 : W0.cell? ⟨w.heap.size + 1, 4, none⟩ = some (.int .i64 s.tugs) := Ks.out.cell 4
    have vs5 : W0.cell? ⟨w.heap.size + 1, 5, none⟩ = some (.bool s.slow) := Ks.out.cell 5
    go_wp2_with fail
    rw [← HW0.out]
    clear vd0 vd1 vs0 vs1 vs2 vs3 vs4 vs5
    refine (specRouteOk _ _ d fr _ r _ (Rd.out.below B.out) (Rr.out.below B.out) Nd.out).mono ?_
    rw [H1.out]
    rintro e w1 ⟨rfl, hb1⟩
    have B1 := Lib.hid (B.out.trans (hb1.mono B.out.size))
    have Kd_1 := Lib.hid (Kd.out.below hb1)
    have Ks_1 := Lib.hid (Ks.out.below hb1)
    have BW1 := Lib.hid hb1
    clear hb1
    have vd0 : w1.cell? ⟨w.heap.size, 0, none⟩ = some (.slice Ad0 d.points.length cd0) := Kd_1.out.cell 0
    have vd1 : w1.cell? ⟨w.heap.size, 1, none⟩ = some (.slice Ad1 d.segs.length cd1) := Kd_1.out.cell 1
    have vs0 : w1.cell? ⟨w.heap.size + 1, 0, none⟩ = some (.string s.name) := Ks_1.out.cell 0
    have vs1 : w1.cell? ⟨w.heap.size + 1, 1, none⟩ = some (.int .i64 s.length) := Ks_1.out.cell 1
    have vs2 : w1.cell? ⟨w.heap.size + 1, 2, none⟩ = some (.int .i64 s.draught) := Ks_1.out.cell 2
    have vs3 : w1.cell? ⟨w.heap.size + 1, 3, none⟩ = some (.int .i64 s.line) := Ks_1.out.cell 3
    have vs4 : w1.cell? ⟨w.heap.size + 1, 4, none⟩ = some (.int .i64 s.tugs) := Ks_1.out.cell 4
    have vs5 : w1.cell? ⟨w.heap.size + 1, 5, none⟩ = some (.bool s.slow) := Ks_1.out.cell 5
    go_wp2_with fail
    clear vd0 vd1 vs0 vs1 vs2 vs3 vs4 vs5
    refine (specShipOk s _ Ns.out).mono ?_
    rw [H2.out]
    rintro e w2 ⟨rfl, hb2⟩
    have B2 := Lib.hid (B1.out.trans (hb2.mono B1.out.size))
    have Kd_2 := Lib.hid (Kd_1.out.below hb2)
    have Ks_2 := Lib.hid (Ks_1.out.below hb2)
    have BW2 := Lib.hid (BW1.out.trans (hb2.mono BW1.out.size))
    clear hb2
    go_wp2
    go_ret
    exact ⟨_, rfl, by rw [E.out]; exact (GathO.empty (cs := PassageD.cells) (t := 67) (k := 5) B2.out).1, B2.out⟩
  | true =>
  have E0 := Lib.hid (passL_ok (ship := sh) (HP.out.trans (by simp)))
  obtain ⟨hcb, hpl, hpin, hsin⟩ := route_facts H1.out
  obtain ⟨pts, hpts⟩ : ∃ p, rteL d fr r = p := ⟨_, rfl⟩
  have HPT := Lib.hid hpts
  rw [hpts] at hpl E0
  have HPL := Lib.hid hpl
  have HSI := Lib.hid hsin
  have HCB := Lib.hid hcb
  have HTL := Lib.hid (show t.length = r.length by have := H3.out; simp at this; omega)
  clear HP hpl hpin hsin hpts hcb
  go_enter Try.func29, Try.ntmps29
  have vd0 : W0.cell? ⟨w.heap.size, 0, none⟩ = some (.slice Ad0 d.points.length cd0) := Kd.out.cell 0
  have vd1 : W0.cell? ⟨w.heap.size, 1, none⟩ = some (.slice Ad1 d.segs.length cd1) := Kd.out.cell 1
  have vs0 : W0.cell? ⟨w.heap.size + 1, 0, none⟩ = some (.string s.name) := Ks.out.cell 0
  have vs1 : W0.cell? ⟨w.heap.size + 1, 1, none⟩ = some (.int .i64 s.length) := Ks.out.cell 1
  have vs2 : W0.cell? ⟨w.heap.size + 1, 2, none⟩ = some (.int .i64 s.draught) := Ks.out.cell 2
  have vs3 : W0.cell? ⟨w.heap.size + 1, 3, none⟩ = some (.int .i64 s.line) := Ks.out.cell 3
  have vs4 : W0.cell? ⟨w.heap.size + 1, 4, none⟩ = some (.int .i64 s.tugs) := Ks.out.cell 4
  have vs5 : W0.cell? ⟨w.heap.size + 1, 5, none⟩ = some (.bool s.slow) := Ks.out.cell 5
  go_wp2_with fail
  rw [← HW0.out]
  clear vd0 vd1 vs0 vs1 vs2 vs3 vs4 vs5
  refine (specRouteOk _ _ d fr _ r _ (Rd.out.below B.out) (Rr.out.below B.out) Nd.out).mono ?_
  rw [H1.out]
  rintro e w1 ⟨rfl, hb1⟩
  have B1 := Lib.hid (B.out.trans (hb1.mono B.out.size))
  have Kd_1 := Lib.hid (Kd.out.below hb1)
  have Ks_1 := Lib.hid (Ks.out.below hb1)
  have BW1 := Lib.hid hb1
  clear hb1
  have vd0 : w1.cell? ⟨w.heap.size, 0, none⟩ = some (.slice Ad0 d.points.length cd0) := Kd_1.out.cell 0
  have vd1 : w1.cell? ⟨w.heap.size, 1, none⟩ = some (.slice Ad1 d.segs.length cd1) := Kd_1.out.cell 1
  have vs0 : w1.cell? ⟨w.heap.size + 1, 0, none⟩ = some (.string s.name) := Ks_1.out.cell 0
  have vs1 : w1.cell? ⟨w.heap.size + 1, 1, none⟩ = some (.int .i64 s.length) := Ks_1.out.cell 1
  have vs2 : w1.cell? ⟨w.heap.size + 1, 2, none⟩ = some (.int .i64 s.draught) := Ks_1.out.cell 2
  have vs3 : w1.cell? ⟨w.heap.size + 1, 3, none⟩ = some (.int .i64 s.line) := Ks_1.out.cell 3
  have vs4 : w1.cell? ⟨w.heap.size + 1, 4, none⟩ = some (.int .i64 s.tugs) := Ks_1.out.cell 4
  have vs5 : w1.cell? ⟨w.heap.size + 1, 5, none⟩ = some (.bool s.slow) := Ks_1.out.cell 5
  go_wp2_with fail
  clear vd0 vd1 vs0 vs1 vs2 vs3 vs4 vs5
  refine (specShipOk s _ Ns.out).mono ?_
  rw [H2.out]
  rintro e w2 ⟨rfl, hb2⟩
  have B2 := Lib.hid (B1.out.trans (hb2.mono B1.out.size))
  have Kd_2 := Lib.hid (Kd_1.out.below hb2)
  have Ks_2 := Lib.hid (Ks_1.out.below hb2)
  have BW2 := Lib.hid (BW1.out.trans (hb2.mono BW1.out.size))
  clear hb2
  go_upto_region 4 with fail
  have BL := Joins.below_alloc1 w2 (.cells #[] 67)
  have GM := GathO.made (k := 5) (cs := PassageD.cells) (t := 67) (w := W0) (wr := w2) BW2.out
  have hws := World.size_alloc w2 (.cells #[] 67)
  obtain ⟨wb, hwb⟩ : ∃ wb, wb = w2.alloc (.cells #[] 67) := ⟨_, rfl⟩
  rw [← hwb] at BL GM hws ⊢
  have B3 := Lib.hid (B2.out.trans (BL.mono B2.out.size))
  have GM0 := Lib.hid GM
  have HS0 := Lib.hid hws
  have Kd_3 := Lib.hid (Kd_2.out.below BL)
  have Ks_3 := Lib.hid (Ks_2.out.below BL)
  clear hwb BL GM hws
  have vd0 : wb.cell? ⟨w.heap.size, 0, none⟩ = some (.slice Ad0 d.points.length cd0) := Kd_3.out.cell 0
  have vd1 : wb.cell? ⟨w.heap.size, 1, none⟩ = some (.slice Ad1 d.segs.length cd1) := Kd_3.out.cell 1
  have vs0 : wb.cell? ⟨w.heap.size + 1, 0, none⟩ = some (.string s.name) := Ks_3.out.cell 0
  have vs1 : wb.cell? ⟨w.heap.size + 1, 1, none⟩ = some (.int .i64 s.length) := Ks_3.out.cell 1
  have vs2 : wb.cell? ⟨w.heap.size + 1, 2, none⟩ = some (.int .i64 s.draught) := Ks_3.out.cell 2
  have vs3 : wb.cell? ⟨w.heap.size + 1, 3, none⟩ = some (.int .i64 s.line) := Ks_3.out.cell 3
  have vs4 : wb.cell? ⟨w.heap.size + 1, 4, none⟩ = some (.int .i64 s.tugs) := Ks_3.out.cell 4
  have vs5 : wb.cell? ⟨w.heap.size + 1, 5, none⟩ = some (.bool s.slow) := Ks_3.out.cell 5
  go_wp2_with fail
  clear vd0 vd1 vs0 vs1 vs2 vs3 vs4 vs5
  refine (specRoutePoints _ _ d fr _ r _ (Rd.out.below B3.out) (Rr.out.below B3.out) Nd.out).mono ?_
  rw [HPT.out]
  rintro e w4 ⟨vp, rfl, ho, hb4⟩
  have B4 := Lib.hid (B3.out.trans (hb4.mono B3.out.size))
  have Kd_4 := Lib.hid (Kd_3.out.below hb4)
  have Ks_4 := Lib.hid (Ks_3.out.below hb4)
  have GM1 := Lib.hid (GM0.out.below hb4)
  have HAP : Hid (ApartV (.slice (some ⟨w2.heap.size, 0, none⟩) 0 0) vp) := Lib.hid (fun g hg hv => by simp [Value.ownBlock] at hg; have h1 := (own_ge ho hv).1; have h2 := HS0.out; omega)
  have OP := Lib.hid (own_lo (base' := W0.heap.size) ho (by have h1 := BW2.out.size; have h2 := HS0.out; omega))
  obtain ⟨Ap, cp, rfl⟩ := own_form ho
  clear ho GM0 HS0
  clear hb4
  go_wp2
  go_loopw [13, 41] (fun q i wr => ∃ (k : Nat) (out : List PassageD), k ≤ r.length ∧ out.length = k ∧ i = .int .i64 (k : Int) ∧ Hid (passTo d sh s pts r t k = some out) ∧ Hid (GathO 5 PassageD.cells 67 W0 q out wr) ∧ Hid (OwnInt wr W0.heap.size (.slice Ap pts.length cp) pts) ∧ Hid (ApartV q (.slice Ap pts.length cp))) (fun _ i _ => r.length - (intOf i).toNat)
  case atStart => exact ⟨0, [], Nat.zero_le _, rfl, rfl, Lib.hid rfl, GM1, OP, HAP⟩
  case round =>
    clear GM1 OP HAP
    obtain ⟨k, out, hk, hol, rfl, hP, hG, hO, hA⟩ := hrel
    have HOL := Lib.hid hol
    obtain ⟨Qa, Qc, rfl⟩ := hG.out.form
    have hob : out.length ≤ 1000000000 := by omega
    clear hol
    have hsz := hG.out.size
    have BR := Lib.hid (B.out.trans (hG.out.2.mono B.out.size))
    have Kd_r := Lib.hid (Kd.out.below hG.out.2)
    have Ks_r := Lib.hid (Ks.out.below hG.out.2)
    by_cases hlt : k < r.length
    rotate_left
    · obtain rfl : k = r.length := by omega
      have E := Lib.hid (show passL d sh s fr r t = out by rw [E0.out, hP.out]; rfl)
      have OW := Lib.hid (own_lo hG.out.1 (base' := w.heap.size) B.out.size)
      go_wp2
      go_ret
      exact ⟨_, rfl, by rw [E.out]; exact OW.out, BR.out⟩
    obtain ⟨i, hi⟩ : ∃ i, r[k]? = some i := ⟨_, List.getElem?_eq_getElem hlt⟩
    obtain ⟨tm, htm⟩ : ∃ x, t[k]? = some x := ⟨_, List.getElem?_eq_getElem (by have := HTL.out; omega)⟩
    obtain ⟨p, hp⟩ : ∃ x, pts[k]? = some x := ⟨_, List.getElem?_eq_getElem (by have := HPL.out; omega)⟩
    have HNX := Lib.hid (passTo_next hP.out htm hp hi)
    obtain ⟨g, hg, hx, li0, lil⟩ := HSI.out i (List.mem_of_getElem? hi)
    obtain ⟨-, -, -, -, -, -, -, gm0, gm1⟩ := segB_true (chartB_seg HCB.out hx)
    have HSG := Lib.hid hg
    obtain ⟨kk, rfl⟩ : ∃ kk : Nat, i = (kk : Int) := ⟨i.toNat, by omega⟩
    simp only [Int.toNat_natCast] at hx lil
    have hkt : k < t.length := by have := HTL.out; omega
    have hkp : k < pts.length := by have := HPL.out; omega
    rcases Rt.out.2 with ⟨he, _⟩ | ⟨gt, ot, ct', e, tpos, tcap, tc⟩
    · rw [he] at hkt; simp at hkt
    injection e with hA' _ hcp'
    subst hA' hcp'
    have yt := cell_onV (SlInt.cells tc k tm htm) BR.out
    rcases Rr.out.2 with ⟨he, _⟩ | ⟨gr, or', cr', e, rpos, rcap, rc⟩
    · rw [he] at hlt; simp at hlt
    injection e with hA' _ hcp'
    subst hA' hcp'
    have yr := cell_onV (SlInt.cells rc k _ hi) BR.out
    rcases Rd.out.2.2 with ⟨he, _⟩ | ⟨g', o', c', e, dpos, dcap, dc⟩
    · rw [he] at lil; simp at lil
    injection e with hA' _ hcp'
    subst hA' hcp'
    obtain ⟨q0, q1, q2, q3, q4⟩ := SlSegment.cells dc kk g hx
    obtain ⟨gp, cp', e, yp⟩ := own_int_at hO.out hp
    injection e with hA' _ hcp'
    subst hA' hcp'
    have z0 := cell_onV q0 BR.out
    have z1 := cell_onV q1 BR.out
    have z2 := cell_onV q2 BR.out
    have z3 := cell_onV q3 BR.out
    have z4 := cell_onV q4 BR.out
    have HG1 := Lib.hid (World.block_lt_of_cell? w _ q0)
    have HT1 := Lib.hid (World.block_lt_of_cell? w _ (SlInt.cells tc k tm htm))
    have YT := Lib.hid yt
    have YP := Lib.hid yp
    have Z0 := Lib.hid z0
    have Z1 := Lib.hid z1
    have Z2 := Lib.hid z2
    have Z3 := Lib.hid z3
    have Z4 := Lib.hid z4
    clear q0 q1 q2 q3 q4 z0 z1 z2 z3 z4 yp tc rc dc hi htm hp hg hx li0
    go_wp2_with fail
    clear yt yr
    obtain ⟨ib, hib⟩ : ∃ b, inB tm 0 2880 = b := ⟨_, rfl⟩
    refine (l01In_any _ _ _ _).mono ?_
    rw [hib]
    rintro e wz ⟨rfl, rfl⟩
    have HIB := Lib.hid hib
    cases ib with
    | false =>
      have E := Lib.hid (show passL d sh s fr r t = [] by rw [E0.out, passTo_none (HNX.out.trans (by rw [HIB.out]; rfl)) r.length (by omega)]; rfl)
      clear hib
      go_wp2
      go_ret
      exact ⟨_, rfl, by rw [E.out]; exact (GathO.empty (cs := PassageD.cells) (t := 67) (k := 5) BR.out).1, BR.out⟩
    | true =>
      obtain ⟨t0, t1⟩ : 0 ≤ tm ∧ tm ≤ 2880 := of_decide_eq_true hib
      clear hib
      have wsum : IntKind.i64.wrap (tm + onMin g s) = tm + onMin g s := by have h0 : 0 ≤ onMin g s ∧ onMin g s ≤ 480 := (by unfold onMin; split <;> omega); rw [IntKind.wrap_i64]; omega
      have NX := Lib.hid (show passTo d sh s pts r t (k + 1) = some (out ++ [⟨sh, (kk : Int), (g.a == p), tm, tm + onMin g s⟩]) by rw [HNX.out, HIB.out]; unfold passOf onSeg; rw [HSG.out]; rfl)
      have F0 := Lib.hid (show wr.cell? ⟨w.heap.size, 0, none⟩ = some (.slice Ad0 d.points.length cd0) from Kd_r.out.cell 0)
      have v0 := F0.out
      have F1 := Lib.hid (show wr.cell? ⟨w.heap.size, 1, none⟩ = some (.slice (some ⟨g', o', none⟩) d.segs.length cd1) from Kd_r.out.cell 1)
      have v1 := F1.out
      have F2 := Lib.hid (show wr.cell? ⟨w.heap.size + 1, 0, none⟩ = some (.string s.name) from Ks_r.out.cell 0)
      have v2 := F2.out
      have F3 := Lib.hid (show wr.cell? ⟨w.heap.size + 1, 1, none⟩ = some (.int .i64 s.length) from Ks_r.out.cell 1)
      have v3 := F3.out
      have F4 := Lib.hid (show wr.cell? ⟨w.heap.size + 1, 2, none⟩ = some (.int .i64 s.draught) from Ks_r.out.cell 2)
      have v4 := F4.out
      have F5 := Lib.hid (show wr.cell? ⟨w.heap.size + 1, 3, none⟩ = some (.int .i64 s.line) from Ks_r.out.cell 3)
      have v5 := F5.out
      have F6 := Lib.hid (show wr.cell? ⟨w.heap.size + 1, 4, none⟩ = some (.int .i64 s.tugs) from Ks_r.out.cell 4)
      have v6 := F6.out
      have F7 := Lib.hid (show wr.cell? ⟨w.heap.size + 1, 5, none⟩ = some (.bool s.slow) from Ks_r.out.cell 5)
      have v7 := F7.out
      have F8 := Lib.hid (show wr.cell? ⟨g', o' + kk * 5, none⟩ = some (.int .i64 g.a) from Z0.out)
      have v8 := F8.out
      have F9 := Lib.hid (show wr.cell? ⟨g', o' + kk * 5 + 1, none⟩ = some (.int .i64 g.b) from Z1.out)
      have v9 := F9.out
      have F10 := Lib.hid (show wr.cell? ⟨g', o' + kk * 5 + 2, none⟩ = some (.int .i64 g.depth) from Z2.out)
      have v10 := F10.out
      have F11 := Lib.hid (show wr.cell? ⟨g', o' + kk * 5 + 3, none⟩ = some (.int .i64 g.minutes) from Z3.out)
      have v11 := F11.out
      have F12 := Lib.hid (show wr.cell? ⟨g', o' + kk * 5 + 4, none⟩ = some (.bool g.meet) from Z4.out)
      have v12 := F12.out
      have F13 := Lib.hid (show wr.cell? ⟨gp, k, none⟩ = some (.int .i64 p) from YP.out)
      have v13 := F13.out
      have F14 := Lib.hid (show wr.cell? ⟨gt, ot + k, none⟩ = some (.int .i64 tm) from YT.out)
      have v14 := F14.out
      have hbd : w.heap.size < W0.heap.size := World.block_lt_of_cell? W0 ⟨w.heap.size, 0, none⟩ (Kd.out.cell 0)
      have hbs : w.heap.size + 1 < W0.heap.size := World.block_lt_of_cell? W0 ⟨w.heap.size + 1, 0, none⟩ (Ks.out.cell 0)
      have hbg : g' < W0.heap.size := Nat.lt_of_lt_of_le HG1.out B.out.size
      have hbt : gt < W0.heap.size := Nat.lt_of_lt_of_le HT1.out B.out.size
      go_upto_region 10 with fail
      refine wp_region_held_drew (S := (fun w' => w'.cell? ⟨w.heap.size, 0, none⟩ = some (.slice Ad0 d.points.length cd0) ∧ w'.cell? ⟨w.heap.size, 1, none⟩ = some (.slice (some ⟨g', o', none⟩) d.segs.length cd1) ∧ w'.cell? ⟨w.heap.size + 1, 0, none⟩ = some (.string s.name) ∧ w'.cell? ⟨w.heap.size + 1, 1, none⟩ = some (.int .i64 s.length) ∧ w'.cell? ⟨w.heap.size + 1, 2, none⟩ = some (.int .i64 s.draught) ∧ w'.cell? ⟨w.heap.size + 1, 3, none⟩ = some (.int .i64 s.line) ∧ w'.cell? ⟨w.heap.size + 1, 4, none⟩ = some (.int .i64 s.tugs) ∧ w'.cell? ⟨w.heap.size + 1, 5, none⟩ = some (.bool s.slow) ∧ w'.cell? ⟨g', o' + kk * 5, none⟩ = some (.int .i64 g.a) ∧ w'.cell? ⟨g', o' + kk * 5 + 1, none⟩ = some (.int .i64 g.b) ∧ w'.cell? ⟨g', o' + kk * 5 + 2, none⟩ = some (.int .i64 g.depth) ∧ w'.cell? ⟨g', o' + kk * 5 + 3, none⟩ = some (.int .i64 g.minutes) ∧ w'.cell? ⟨g', o' + kk * 5 + 4, none⟩ = some (.bool g.meet) ∧ w'.cell? ⟨gp, k, none⟩ = some (.int .i64 p) ∧ w'.cell? ⟨gt, ot + k, none⟩ = some (.int .i64 tm))) (by kernel_rfl) ?_ (fun hHeld => ?_)
      · (try dsimp only); go_keep
      refine wpAnyH_take (i := 0) (v := ?_) (by simp only [List.getElem?_toArray, List.getElem?_cons_zero]; rfl) (by kernel_rfl) (by kernel_rfl) (by kernel_rfl) (by exact fun _ _ _ h => h) (Or.inl ⟨by rfl, ?_⟩) (by assumption) ?_; rotate_left; focus (intro w hSw; (try dsimp only at hSw); first | (go_simp; done) | (go_simp; with_reducible rfl))
      (try simp only [Act.put]); (try simp only [List.setIfInBounds_toArray]); (try simp only [List.set_cons_succ]); (try simp only [List.set_cons_zero])
      refine wpAnyH_take (i := 1) (v := ?_) (by simp only [List.getElem?_toArray, List.getElem?_cons_succ, List.getElem?_cons_zero]; rfl) (by kernel_rfl) (by kernel_rfl) (by kernel_rfl) (by exact fun _ _ _ h => h) (Or.inl ⟨by rfl, ?_⟩) (by assumption) ?_; rotate_left; focus (intro w hSw; (try dsimp only at hSw); first | (go_simp; done) | (go_simp; with_reducible rfl))
      (try simp only [Act.put]); (try simp only [List.setIfInBounds_toArray]); (try simp only [List.set_cons_succ]); (try simp only [List.set_cons_zero])
      refine wpAnyH_take (i := 2) (v := ?_) (by simp only [List.getElem?_toArray, List.getElem?_cons_succ, List.getElem?_cons_zero]; rfl) (by kernel_rfl) (by kernel_rfl) (by kernel_rfl) (by exact fun _ _ _ h => h) (Or.inl ⟨by rfl, ?_⟩) (by assumption) ?_; rotate_left; focus (intro w hSw; (try dsimp only at hSw); first | (go_simp; done) | (go_simp; with_reducible rfl))
      (try simp only [Act.put]); (try simp only [List.setIfInBounds_toArray]); (try simp only [List.set_cons_succ]); (try simp only [List.set_cons_zero])
      refine wpAnyH_take (i := 3) (v := ?_) (by simp only [List.getElem?_toArray, List.getElem?_cons_succ, List.getElem?_cons_zero]; rfl) (by kernel_rfl) (by kernel_rfl) (by kernel_rfl) (by exact fun _ _ _ h => h) (Or.inl ⟨by rfl, ?_⟩) (by assumption) ?_; rotate_left; focus (intro w hSw; (try dsimp only at hSw); first | (go_simp; done) | (go_simp; with_reducible rfl))
      (try simp only [Act.put]); (try simp only [List.setIfInBounds_toArray]); (try simp only [List.set_cons_succ]); (try simp only [List.set_cons_zero])
      refine wpAnyH_take (i := 4) (v := ?_) (by simp only [List.getElem?_toArray, List.getElem?_cons_succ, List.getElem?_cons_zero]; rfl) (by kernel_rfl) (by kernel_rfl) (by kernel_rfl) (by exact fun _ _ _ h => h) (Or.inl ⟨by rfl, ?_⟩) (by assumption) ?_; rotate_left; focus (intro w hSw; (try dsimp only at hSw); first | (go_simp; done) | (go_simp; with_reducible rfl))
      (try simp only [Act.put]); (try simp only [List.setIfInBounds_toArray]); (try simp only [List.set_cons_succ]); (try simp only [List.set_cons_zero])
      refine wpAnyH_take (i := 5) (v := ?_) (by simp only [List.getElem?_toArray, List.getElem?_cons_succ, List.getElem?_cons_zero]; rfl) (by kernel_rfl) (by kernel_rfl) (by kernel_rfl) (by exact fun _ _ _ h => h) (Or.inl ⟨by rfl, ?_⟩) (by assumption) ?_; rotate_left; focus (intro w hSw; (try dsimp only at hSw); first | (go_simp; done) | (go_simp; with_reducible rfl))
      (try simp only [Act.put]); (try simp only [List.setIfInBounds_toArray]); (try simp only [List.set_cons_succ]); (try simp only [List.set_cons_zero])
      refine wpAnyH_take (i := 6) (v := ?_) (by simp only [List.getElem?_toArray, List.getElem?_cons_succ, List.getElem?_cons_zero]; rfl) (by kernel_rfl) (by kernel_rfl) (by kernel_rfl) (by exact fun _ _ _ h => h) (Or.inl ⟨by rfl, ?_⟩) (by assumption) ?_; rotate_left; focus (intro w hSw; (try dsimp only at hSw); first | (go_simp; done) | (go_simp; with_reducible rfl))
      (try simp only [Act.put]); (try simp only [List.setIfInBounds_toArray]); (try simp only [List.set_cons_succ]); (try simp only [List.set_cons_zero])
      refine wpAnyH_take (i := 7) (v := ?_) (by simp only [List.getElem?_toArray, List.getElem?_cons_succ, List.getElem?_cons_zero]; rfl) (by kernel_rfl) (by kernel_rfl) (by kernel_rfl) (by exact fun _ _ _ h => h) (Or.inl ⟨by rfl, ?_⟩) (by assumption) ?_; rotate_left; focus (intro w hSw; (try dsimp only at hSw); first | (go_simp; done) | (go_simp; with_reducible rfl))
      (try simp only [Act.put]); (try simp only [List.setIfInBounds_toArray]); (try simp only [List.set_cons_succ]); (try simp only [List.set_cons_zero])
      refine wpAnyH_take (i := 8) (v := ?_) (by simp only [List.getElem?_toArray, List.getElem?_cons_succ, List.getElem?_cons_zero]; rfl) (by kernel_rfl) (by kernel_rfl) (by kernel_rfl) (by exact fun _ _ _ h => h) (Or.inl ⟨by rfl, ?_⟩) (by assumption) ?_; rotate_left; focus (intro w hSw; (try dsimp only at hSw); first | (go_simp; done) | (go_simp; with_reducible rfl))
      (try simp only [Act.put]); (try simp only [List.setIfInBounds_toArray]); (try simp only [List.set_cons_succ]); (try simp only [List.set_cons_zero])
      refine wpAnyH_take (i := 9) (v := ?_) (by simp only [List.getElem?_toArray, List.getElem?_cons_succ, List.getElem?_cons_zero]; rfl) (by kernel_rfl) (by kernel_rfl) (by kernel_rfl) (by exact fun _ _ _ h => h) (Or.inl ⟨by rfl, ?_⟩) (by assumption) ?_; rotate_left; focus (intro w hSw; (try dsimp only at hSw); first | (go_simp; done) | (go_simp; with_reducible rfl))
      (try simp only [Act.put]); (try simp only [List.setIfInBounds_toArray]); (try simp only [List.set_cons_succ]); (try simp only [List.set_cons_zero])
      refine wpAnyH_take (i := 10) (v := ?_) (by simp only [List.getElem?_toArray, List.getElem?_cons_succ, List.getElem?_cons_zero]; rfl) (by kernel_rfl) (by kernel_rfl) (by kernel_rfl) (by exact fun _ _ _ h => h) (Or.inl ⟨by rfl, ?_⟩) (by assumption) ?_; rotate_left; focus (intro w hSw; (try dsimp only at hSw); first | (go_simp; done) | (go_simp; with_reducible rfl))
      (try simp only [Act.put]); (try simp only [List.setIfInBounds_toArray]); (try simp only [List.set_cons_succ]); (try simp only [List.set_cons_zero])
      refine wpAnyH_take (i := 11) (v := ?_) (by simp only [List.getElem?_toArray, List.getElem?_cons_succ, List.getElem?_cons_zero]; rfl) (by kernel_rfl) (by kernel_rfl) (by kernel_rfl) (by exact fun _ _ _ h => h) (Or.inl ⟨by rfl, ?_⟩) (by assumption) ?_; rotate_left; focus (intro w hSw; (try dsimp only at hSw); first | (go_simp; done) | (go_simp; with_reducible rfl))
      (try simp only [Act.put]); (try simp only [List.setIfInBounds_toArray]); (try simp only [List.set_cons_succ]); (try simp only [List.set_cons_zero])
      refine wpAnyH_take (i := 12) (v := ?_) (by simp only [List.getElem?_toArray, List.getElem?_cons_succ, List.getElem?_cons_zero]; rfl) (by kernel_rfl) (by kernel_rfl) (by kernel_rfl) (by exact fun _ _ _ h => h) (Or.inl ⟨by rfl, ?_⟩) (by assumption) ?_; rotate_left; focus (intro w hSw; (try dsimp only at hSw); first | (go_simp; done) | (go_simp; with_reducible rfl))
      (try simp only [Act.put]); (try simp only [List.setIfInBounds_toArray]); (try simp only [List.set_cons_succ]); (try simp only [List.set_cons_zero])
      refine wpAnyH_take (i := 13) (v := ?_) (by simp only [List.getElem?_toArray, List.getElem?_cons_succ, List.getElem?_cons_zero]; rfl) (by kernel_rfl) (by kernel_rfl) (by kernel_rfl) (by exact fun _ _ _ h => h) (Or.inl ⟨by rfl, ?_⟩) (by assumption) ?_; rotate_left; focus (intro w hSw; (try dsimp only at hSw); first | (go_simp; done) | (go_simp; with_reducible rfl))
      (try simp only [Act.put]); (try simp only [List.setIfInBounds_toArray]); (try simp only [List.set_cons_succ]); (try simp only [List.set_cons_zero])
      refine wpAnyH_take (i := 14) (v := ?_) (by simp only [List.getElem?_toArray, List.getElem?_cons_succ, List.getElem?_cons_zero]; rfl) (by kernel_rfl) (by kernel_rfl) (by kernel_rfl) (by exact fun _ _ _ h => h) (Or.inl ⟨by rfl, ?_⟩) (by assumption) ?_; rotate_left; focus (intro w hSw; (try dsimp only at hSw); first | (go_simp; done) | (go_simp; with_reducible rfl))
      (try simp only [Act.put]); (try simp only [List.setIfInBounds_toArray]); (try simp only [List.set_cons_succ]); (try simp only [List.set_cons_zero])
      refine wpAnyH_take (i := 15) (v := ?_) (by simp only [List.getElem?_toArray, List.getElem?_cons_succ, List.getElem?_cons_zero]; rfl) (by kernel_rfl) (by kernel_rfl) (by kernel_rfl) (by exact fun _ _ _ h => h) (Or.inl ⟨by rfl, ?_⟩) (by assumption) ?_; rotate_left; focus (intro w hSw; (try dsimp only at hSw); first | (go_simp; done) | (go_simp; with_reducible rfl))
      (try simp only [Act.put]); (try simp only [List.setIfInBounds_toArray]); (try simp only [List.set_cons_succ]); (try simp only [List.set_cons_zero])
      refine wpAnyH_take (i := 16) (v := ?_) (by simp only [List.getElem?_toArray, List.getElem?_cons_succ, List.getElem?_cons_zero]; rfl) (by kernel_rfl) (by kernel_rfl) (by kernel_rfl) (by exact fun _ _ _ h => h) (Or.inl ⟨by rfl, ?_⟩) (by assumption) ?_; rotate_left; focus (intro w hSw; (try dsimp only at hSw); first | (go_simp; done) | (go_simp; with_reducible rfl))
      (try simp only [Act.put]); (try simp only [List.setIfInBounds_toArray]); (try simp only [List.set_cons_succ]); (try simp only [List.set_cons_zero])
      refine wpAnyH_take (i := 17) (v := ?_) (by simp only [List.getElem?_toArray, List.getElem?_cons_succ, List.getElem?_cons_zero]; rfl) (by kernel_rfl) (by kernel_rfl) (by kernel_rfl) (by exact fun _ _ _ h => h) (Or.inl ⟨by rfl, ?_⟩) (by assumption) ?_; rotate_left; focus (intro w hSw; (try dsimp only at hSw); first | (go_simp; done) | (go_simp; with_reducible rfl))
      (try simp only [Act.put]); (try simp only [List.setIfInBounds_toArray]); (try simp only [List.set_cons_succ]); (try simp only [List.set_cons_zero])
      refine wpAnyH_take (i := 18) (v := ?_) (by simp only [List.getElem?_toArray, List.getElem?_cons_succ, List.getElem?_cons_zero]; rfl) (by kernel_rfl) (by kernel_rfl) (by kernel_rfl) (by exact fun _ _ _ h => h) (Or.inl ⟨by rfl, ?_⟩) (by assumption) ?_; rotate_left; focus (intro w hSw; (try dsimp only at hSw); first | (go_simp; done) | (go_simp; with_reducible rfl))
      (try simp only [Act.put]); (try simp only [List.setIfInBounds_toArray]); (try simp only [List.set_cons_succ]); (try simp only [List.set_cons_zero])
      refine wpAnyH_take (i := 19) (v := ?_) (by simp only [List.getElem?_toArray, List.getElem?_cons_succ, List.getElem?_cons_zero]; rfl) (by kernel_rfl) (by kernel_rfl) (by kernel_rfl) (by exact fun _ _ _ h => h) (Or.inl ⟨by rfl, ?_⟩) (by assumption) ?_; rotate_left; focus (intro w hSw; (try dsimp only at hSw); first | (go_simp; done) | (go_simp; with_reducible rfl))
      (try simp only [Act.put]); (try simp only [List.setIfInBounds_toArray]); (try simp only [List.set_cons_succ]); (try simp only [List.set_cons_zero])
      refine wpAnyH_take (i := 20) (v := ?_) (by simp only [List.getElem?_toArray, List.getElem?_cons_succ, List.getElem?_cons_zero]; rfl) (by kernel_rfl) (by kernel_rfl) (by kernel_rfl) (by exact fun _ _ _ h => h) (Or.inl ⟨by rfl, ?_⟩) (by assumption) ?_; rotate_left; focus (intro w hSw; (try dsimp only at hSw); first | (go_simp; done) | (go_simp; with_reducible rfl))
      (try simp only [Act.put]); (try simp only [List.setIfInBounds_toArray]); (try simp only [List.set_cons_succ]); (try simp only [List.set_cons_zero])
      refine wpAnyH_take (i := 21) (v := ?_) (by simp only [List.getElem?_toArray, List.getElem?_cons_succ, List.getElem?_cons_zero]; rfl) (by kernel_rfl) (by kernel_rfl) (by kernel_rfl) (by exact fun _ _ _ h => h) (Or.inl ⟨by rfl, ?_⟩) (by assumption) ?_; rotate_left; focus (intro w hSw; (try dsimp only at hSw); first | (go_simp; done) | (go_simp; with_reducible rfl))
      (try simp only [Act.put]); (try simp only [List.setIfInBounds_toArray]); (try simp only [List.set_cons_succ]); (try simp only [List.set_cons_zero])
      refine wpAnyH_take (i := 22) (v := ?_) (by simp only [List.getElem?_toArray, List.getElem?_cons_succ, List.getElem?_cons_zero]; rfl) (by kernel_rfl) (by kernel_rfl) (by kernel_rfl) (by exact fun _ _ _ h => h) (Or.inl ⟨by rfl, ?_⟩) (by assumption) ?_; rotate_left; focus (intro w hSw; (try dsimp only at hSw); first | (go_simp; done) | (go_simp; with_reducible rfl))
      (try simp only [Act.put]); (try simp only [List.setIfInBounds_toArray]); (try simp only [List.set_cons_succ]); (try simp only [List.set_cons_zero])
      refine wpAnyH_take (i := 23) (v := ?_) (by simp only [List.getElem?_toArray, List.getElem?_cons_succ, List.getElem?_cons_zero]; rfl) (by kernel_rfl) (by kernel_rfl) (by kernel_rfl) (by exact fun _ _ _ h => h) (Or.inl ⟨by rfl, ?_⟩) (by assumption) ?_; rotate_left; focus (intro w hSw; (try dsimp only at hSw); first | (go_simp; done) | (go_simp; with_reducible rfl))
      (try simp only [Act.put]); (try simp only [List.setIfInBounds_toArray]); (try simp only [List.set_cons_succ]); (try simp only [List.set_cons_zero])
      refine wpAnyH_take (i := 24) (v := ?_) (by simp only [List.getElem?_toArray, List.getElem?_cons_succ, List.getElem?_cons_zero]; rfl) (by kernel_rfl) (by kernel_rfl) (by kernel_rfl) (by exact fun _ _ _ h => h) (Or.inl ⟨by rfl, ?_⟩) (by assumption) ?_; rotate_left; focus (intro w hSw; (try dsimp only at hSw); first | (go_simp; done) | (go_simp; with_reducible rfl))
      (try simp only [Act.put]); (try simp only [List.setIfInBounds_toArray]); (try simp only [List.set_cons_succ]); (try simp only [List.set_cons_zero])
      refine wpAnyH_take (i := 25) (v := ?_) (by simp only [List.getElem?_toArray, List.getElem?_cons_succ, List.getElem?_cons_zero]; rfl) (by kernel_rfl) (by kernel_rfl) (by kernel_rfl) (by exact fun _ _ _ h => h) (Or.inl ⟨by rfl, ?_⟩) (by assumption) ?_; rotate_left; focus (intro w hSw; (try dsimp only at hSw); first | (go_simp; done) | (go_simp; with_reducible rfl))
      (try simp only [Act.put]); (try simp only [List.setIfInBounds_toArray]); (try simp only [List.set_cons_succ]); (try simp only [List.set_cons_zero])
      refine wpAnyH_take (i := 26) (v := ?_) (by simp only [List.getElem?_toArray, List.getElem?_cons_succ, List.getElem?_cons_zero]; rfl) (by kernel_rfl) (by kernel_rfl) (by kernel_rfl) (by exact fun _ _ _ h => h) (Or.inl ⟨by rfl, ?_⟩) (by assumption) ?_; rotate_left; focus (intro w hSw; (try dsimp only at hSw); first | (go_simp; done) | (go_simp; with_reducible rfl))
      (try simp only [Act.put]); (try simp only [List.setIfInBounds_toArray]); (try simp only [List.set_cons_succ]); (try simp only [List.set_cons_zero])
      refine wpAnyH_take (i := 27) (v := ?_) (by simp only [List.getElem?_toArray, List.getElem?_cons_succ, List.getElem?_cons_zero]; rfl) (by kernel_rfl) (by kernel_rfl) (by kernel_rfl) (by exact fun _ _ _ h => h) (Or.inl ⟨by rfl, ?_⟩) (by assumption) ?_; rotate_left; focus (intro w hSw; (try dsimp only at hSw); first | (go_simp; done) | (go_simp; with_reducible rfl))
      (try simp only [Act.put]); (try simp only [List.setIfInBounds_toArray]); (try simp only [List.set_cons_succ]); (try simp only [List.set_cons_zero])
      refine wpAnyH_ready (rs := [28]) (by kernel_rfl) (by simp) ?_
      refine AllReadyH.cons rfl (fun K hK => ?_) (AllReadyH.nil)
      rw [if_pos (by rfl)]
      go_simp
      go_at_call 72
      refine (l06Minutes_any g s _ (by omega) gm1).mono ?_
      rintro e wq ⟨rfl, hbk⟩
      have HBK := (Below.refl wr.heap.size wr).drew.trans (hbk.mono (Nat.le_refl _))
      have GQ := Lib.hid (hG.out.below HBK)
      have OQ := Lib.hid (own_below hO.out HBK)
      have QS := Lib.hid (show wq.cell? ⟨w.heap.size, 0, none⟩ = some (.slice Ad0 d.points.length cd0) ∧ wq.cell? ⟨w.heap.size, 1, none⟩ = some (.slice (some ⟨g', o', none⟩) d.segs.length cd1) ∧ wq.cell? ⟨w.heap.size + 1, 0, none⟩ = some (.string s.name) ∧ wq.cell? ⟨w.heap.size + 1, 1, none⟩ = some (.int .i64 s.length) ∧ wq.cell? ⟨w.heap.size + 1, 2, none⟩ = some (.int .i64 s.draught) ∧ wq.cell? ⟨w.heap.size + 1, 3, none⟩ = some (.int .i64 s.line) ∧ wq.cell? ⟨w.heap.size + 1, 4, none⟩ = some (.int .i64 s.tugs) ∧ wq.cell? ⟨w.heap.size + 1, 5, none⟩ = some (.bool s.slow) ∧ wq.cell? ⟨g', o' + kk * 5, none⟩ = some (.int .i64 g.a) ∧ wq.cell? ⟨g', o' + kk * 5 + 1, none⟩ = some (.int .i64 g.b) ∧ wq.cell? ⟨g', o' + kk * 5 + 2, none⟩ = some (.int .i64 g.depth) ∧ wq.cell? ⟨g', o' + kk * 5 + 3, none⟩ = some (.int .i64 g.minutes) ∧ wq.cell? ⟨g', o' + kk * 5 + 4, none⟩ = some (.bool g.meet) ∧ wq.cell? ⟨gp, k, none⟩ = some (.int .i64 p) ∧ wq.cell? ⟨gt, ot + k, none⟩ = some (.int .i64 tm) from ⟨cell_onV F0.out HBK, cell_onV F1.out HBK, cell_onV F2.out HBK, cell_onV F3.out HBK, cell_onV F4.out HBK, cell_onV F5.out HBK, cell_onV F6.out HBK, cell_onV F7.out HBK, cell_onV F8.out HBK, cell_onV F9.out HBK, cell_onV F10.out HBK, cell_onV F11.out HBK, cell_onV F12.out HBK, cell_onV F13.out HBK, cell_onV F14.out HBK⟩)
      clear hbk HBK
      go_simp
      refine hK.out _ _ QS.out (fun hHeld => ?_)
      clear hK K
      (try simp only [Act.put]); (try simp only [List.setIfInBounds_toArray]); (try simp only [List.set_cons_succ]); (try simp only [List.set_cons_zero])
      refine wpAnyH_take (i := 29) (v := ?_) (by simp only [List.getElem?_toArray, List.getElem?_cons_succ, List.getElem?_cons_zero]; rfl) (by kernel_rfl) (by kernel_rfl) (by kernel_rfl) (by exact fun _ _ _ h => h) (Or.inl ⟨by rfl, ?_⟩) (by assumption) ?_; rotate_left; focus (intro w hSw; (try dsimp only at hSw); first | (go_simp; done) | (go_simp; with_reducible rfl))
      (try simp only [Act.put]); (try simp only [List.setIfInBounds_toArray]); (try simp only [List.set_cons_succ]); (try simp only [List.set_cons_zero])
      refine wpAnyH_take (i := 30) (v := ?_) (by simp only [List.getElem?_toArray, List.getElem?_cons_succ, List.getElem?_cons_zero]; rfl) (by kernel_rfl) (by kernel_rfl) (by kernel_rfl) (by exact fun _ _ _ h => h) (Or.inl ⟨by rfl, ?_⟩) (by assumption) ?_; rotate_left; focus (intro w hSw; (try dsimp only at hSw); first | (go_simp; done) | (go_simp; with_reducible rfl))
      (try simp only [Act.put]); (try simp only [List.setIfInBounds_toArray]); (try simp only [List.set_cons_succ]); (try simp only [List.set_cons_zero])
      refine wpAnyH_ready (rs := [31]) (by kernel_rfl) (by simp) ?_
      refine AllReadyH.cons rfl (fun K hK => ?_) (AllReadyH.nil)
      rw [if_pos (by rfl)]
      go_simp
      have BX := Joins.below_alloc1 wq (.cells #[.int .i64 sh, .int .i64 (kk : Int), .bool (g.a == p), .int .i64 tm, .int .i64 (tm + onMin g s)] 67)
      have GA := Lib.hid (GQ.out.below BX)
      have OA := Lib.hid (own_below OQ.out BX)
      have QS := Lib.hid (show (wq.alloc (.cells #[.int .i64 sh, .int .i64 (kk : Int), .bool (g.a == p), .int .i64 tm, .int .i64 (tm + onMin g s)] 67)).cell? ⟨w.heap.size, 0, none⟩ = some (.slice Ad0 d.points.length cd0) ∧ (wq.alloc (.cells #[.int .i64 sh, .int .i64 (kk : Int), .bool (g.a == p), .int .i64 tm, .int .i64 (tm + onMin g s)] 67)).cell? ⟨w.heap.size, 1, none⟩ = some (.slice (some ⟨g', o', none⟩) d.segs.length cd1) ∧ (wq.alloc (.cells #[.int .i64 sh, .int .i64 (kk : Int), .bool (g.a == p), .int .i64 tm, .int .i64 (tm + onMin g s)] 67)).cell? ⟨w.heap.size + 1, 0, none⟩ = some (.string s.name) ∧ (wq.alloc (.cells #[.int .i64 sh, .int .i64 (kk : Int), .bool (g.a == p), .int .i64 tm, .int .i64 (tm + onMin g s)] 67)).cell? ⟨w.heap.size + 1, 1, none⟩ = some (.int .i64 s.length) ∧ (wq.alloc (.cells #[.int .i64 sh, .int .i64 (kk : Int), .bool (g.a == p), .int .i64 tm, .int .i64 (tm + onMin g s)] 67)).cell? ⟨w.heap.size + 1, 2, none⟩ = some (.int .i64 s.draught) ∧ (wq.alloc (.cells #[.int .i64 sh, .int .i64 (kk : Int), .bool (g.a == p), .int .i64 tm, .int .i64 (tm + onMin g s)] 67)).cell? ⟨w.heap.size + 1, 3, none⟩ = some (.int .i64 s.line) ∧ (wq.alloc (.cells #[.int .i64 sh, .int .i64 (kk : Int), .bool (g.a == p), .int .i64 tm, .int .i64 (tm + onMin g s)] 67)).cell? ⟨w.heap.size + 1, 4, none⟩ = some (.int .i64 s.tugs) ∧ (wq.alloc (.cells #[.int .i64 sh, .int .i64 (kk : Int), .bool (g.a == p), .int .i64 tm, .int .i64 (tm + onMin g s)] 67)).cell? ⟨w.heap.size + 1, 5, none⟩ = some (.bool s.slow) ∧ (wq.alloc (.cells #[.int .i64 sh, .int .i64 (kk : Int), .bool (g.a == p), .int .i64 tm, .int .i64 (tm + onMin g s)] 67)).cell? ⟨g', o' + kk * 5, none⟩ = some (.int .i64 g.a) ∧ (wq.alloc (.cells #[.int .i64 sh, .int .i64 (kk : Int), .bool (g.a == p), .int .i64 tm, .int .i64 (tm + onMin g s)] 67)).cell? ⟨g', o' + kk * 5 + 1, none⟩ = some (.int .i64 g.b) ∧ (wq.alloc (.cells #[.int .i64 sh, .int .i64 (kk : Int), .bool (g.a == p), .int .i64 tm, .int .i64 (tm + onMin g s)] 67)).cell? ⟨g', o' + kk * 5 + 2, none⟩ = some (.int .i64 g.depth) ∧ (wq.alloc (.cells #[.int .i64 sh, .int .i64 (kk : Int), .bool (g.a == p), .int .i64 tm, .int .i64 (tm + onMin g s)] 67)).cell? ⟨g', o' + kk * 5 + 3, none⟩ = some (.int .i64 g.minutes) ∧ (wq.alloc (.cells #[.int .i64 sh, .int .i64 (kk : Int), .bool (g.a == p), .int .i64 tm, .int .i64 (tm + onMin g s)] 67)).cell? ⟨g', o' + kk * 5 + 4, none⟩ = some (.bool g.meet) ∧ (wq.alloc (.cells #[.int .i64 sh, .int .i64 (kk : Int), .bool (g.a == p), .int .i64 tm, .int .i64 (tm + onMin g s)] 67)).cell? ⟨gp, k, none⟩ = some (.int .i64 p) ∧ (wq.alloc (.cells #[.int .i64 sh, .int .i64 (kk : Int), .bool (g.a == p), .int .i64 tm, .int .i64 (tm + onMin g s)] 67)).cell? ⟨gt, ot + k, none⟩ = some (.int .i64 tm) from by obtain ⟨e0, e1, e2, e3, e4, e5, e6, e7, e8, e9, e10, e11, e12, e13, e14⟩ := QS.out; exact ⟨cell_onV e0 BX, cell_onV e1 BX, cell_onV e2 BX, cell_onV e3 BX, cell_onV e4 BX, cell_onV e5 BX, cell_onV e6 BX, cell_onV e7 BX, cell_onV e8 BX, cell_onV e9 BX, cell_onV e10 BX, cell_onV e11 BX, cell_onV e12 BX, cell_onV e13 BX, cell_onV e14 BX⟩)
      have HNB := Lib.hid (World.news_of_block (heap_alloc_new wq (.cells #[.int .i64 sh, .int .i64 (kk : Int), .bool (g.a == p), .int .i64 tm, .int .i64 (tm + onMin g s)] 67)))
      have hsq := GQ.out.size
      clear BX
      refine hK.out _ _ QS.out (fun hHeld => ?_)
      clear hK K
      (try simp only [Act.put]); (try simp only [List.setIfInBounds_toArray]); (try simp only [List.set_cons_succ]); (try simp only [List.set_cons_zero])
      refine wpAnyH_ready (rs := [32]) (by kernel_rfl) (by simp) ?_
      refine AllReadyH.cons rfl (fun K hK => ?_) (AllReadyH.nil)
      refine step_append_lies _ (by rfl) _ _ _ (by rfl) W0.heap.size 67 i0 _ 5 40 Try.underlying78 HI.out.1 HI.out.2.1 HI.out.2.2.1 HI.out.2.2.2 rfl (by omega) (.slice Qa out.length Qc) out.length (out.flatMap PassageD.cells) (by rfl) GA.out.1 ⟨wq.heap.size, 0, none⟩ 1 1 (PassageD.cells (⟨sh, (kk : Int), (g.a == p), tm, tm + onMin g s⟩ : PassageD)) (by rfl) (by rfl) HNB.out (passage_one _) (by omega) (by unfold maxLen; omega) (by omega) (by simp; omega) _ rfl ?_
      intro g4 cap4 w4 hown4 hgrow4 hor4 hlt4
      have GX := Lib.hid (GA.out.next (x := (⟨sh, (kk : Int), (g.a == p), tm, tm + onMin g s⟩ : PassageD)) hown4 hgrow4)
      have OX := Lib.hid (own_kept OA.out hgrow4 (fun b hv he => hA.out b he hv))
      have AX : Hid (ApartV (.slice (some ⟨g4, 0, none⟩) (out.length + 1) cap4) (.slice (some ⟨gp, 0, none⟩) pts.length cp)) := Lib.hid (fun b hb hv => by simp [Value.ownBlock] at hb; subst hb; exact hor4.elim (fun he => hA.out _ he hv) (fun he => by have h9 := (World.ownsRow.lt OA.out _ hv).2; rw [he] at h9; exact Nat.lt_irrefl _ h9))
      have QS := Lib.hid (show w4.cell? ⟨w.heap.size, 0, none⟩ = some (.slice Ad0 d.points.length cd0) ∧ w4.cell? ⟨w.heap.size, 1, none⟩ = some (.slice (some ⟨g', o', none⟩) d.segs.length cd1) ∧ w4.cell? ⟨w.heap.size + 1, 0, none⟩ = some (.string s.name) ∧ w4.cell? ⟨w.heap.size + 1, 1, none⟩ = some (.int .i64 s.length) ∧ w4.cell? ⟨w.heap.size + 1, 2, none⟩ = some (.int .i64 s.draught) ∧ w4.cell? ⟨w.heap.size + 1, 3, none⟩ = some (.int .i64 s.line) ∧ w4.cell? ⟨w.heap.size + 1, 4, none⟩ = some (.int .i64 s.tugs) ∧ w4.cell? ⟨w.heap.size + 1, 5, none⟩ = some (.bool s.slow) ∧ w4.cell? ⟨g', o' + kk * 5, none⟩ = some (.int .i64 g.a) ∧ w4.cell? ⟨g', o' + kk * 5 + 1, none⟩ = some (.int .i64 g.b) ∧ w4.cell? ⟨g', o' + kk * 5 + 2, none⟩ = some (.int .i64 g.depth) ∧ w4.cell? ⟨g', o' + kk * 5 + 3, none⟩ = some (.int .i64 g.minutes) ∧ w4.cell? ⟨g', o' + kk * 5 + 4, none⟩ = some (.bool g.meet) ∧ w4.cell? ⟨gp, k, none⟩ = some (.int .i64 p) ∧ w4.cell? ⟨gt, ot + k, none⟩ = some (.int .i64 tm) from by obtain ⟨e0, e1, e2, e3, e4, e5, e6, e7, e8, e9, e10, e11, e12, e13, e14⟩ := QS.out; exact ⟨(hgrow4.cell_far _ (World.block_lt_of_cell? _ _ e0) (fun e => by have h9 : W0.heap.size ≤ w.heap.size := (own_ge GA.out.1 e.symm).1; have h8 := hbd; omega)).trans e0, (hgrow4.cell_far _ (World.block_lt_of_cell? _ _ e1) (fun e => by have h9 : W0.heap.size ≤ w.heap.size := (own_ge GA.out.1 e.symm).1; have h8 := hbd; omega)).trans e1, (hgrow4.cell_far _ (World.block_lt_of_cell? _ _ e2) (fun e => by have h9 : W0.heap.size ≤ w.heap.size + 1 := (own_ge GA.out.1 e.symm).1; have h8 := hbs; omega)).trans e2, (hgrow4.cell_far _ (World.block_lt_of_cell? _ _ e3) (fun e => by have h9 : W0.heap.size ≤ w.heap.size + 1 := (own_ge GA.out.1 e.symm).1; have h8 := hbs; omega)).trans e3, (hgrow4.cell_far _ (World.block_lt_of_cell? _ _ e4) (fun e => by have h9 : W0.heap.size ≤ w.heap.size + 1 := (own_ge GA.out.1 e.symm).1; have h8 := hbs; omega)).trans e4, (hgrow4.cell_far _ (World.block_lt_of_cell? _ _ e5) (fun e => by have h9 : W0.heap.size ≤ w.heap.size + 1 := (own_ge GA.out.1 e.symm).1; have h8 := hbs; omega)).trans e5, (hgrow4.cell_far _ (World.block_lt_of_cell? _ _ e6) (fun e => by have h9 : W0.heap.size ≤ w.heap.size + 1 := (own_ge GA.out.1 e.symm).1; have h8 := hbs; omega)).trans e6, (hgrow4.cell_far _ (World.block_lt_of_cell? _ _ e7) (fun e => by have h9 : W0.heap.size ≤ w.heap.size + 1 := (own_ge GA.out.1 e.symm).1; have h8 := hbs; omega)).trans e7, (hgrow4.cell_far _ (World.block_lt_of_cell? _ _ e8) (fun e => by have h9 : W0.heap.size ≤ g' := (own_ge GA.out.1 e.symm).1; have h8 := hbg; omega)).trans e8, (hgrow4.cell_far _ (World.block_lt_of_cell? _ _ e9) (fun e => by have h9 : W0.heap.size ≤ g' := (own_ge GA.out.1 e.symm).1; have h8 := hbg; omega)).trans e9, (hgrow4.cell_far _ (World.block_lt_of_cell? _ _ e10) (fun e => by have h9 : W0.heap.size ≤ g' := (own_ge GA.out.1 e.symm).1; have h8 := hbg; omega)).trans e10, (hgrow4.cell_far _ (World.block_lt_of_cell? _ _ e11) (fun e => by have h9 : W0.heap.size ≤ g' := (own_ge GA.out.1 e.symm).1; have h8 := hbg; omega)).trans e11, (hgrow4.cell_far _ (World.block_lt_of_cell? _ _ e12) (fun e => by have h9 : W0.heap.size ≤ g' := (own_ge GA.out.1 e.symm).1; have h8 := hbg; omega)).trans e12, (hgrow4.cell_far _ (World.block_lt_of_cell? _ _ e13) (fun e => hA.out _ e.symm rfl)).trans e13, (hgrow4.cell_far _ (World.block_lt_of_cell? _ _ e14) (fun e => by have h9 : W0.heap.size ≤ gt := (own_ge GA.out.1 e.symm).1; have h8 := hbt; omega)).trans e14⟩)
      clear hown4 hgrow4 hor4 hlt4
      refine hK.out _ _ QS.out (fun hHeld => ?_)
      clear hK K
      (try simp only [Act.put]); (try simp only [List.setIfInBounds_toArray]); (try simp only [List.set_cons_succ]); (try simp only [List.set_cons_zero])
      refine wpAnyH_take (i := 33) (v := ?_) (by simp only [List.getElem?_toArray, List.getElem?_cons_succ, List.getElem?_cons_zero]; rfl) (by kernel_rfl) (by kernel_rfl) (by kernel_rfl) (by exact fun _ _ _ h => h) (Or.inl ⟨by rfl, ?_⟩) (by assumption) ?_; rotate_left; focus (intro w hSw; (try dsimp only at hSw); first | (go_simp; done) | (go_simp; with_reducible rfl))
      (try simp only [Act.put]); (try simp only [List.setIfInBounds_toArray]); (try simp only [List.set_cons_succ]); (try simp only [List.set_cons_zero])
      refine wpAnyH_done (by kernel_rfl) ?_ _
      go_wp2
      go_roundw
      case rel => exact ⟨k + 1, out ++ [(⟨sh, (kk : Int), (g.a == p), tm, tm + onMin g s⟩ : PassageD)], by omega, by have := HOL.out; simp; omega, by go_num, NX, GX, OX, AX⟩
      case measure => simp [intOf]; omega
theorem below_same {w w' : World} (h : w = w') : Below w.heap.size w w' := by rw [← h]; exact Below.refl _ _
theorem link_eq {d : ChartD} {l : List PassageD} {k : Nat} {p q z : PassageD} (hp : l[k]? = some p) (hq : l[k - 1]? = some q) (hz : l[0]? = some z) :
    linkB d l k = ((p.ship == z.ship) && inB p.segment 0 ((d.segs.length : Int) - 1) && (decide (k = 0) || (match segAt d p.segment, segAt d q.segment with | some g, some h => (headOf g p.toward == tailOf h q.toward) && decide (q.stop ≤ p.start) | _, _ => false))) := by
  unfold linkB; rw [hp, hq, hz]; rfl
theorem link_in {d : ChartD} {l : List PassageD} {k : Nat} {p : PassageD} (h : LinkTo d l (k + 1)) (hp : l[k]? = some p) : inB p.segment 0 ((d.segs.length : Int) - 1) = true := by
  have hk : k < l.length := (List.getElem?_eq_some_iff.1 hp).1
  have h1 := h k (by omega)
  obtain ⟨q, hq⟩ : ∃ q, l[k - 1]? = some q := ⟨_, List.getElem?_eq_getElem (by omega)⟩
  obtain ⟨z, hz⟩ : ∃ z, l[0]? = some z := ⟨_, List.getElem?_eq_getElem (by omega)⟩
  rw [link_eq hp hq hz] at h1
  simp only [Bool.and_eq_true] at h1
  exact h1.1.2
set_option maxHeartbeats 8000000 in
theorem specIsChain (yd0 yd1 : Value) (d : ChartD) (yl : Value) (l : List PassageD) (w : World) (rd : RdChart w yd0 yd1 d) (rl : SlPassage w yl l) (fd : ∀ x ∈ d.points, PointD.wf x) :
    Calls Try.prog 37 #[.agg #[yd0, yd1], yl] w (fun e w' => e = .returned (.bool (chainB d l)) ∧ Below w.heap.size w w') := by
  have Rd := Lib.hid rd
  obtain ⟨rd0, rd1⟩ := rd
  obtain ⟨Ad0, cd0, rfl⟩ := SlOf.form rd0
  obtain ⟨Ad1, cd1, rfl⟩ := SlOf.form rd1
  have Nd := Lib.hid fd
  clear fd
  clear rd0 rd1
  have Rl := Lib.hid rl
  obtain ⟨Al, cl, rfl⟩ := SlOf.form rl
  clear rl
  obtain ⟨W0, hW0⟩ : ∃ W0, W0 = (w.alloc (.cells #[.slice Ad0 d.points.length cd0, .slice Ad1 d.segs.length cd1] 32)) := ⟨_, rfl⟩
  have B := Lib.hid (Joins.below_alloc1 w (.cells #[.slice Ad0 d.points.length cd0, .slice Ad1 d.segs.length cd1] 32))
  have Kd := Lib.hid (Blk.new w #[.slice Ad0 d.points.length cd0, .slice Ad1 d.segs.length cd1] 32)
  have HW0 := Lib.hid hW0
  rw [← hW0] at B Kd
  clear hW0
  have hdl := Rd.out.2.1
  have hll := Rl.out.1
  obtain ⟨b1, hb1⟩ : ∃ b, chartB d = b := ⟨_, rfl⟩
  have H1 := Lib.hid hb1
  cases b1 with
  | false =>
    have E := Lib.hid (chainB_bad (l := l) hb1)
    clear hb1
    go_enter Try.func37, Try.ntmps37
    have vd0 : W0.cell? ⟨w.heap.size, 0, none⟩ = some (.slice Ad0 d.points.length cd0) := Kd.out.cell 0
    have vd1 : W0.cell? ⟨w.heap.size, 1, none⟩ = some (.slice Ad1 d.segs.length cd1) := Kd.out.cell 1
    go_wp2_with fail
    rw [← HW0.out]
    clear vd0 vd1
    refine (specChartOk _ _ d _ (Rd.out.below B.out) Nd.out).mono ?_
    rw [H1.out]
    rintro e w1 ⟨rfl, hb1⟩
    have B1 := Lib.hid (B.out.trans (hb1.mono B.out.size))
    have Kd_1 := Lib.hid (Kd.out.below hb1)
    clear hb1
    go_wp2
    go_ret
    exact ⟨ret_bool E.out.symm, B1.out⟩
  | true =>
  clear hb1
  go_enter Try.func37, Try.ntmps37
  have vd0 : W0.cell? ⟨w.heap.size, 0, none⟩ = some (.slice Ad0 d.points.length cd0) := Kd.out.cell 0
  have vd1 : W0.cell? ⟨w.heap.size, 1, none⟩ = some (.slice Ad1 d.segs.length cd1) := Kd.out.cell 1
  go_wp2_with fail
  rw [← HW0.out]
  clear vd0 vd1
  refine (specChartOk _ _ d _ (Rd.out.below B.out) Nd.out).mono ?_
  rw [H1.out]
  rintro e w1 ⟨rfl, hb1⟩
  have B1 := Lib.hid (B.out.trans (hb1.mono B.out.size))
  have Kd_1 := Lib.hid (Kd.out.below hb1)
  clear hb1
  go_wp2
  go_loopw [16] (fun i wr => ∃ k : Nat, k ≤ l.length ∧ i = .int .i64 (k : Int) ∧ Hid (LinkTo d l k) ∧ Hid (Below w1.heap.size w1 wr)) (fun i _ => l.length - (intOf i).toNat)
  case atStart => exact ⟨0, Nat.zero_le _, rfl, Lib.hid (LinkTo.zero d l), Lib.hid (Below.refl _ _)⟩
  case round =>
    obtain ⟨k, hk, rfl, hL, hb⟩ := hrel
    have BR := Lib.hid (B1.out.trans (hb.out.mono B1.out.size))
    have hzs := hb.out.size
    by_cases hlt : k < l.length
    rotate_left
    · obtain rfl : k = l.length := by omega
      have E := Lib.hid (chainB_yes H1.out hL.out)
      go_wp2
      go_ret
      exact ⟨ret_bool E.out.symm, BR.out⟩
    obtain ⟨p, hp⟩ : ∃ x, l[k]? = some x := ⟨_, List.getElem?_eq_getElem hlt⟩
    obtain ⟨z, hz⟩ : ∃ x, l[0]? = some x := ⟨_, List.getElem?_eq_getElem (by omega)⟩
    obtain ⟨q, hq⟩ : ∃ x, l[k - 1]? = some x := ⟨_, List.getElem?_eq_getElem (by omega)⟩
    have HLK := Lib.hid (link_eq (d := d) hp hq hz)
    have HNO := Lib.hid (fun h : linkB d l k = false => chainB_no hlt h)
    have HNX := Lib.hid (fun h : linkB d l k = true => hL.out.next h)
    have HQI := Lib.hid (fun (j : Nat) (hj : k = j + 1) => link_in (k := j) (p := q) (by rw [← hj]; exact hL.out) (by rw [← hq, hj]; rfl))
    rcases Rl.out.2 with ⟨he, _⟩ | ⟨gl, ol, cl', e, lpos, lcap, lc⟩
    · rw [he] at hlt; simp at hlt
    injection e with hA' _ hcp'
    subst hA' hcp'
    obtain ⟨p0, p1, p2, p3, p4⟩ := SlPassage.cells lc k p hp
    obtain ⟨q0, q1, q2, q3, q4⟩ := SlPassage.cells lc (k - 1) q hq
    have z0 := (SlPassage.cells lc 0 z hz).1
    rw [Nat.zero_mul, Nat.add_zero] at z0
    have y0 := cell_onV p0 BR.out
    have y1 := cell_onV p1 BR.out
    have y2 := cell_onV p2 BR.out
    have y3 := cell_onV p3 BR.out
    have y4 := cell_onV p4 BR.out
    have ZQ0 := Lib.hid q0
    have ZQ1 := Lib.hid q1
    have ZQ2 := Lib.hid q2
    have ZQ3 := Lib.hid q3
    have ZQ4 := Lib.hid q4
    have ZZ := Lib.hid z0
    clear p0 p1 p2 p3 p4 q0 q1 q2 q3 q4 z0 lc hp hq hz hL
    go_upto_region 6 with fail
    have BL := Joins.below_alloc1 wr (.cells #[.int .i64 p.ship, .int .i64 p.segment, .bool p.toward, .int .i64 p.start, .int .i64 p.stop] 67)
    have KN := Blk.new wr #[.int .i64 p.ship, .int .i64 p.segment, .bool p.toward, .int .i64 p.start, .int .i64 p.stop] 67
    obtain ⟨w6, hw6⟩ : ∃ w6, w6 = wr.alloc (.cells #[.int .i64 p.ship, .int .i64 p.segment, .bool p.toward, .int .i64 p.start, .int .i64 p.stop] 67) := ⟨_, rfl⟩
    rw [← hw6] at BL KN ⊢
    have B6 := Lib.hid (BR.out.trans (BL.mono BR.out.size))
    have Kd_6 := Lib.hid ((Kd_1.out.below hb.out).below BL)
    have KP := Lib.hid KN
    have hb6 := Lib.hid (hb.out.trans (BL.mono hb.out.size))
    clear hw6 BL KN y0 y1 y2 y3 y4 hb hzs
    have FP0 := Lib.hid (show w6.cell? ⟨wr.heap.size, 0, none⟩ = some (.int .i64 p.ship) from KP.out.cell 0)
    have FP1 := Lib.hid (show w6.cell? ⟨wr.heap.size, 1, none⟩ = some (.int .i64 p.segment) from KP.out.cell 1)
    have FP2 := Lib.hid (show w6.cell? ⟨wr.heap.size, 2, none⟩ = some (.bool p.toward) from KP.out.cell 2)
    have FP3 := Lib.hid (show w6.cell? ⟨wr.heap.size, 3, none⟩ = some (.int .i64 p.start) from KP.out.cell 3)
    have FP4 := Lib.hid (show w6.cell? ⟨wr.heap.size, 4, none⟩ = some (.int .i64 p.stop) from KP.out.cell 4)
    have FZ := Lib.hid (show w6.cell? ⟨gl, ol, none⟩ = some (.int .i64 z.ship) from cell_onV ZZ.out B6.out)
    obtain ⟨bs, hbs⟩ : ∃ b, (p.ship == z.ship) = b := ⟨_, rfl⟩
    have hbs' : (p.ship != z.ship) = !bs := by rw [bne, hbs]
    have HS := Lib.hid hbs
    obtain ⟨bi, hbi⟩ : ∃ b, inB p.segment 0 ((d.segs.length : Int) - 1) = b := ⟨_, rfl⟩
    have HBI := Lib.hid hbi
    have hl0 : 0 < l.length := by omega
    have WDL := Lib.hid (show IntKind.i64.wrap ((d.segs.length : Int) - 1) = (d.segs.length : Int) - 1 by rw [IntKind.wrap_i64]; omega)
    clear hbi
    cases bs with
    | false =>
      have E := Lib.hid (HNO.out (by rw [HLK.out, HS.out]; simp))
      have Fd0 := Lib.hid (show w6.cell? ⟨w.heap.size, 0, none⟩ = some (.slice Ad0 d.points.length cd0) from Kd_6.out.cell 0)
      have Fd1 := Lib.hid (show w6.cell? ⟨w.heap.size, 1, none⟩ = some (.slice Ad1 d.segs.length cd1) from Kd_6.out.cell 1)
      have DD := Lib.hid ((Below.refl w6.heap.size w6).drew)
      have vFd0 := Fd0.out
      have vFd1 := Fd1.out
      have vFP0 := FP0.out
      have vFP1 := FP1.out
      have vFP2 := FP2.out
      have vFP3 := FP3.out
      have vFP4 := FP4.out
      have vFZ := FZ.out
      refine wp_region_held_drew (S := (fun w' => w'.cell? ⟨w.heap.size, 0, none⟩ = some (.slice Ad0 d.points.length cd0) ∧ w'.cell? ⟨w.heap.size, 1, none⟩ = some (.slice Ad1 d.segs.length cd1) ∧ w'.cell? ⟨wr.heap.size, 0, none⟩ = some (.int .i64 p.ship) ∧ w'.cell? ⟨wr.heap.size, 1, none⟩ = some (.int .i64 p.segment) ∧ w'.cell? ⟨wr.heap.size, 2, none⟩ = some (.bool p.toward) ∧ w'.cell? ⟨wr.heap.size, 3, none⟩ = some (.int .i64 p.start) ∧ w'.cell? ⟨wr.heap.size, 4, none⟩ = some (.int .i64 p.stop) ∧ w'.cell? ⟨gl, ol, none⟩ = some (.int .i64 z.ship) ∧ Hid (Below w6.heap.size w6 w'))) (by kernel_rfl) ?_ (fun hHeld => ?_)
      · (try dsimp only); go_keep
      refine wpAnyH_take (i := 0) (v := ?_) (by simp only [List.getElem?_toArray, List.getElem?_cons_zero]; rfl) (by kernel_rfl) (by kernel_rfl) (by kernel_rfl) (by exact fun _ _ _ h => h) (Or.inl ⟨by rfl, ?_⟩) (by assumption) ?_; rotate_left; focus (intro w hSw; (try dsimp only at hSw); first | (go_simp; done) | (go_simp; with_reducible rfl))
      try simp only [Act.put, List.setIfInBounds_toArray, List.set_cons_zero, List.set_cons_succ]
      refine wpAnyH_take (i := 1) (v := ?_) (by simp only [List.getElem?_toArray, List.getElem?_cons_succ, List.getElem?_cons_zero]; rfl) (by kernel_rfl) (by kernel_rfl) (by kernel_rfl) (by exact fun _ _ _ h => h) (Or.inl ⟨by rfl, ?_⟩) (by assumption) ?_; rotate_left; focus (intro w hSw; (try dsimp only at hSw); first | (go_simp; done) | (go_simp; with_reducible rfl))
      try simp only [Act.put, List.setIfInBounds_toArray, List.set_cons_zero, List.set_cons_succ]
      refine wpAnyH_take (i := 2) (v := ?_) (by simp only [List.getElem?_toArray, List.getElem?_cons_succ, List.getElem?_cons_zero]; rfl) (by kernel_rfl) (by kernel_rfl) (by kernel_rfl) (by exact fun _ _ _ h => h) (Or.inl ⟨by rfl, ?_⟩) (by assumption) ?_; rotate_left; focus (intro w hSw; (try dsimp only at hSw); first | (go_simp; done) | (go_simp; with_reducible rfl))
      try simp only [Act.put, List.setIfInBounds_toArray, List.set_cons_zero, List.set_cons_succ]
      refine wpAnyH_take (i := 3) (v := ?_) (by simp only [List.getElem?_toArray, List.getElem?_cons_succ, List.getElem?_cons_zero]; rfl) (by kernel_rfl) (by kernel_rfl) (by kernel_rfl) (by exact fun _ _ _ h => h) (Or.inl ⟨by rfl, ?_⟩) (by assumption) ?_; rotate_left; focus (intro w hSw; (try dsimp only at hSw); first | (go_simp; done) | (go_simp; with_reducible rfl))
      try simp only [Act.put, List.setIfInBounds_toArray, List.set_cons_zero, List.set_cons_succ]
      refine wpAnyH_take (i := 4) (v := ?_) (by simp only [List.getElem?_toArray, List.getElem?_cons_succ, List.getElem?_cons_zero]; rfl) (by kernel_rfl) (by kernel_rfl) (by kernel_rfl) (by exact fun _ _ _ h => h) (Or.inl ⟨by rfl, ?_⟩) (by assumption) ?_; rotate_left; focus (intro w hSw; (try dsimp only at hSw); first | (go_simp; done) | (go_simp; with_reducible rfl))
      try simp only [Act.put, List.setIfInBounds_toArray, List.set_cons_zero, List.set_cons_succ]
      refine wpAnyH_take (i := 5) (v := ?_) (by simp only [List.getElem?_toArray, List.getElem?_cons_succ, List.getElem?_cons_zero]; rfl) (by kernel_rfl) (by kernel_rfl) (by kernel_rfl) (by exact fun _ _ _ h => h) (Or.inl ⟨by rfl, ?_⟩) (by assumption) ?_; rotate_left; focus (intro w hSw; (try dsimp only at hSw); first | (go_simp; done) | (go_simp; with_reducible rfl))
      try simp only [Act.put, List.setIfInBounds_toArray, List.set_cons_zero, List.set_cons_succ]
      refine wpAnyH_take (i := 6) (v := ?_) (by simp only [List.getElem?_toArray, List.getElem?_cons_succ, List.getElem?_cons_zero]; rfl) (by kernel_rfl) (by kernel_rfl) (by kernel_rfl) (by exact fun _ _ _ h => h) (Or.inl ⟨by rfl, ?_⟩) (by assumption) ?_; rotate_left; focus (intro w hSw; (try dsimp only at hSw); first | (go_simp; done) | (go_simp; with_reducible rfl))
      try simp only [Act.put, List.setIfInBounds_toArray, List.set_cons_zero, List.set_cons_succ]
      refine wpAnyH_take (i := 7) (v := ?_) (by simp only [List.getElem?_toArray, List.getElem?_cons_succ, List.getElem?_cons_zero]; rfl) (by kernel_rfl) (by kernel_rfl) (by kernel_rfl) (by exact fun _ _ _ h => h) (Or.inl ⟨by rfl, ?_⟩) (by assumption) ?_; rotate_left; focus (intro w hSw; (try dsimp only at hSw); first | (go_simp; done) | (go_simp; with_reducible rfl))
      try simp only [Act.put, List.setIfInBounds_toArray, List.set_cons_zero, List.set_cons_succ]
      refine wpAnyH_take (i := 8) (v := undef) (by simp only [List.getElem?_toArray, List.getElem?_cons_succ, List.getElem?_cons_zero]; rfl) (by kernel_rfl) (by kernel_rfl) (by kernel_rfl) (by exact fun _ _ _ h => h) (Or.inr ⟨by rfl, rfl⟩) (by assumption) ?_
      try simp only [Act.put, List.setIfInBounds_toArray, List.set_cons_zero, List.set_cons_succ]
      refine wpAnyH_take (i := 9) (v := undef) (by simp only [List.getElem?_toArray, List.getElem?_cons_succ, List.getElem?_cons_zero]; rfl) (by kernel_rfl) (by kernel_rfl) (by kernel_rfl) (by exact fun _ _ _ h => h) (Or.inr ⟨by rfl, rfl⟩) (by assumption) ?_
      try simp only [Act.put, List.setIfInBounds_toArray, List.set_cons_zero, List.set_cons_succ]
      refine wpAnyH_take (i := 10) (v := undef) (by simp only [List.getElem?_toArray, List.getElem?_cons_succ, List.getElem?_cons_zero]; rfl) (by kernel_rfl) (by kernel_rfl) (by kernel_rfl) (by exact fun _ _ _ h => h) (Or.inr ⟨by rfl, rfl⟩) (by assumption) ?_
      try simp only [Act.put, List.setIfInBounds_toArray, List.set_cons_zero, List.set_cons_succ]
      refine wpAnyH_take (i := 11) (v := undef) (by simp only [List.getElem?_toArray, List.getElem?_cons_succ, List.getElem?_cons_zero]; rfl) (by kernel_rfl) (by kernel_rfl) (by kernel_rfl) (by exact fun _ _ _ h => h) (Or.inr ⟨by rfl, rfl⟩) (by assumption) ?_
      try simp only [Act.put, List.setIfInBounds_toArray, List.set_cons_zero, List.set_cons_succ]
      refine wpAnyH_take (i := 12) (v := undef) (by simp only [List.getElem?_toArray, List.getElem?_cons_succ, List.getElem?_cons_zero]; rfl) (by kernel_rfl) (by kernel_rfl) (by kernel_rfl) (by exact fun _ _ _ h => h) (Or.inr ⟨by rfl, rfl⟩) (by assumption) ?_
      try simp only [Act.put, List.setIfInBounds_toArray, List.set_cons_zero, List.set_cons_succ]
      refine wpAnyH_take (i := 13) (v := undef) (by simp only [List.getElem?_toArray, List.getElem?_cons_succ, List.getElem?_cons_zero]; rfl) (by kernel_rfl) (by kernel_rfl) (by kernel_rfl) (by exact fun _ _ _ h => h) (Or.inr ⟨by rfl, rfl⟩) (by assumption) ?_
      try simp only [Act.put, List.setIfInBounds_toArray, List.set_cons_zero, List.set_cons_succ]
      refine wpAnyH_take (i := 14) (v := undef) (by simp only [List.getElem?_toArray, List.getElem?_cons_succ, List.getElem?_cons_zero]; rfl) (by kernel_rfl) (by kernel_rfl) (by kernel_rfl) (by exact fun _ _ _ h => h) (Or.inr ⟨by rfl, rfl⟩) (by assumption) ?_
      try simp only [Act.put, List.setIfInBounds_toArray, List.set_cons_zero, List.set_cons_succ]
      refine wpAnyH_take (i := 15) (v := undef) (by simp only [List.getElem?_toArray, List.getElem?_cons_succ, List.getElem?_cons_zero]; rfl) (by kernel_rfl) (by kernel_rfl) (by kernel_rfl) (by exact fun _ _ _ h => h) (Or.inr ⟨by rfl, rfl⟩) (by assumption) ?_
      try simp only [Act.put, List.setIfInBounds_toArray, List.set_cons_zero, List.set_cons_succ]
      refine wpAnyH_take (i := 16) (v := ?_) (by simp only [List.getElem?_toArray, List.getElem?_cons_succ, List.getElem?_cons_zero]; rfl) (by kernel_rfl) (by kernel_rfl) (by kernel_rfl) (by exact fun _ _ _ h => h) (Or.inl ⟨by rfl, ?_⟩) (by assumption) ?_; rotate_left; focus (intro w hSw; (try dsimp only at hSw); first | (go_simp; done) | (go_simp; with_reducible rfl))
      try simp only [Act.put, List.setIfInBounds_toArray, List.set_cons_zero, List.set_cons_succ]
      refine wpAnyH_done (by kernel_rfl) ?_ _
      go_wp2
      go_ret
      exact ⟨ret_bool E.out.symm, B6.out.trans (hHeld.2.2.2.2.2.2.2.2.out.mono B6.out.size)⟩
    | true =>
      have Fd0 := Lib.hid (show w6.cell? ⟨w.heap.size, 0, none⟩ = some (.slice Ad0 d.points.length cd0) from Kd_6.out.cell 0)
      have Fd1 := Lib.hid (show w6.cell? ⟨w.heap.size, 1, none⟩ = some (.slice Ad1 d.segs.length cd1) from Kd_6.out.cell 1)
      have DD := Lib.hid ((Below.refl w6.heap.size w6).drew)
      have vFd0 := Fd0.out
      have vFd1 := Fd1.out
      have vFP0 := FP0.out
      have vFP1 := FP1.out
      have vFP2 := FP2.out
      have vFP3 := FP3.out
      have vFP4 := FP4.out
      have vFZ := FZ.out
      refine wp_region_held_drew (S := (fun w' => w'.cell? ⟨w.heap.size, 0, none⟩ = some (.slice Ad0 d.points.length cd0) ∧ w'.cell? ⟨w.heap.size, 1, none⟩ = some (.slice Ad1 d.segs.length cd1) ∧ w'.cell? ⟨wr.heap.size, 0, none⟩ = some (.int .i64 p.ship) ∧ w'.cell? ⟨wr.heap.size, 1, none⟩ = some (.int .i64 p.segment) ∧ w'.cell? ⟨wr.heap.size, 2, none⟩ = some (.bool p.toward) ∧ w'.cell? ⟨wr.heap.size, 3, none⟩ = some (.int .i64 p.start) ∧ w'.cell? ⟨wr.heap.size, 4, none⟩ = some (.int .i64 p.stop) ∧ w'.cell? ⟨gl, ol, none⟩ = some (.int .i64 z.ship) ∧ Hid (Below w6.heap.size w6 w'))) (by kernel_rfl) ?_ (fun hHeld => ?_)
      · (try dsimp only); go_keep
      refine wpAnyH_take (i := 0) (v := ?_) (by simp only [List.getElem?_toArray, List.getElem?_cons_zero]; rfl) (by kernel_rfl) (by kernel_rfl) (by kernel_rfl) (by exact fun _ _ _ h => h) (Or.inl ⟨by rfl, ?_⟩) (by assumption) ?_; rotate_left; focus (intro w hSw; (try dsimp only at hSw); first | (go_simp; done) | (go_simp; with_reducible rfl))
      try simp only [Act.put, List.setIfInBounds_toArray, List.set_cons_zero, List.set_cons_succ]
      refine wpAnyH_take (i := 1) (v := ?_) (by simp only [List.getElem?_toArray, List.getElem?_cons_succ, List.getElem?_cons_zero]; rfl) (by kernel_rfl) (by kernel_rfl) (by kernel_rfl) (by exact fun _ _ _ h => h) (Or.inl ⟨by rfl, ?_⟩) (by assumption) ?_; rotate_left; focus (intro w hSw; (try dsimp only at hSw); first | (go_simp; done) | (go_simp; with_reducible rfl))
      try simp only [Act.put, List.setIfInBounds_toArray, List.set_cons_zero, List.set_cons_succ]
      refine wpAnyH_take (i := 2) (v := ?_) (by simp only [List.getElem?_toArray, List.getElem?_cons_succ, List.getElem?_cons_zero]; rfl) (by kernel_rfl) (by kernel_rfl) (by kernel_rfl) (by exact fun _ _ _ h => h) (Or.inl ⟨by rfl, ?_⟩) (by assumption) ?_; rotate_left; focus (intro w hSw; (try dsimp only at hSw); first | (go_simp; done) | (go_simp; with_reducible rfl))
      try simp only [Act.put, List.setIfInBounds_toArray, List.set_cons_zero, List.set_cons_succ]
      refine wpAnyH_take (i := 3) (v := ?_) (by simp only [List.getElem?_toArray, List.getElem?_cons_succ, List.getElem?_cons_zero]; rfl) (by kernel_rfl) (by kernel_rfl) (by kernel_rfl) (by exact fun _ _ _ h => h) (Or.inl ⟨by rfl, ?_⟩) (by assumption) ?_; rotate_left; focus (intro w hSw; (try dsimp only at hSw); first | (go_simp; done) | (go_simp; with_reducible rfl))
      try simp only [Act.put, List.setIfInBounds_toArray, List.set_cons_zero, List.set_cons_succ]
      refine wpAnyH_take (i := 4) (v := ?_) (by simp only [List.getElem?_toArray, List.getElem?_cons_succ, List.getElem?_cons_zero]; rfl) (by kernel_rfl) (by kernel_rfl) (by kernel_rfl) (by exact fun _ _ _ h => h) (Or.inl ⟨by rfl, ?_⟩) (by assumption) ?_; rotate_left; focus (intro w hSw; (try dsimp only at hSw); first | (go_simp; done) | (go_simp; with_reducible rfl))
      try simp only [Act.put, List.setIfInBounds_toArray, List.set_cons_zero, List.set_cons_succ]
      refine wpAnyH_take (i := 5) (v := ?_) (by simp only [List.getElem?_toArray, List.getElem?_cons_succ, List.getElem?_cons_zero]; rfl) (by kernel_rfl) (by kernel_rfl) (by kernel_rfl) (by exact fun _ _ _ h => h) (Or.inl ⟨by rfl, ?_⟩) (by assumption) ?_; rotate_left; focus (intro w hSw; (try dsimp only at hSw); first | (go_simp; done) | (go_simp; with_reducible rfl))
      try simp only [Act.put, List.setIfInBounds_toArray, List.set_cons_zero, List.set_cons_succ]
      refine wpAnyH_take (i := 6) (v := ?_) (by simp only [List.getElem?_toArray, List.getElem?_cons_succ, List.getElem?_cons_zero]; rfl) (by kernel_rfl) (by kernel_rfl) (by kernel_rfl) (by exact fun _ _ _ h => h) (Or.inl ⟨by rfl, ?_⟩) (by assumption) ?_; rotate_left; focus (intro w hSw; (try dsimp only at hSw); first | (go_simp; done) | (go_simp; with_reducible rfl))
      try simp only [Act.put, List.setIfInBounds_toArray, List.set_cons_zero, List.set_cons_succ]
      refine wpAnyH_take (i := 7) (v := ?_) (by simp only [List.getElem?_toArray, List.getElem?_cons_succ, List.getElem?_cons_zero]; rfl) (by kernel_rfl) (by kernel_rfl) (by kernel_rfl) (by exact fun _ _ _ h => h) (Or.inl ⟨by rfl, ?_⟩) (by assumption) ?_; rotate_left; focus (intro w hSw; (try dsimp only at hSw); first | (go_simp; done) | (go_simp; with_reducible rfl))
      try simp only [Act.put, List.setIfInBounds_toArray, List.set_cons_zero, List.set_cons_succ]
      refine wpAnyH_take (i := 8) (v := ?_) (by simp only [List.getElem?_toArray, List.getElem?_cons_succ, List.getElem?_cons_zero]; rfl) (by kernel_rfl) (by kernel_rfl) (by kernel_rfl) (by exact fun _ _ _ h => h) (Or.inl ⟨by rfl, ?_⟩) (by assumption) ?_; rotate_left; focus (intro w hSw; (try dsimp only at hSw); first | (go_simp; done) | (go_simp; with_reducible rfl))
      try simp only [Act.put, List.setIfInBounds_toArray, List.set_cons_zero, List.set_cons_succ]
      refine wpAnyH_take (i := 9) (v := ?_) (by simp only [List.getElem?_toArray, List.getElem?_cons_succ, List.getElem?_cons_zero]; rfl) (by kernel_rfl) (by kernel_rfl) (by kernel_rfl) (by exact fun _ _ _ h => h) (Or.inl ⟨by rfl, ?_⟩) (by assumption) ?_; rotate_left; focus (intro w hSw; (try dsimp only at hSw); first | (go_simp; done) | (go_simp; with_reducible rfl))
      try simp only [Act.put, List.setIfInBounds_toArray, List.set_cons_zero, List.set_cons_succ]
      refine wpAnyH_take (i := 10) (v := ?_) (by simp only [List.getElem?_toArray, List.getElem?_cons_succ, List.getElem?_cons_zero]; rfl) (by kernel_rfl) (by kernel_rfl) (by kernel_rfl) (by exact fun _ _ _ h => h) (Or.inl ⟨by rfl, ?_⟩) (by assumption) ?_; rotate_left; focus (intro w hSw; (try dsimp only at hSw); first | (go_simp; done) | (go_simp; with_reducible rfl))
      try simp only [Act.put, List.setIfInBounds_toArray, List.set_cons_zero, List.set_cons_succ]
      refine wpAnyH_take (i := 11) (v := ?_) (by simp only [List.getElem?_toArray, List.getElem?_cons_succ, List.getElem?_cons_zero]; rfl) (by kernel_rfl) (by kernel_rfl) (by kernel_rfl) (by exact fun _ _ _ h => h) (Or.inl ⟨by rfl, ?_⟩) (by assumption) ?_; rotate_left; focus (intro w hSw; (try dsimp only at hSw); first | (go_simp; done) | (go_simp; with_reducible rfl))
      try simp only [Act.put, List.setIfInBounds_toArray, List.set_cons_zero, List.set_cons_succ]
      refine wpAnyH_take (i := 12) (v := ?_) (by simp only [List.getElem?_toArray, List.getElem?_cons_succ, List.getElem?_cons_zero]; rfl) (by kernel_rfl) (by kernel_rfl) (by kernel_rfl) (by exact fun _ _ _ h => h) (Or.inl ⟨by rfl, ?_⟩) (by assumption) ?_; rotate_left; focus (intro w hSw; (try dsimp only at hSw); first | (go_simp; done) | (go_simp; with_reducible rfl))
      try simp only [Act.put, List.setIfInBounds_toArray, List.set_cons_zero, List.set_cons_succ]
      refine wpAnyH_take (i := 13) (v := ?_) (by simp only [List.getElem?_toArray, List.getElem?_cons_succ, List.getElem?_cons_zero]; rfl) (by kernel_rfl) (by kernel_rfl) (by kernel_rfl) (by exact fun _ _ _ h => h) (Or.inl ⟨by rfl, ?_⟩) (by assumption) ?_; rotate_left; focus (intro w hSw; (try dsimp only at hSw); first | (go_simp; done) | (go_simp; with_reducible rfl))
      try simp only [Act.put, List.setIfInBounds_toArray, List.set_cons_zero, List.set_cons_succ]
      refine wpAnyH_ready (rs := [14]) (by kernel_rfl) (by simp) ?_
      refine AllReadyH.cons rfl (fun K hK => ?_) AllReadyH.nil
      rw [if_pos (by rfl)]
      go_simp
      go_at_call 62
      have kB := hHeld.2.2.2.2.2.2.2.2
      refine ((l01In_any _ _ _ _)).mono ?_
      first | rw [HBI.out] | rw [WDL.out, HBI.out]
      rintro e wq6_14 ⟨rfl, hbk1⟩
      have hbk := below_same hbk1
      have HBK := kB.out.trans (hbk.mono kB.out.size)
      have QS := Lib.hid (show wq6_14.cell? ⟨w.heap.size, 0, none⟩ = some (.slice Ad0 d.points.length cd0) ∧ wq6_14.cell? ⟨w.heap.size, 1, none⟩ = some (.slice Ad1 d.segs.length cd1) ∧ wq6_14.cell? ⟨wr.heap.size, 0, none⟩ = some (.int .i64 p.ship) ∧ wq6_14.cell? ⟨wr.heap.size, 1, none⟩ = some (.int .i64 p.segment) ∧ wq6_14.cell? ⟨wr.heap.size, 2, none⟩ = some (.bool p.toward) ∧ wq6_14.cell? ⟨wr.heap.size, 3, none⟩ = some (.int .i64 p.start) ∧ wq6_14.cell? ⟨wr.heap.size, 4, none⟩ = some (.int .i64 p.stop) ∧ wq6_14.cell? ⟨gl, ol, none⟩ = some (.int .i64 z.ship) ∧ Hid (Below w6.heap.size w6 wq6_14) from ⟨cell_onV Fd0.out HBK, cell_onV Fd1.out HBK, cell_onV FP0.out HBK, cell_onV FP1.out HBK, cell_onV FP2.out HBK, cell_onV FP3.out HBK, cell_onV FP4.out HBK, cell_onV FZ.out HBK, Lib.hid HBK⟩)
      clear hbk kB hHeld HBK
      go_simp
      refine hK.out _ _ ?_ (fun hHeld => ?_)
      · (try dsimp only); exact QS.out
      clear hK K
      try simp only [Act.put, List.setIfInBounds_toArray, List.set_cons_zero, List.set_cons_succ]
      refine wpAnyH_take (i := 15) (v := ?_) (by simp only [List.getElem?_toArray, List.getElem?_cons_succ, List.getElem?_cons_zero]; rfl) (by kernel_rfl) (by kernel_rfl) (by kernel_rfl) (by exact fun _ _ _ h => h) (Or.inl ⟨by rfl, ?_⟩) (by assumption) ?_; rotate_left; focus (intro w hSw; (try dsimp only at hSw); first | (go_simp; done) | (go_simp; with_reducible rfl))
      try simp only [Act.put, List.setIfInBounds_toArray, List.set_cons_zero, List.set_cons_succ]
      refine wpAnyH_take (i := 16) (v := ?_) (by simp only [List.getElem?_toArray, List.getElem?_cons_succ, List.getElem?_cons_zero]; rfl) (by kernel_rfl) (by kernel_rfl) (by kernel_rfl) (by exact fun _ _ _ h => h) (Or.inl ⟨by rfl, ?_⟩) (by assumption) ?_; rotate_left; focus (intro w hSw; (try dsimp only at hSw); first | (go_simp; done) | (go_simp; with_reducible rfl))
      try simp only [Act.put, List.setIfInBounds_toArray, List.set_cons_zero, List.set_cons_succ]
      refine wpAnyH_done (by kernel_rfl) ?_ _
      have BK := Lib.hid hHeld.2.2.2.2.2.2.2.2.out
      skip
      cases bi with
      | false =>
        have E := Lib.hid (HNO.out (by rw [HLK.out, HBI.out]; simp))
        go_wp2
        go_ret
        exact ⟨ret_bool E.out.symm, B6.out.trans (BK.out.mono B6.out.size)⟩
      | true =>
      have B7 := Lib.hid (B6.out.trans (BK.out.mono B6.out.size))
      have Kd_7 := Lib.hid (Kd_6.out.below BK.out)
      have KP7 := Lib.hid (KP.out.below BK.out)
      have hb7 := Lib.hid (hb6.out.trans (BK.out.mono hb6.out.size))
      clear BK hHeld DD
      by_cases hk0 : k = 0
      · subst hk0
        have E := Lib.hid (HNX.out (by rw [HLK.out, HS.out, HBI.out]; rfl))
        go_wp2
        go_roundw
        case rel => exact ⟨1, by omega, by go_num, E, hb7⟩
        case measure => simp [intOf]; omega
      obtain ⟨j, hj⟩ : ∃ j, k = j + 1 := ⟨k - 1, by omega⟩
      have hqi := HQI.out j hj
      obtain ⟨g, hg, -⟩ := segAt_in HBI.out
      obtain ⟨h, hh, -⟩ := segAt_in hqi
      have HG := Lib.hid hg
      have HH := Lib.hid hh
      have HL2 := Lib.hid (show linkB d l k = ((headOf g p.toward == tailOf h q.toward) && decide (q.stop ≤ p.start)) by rw [HLK.out, HS.out, HBI.out, decide_eq_false hk0, hg, hh]; simp)
      have hkz : ((k : Int) == 0) = false := by simpa using hk0
      have hkz' : ¬ ((k : Int) = 0) := by omega
      have wj : IntKind.i64.wrap ((k : Int) - 1) = (j : Int) := by rw [IntKind.wrap_i64]; omega
      have hjl : j < l.length := by omega
      have HKJ := Lib.hid (show k - 1 = j by omega)
      clear hg hh hqi hj
      have vd0 : wq6_14.cell? ⟨w.heap.size, 0, none⟩ = some (.slice Ad0 d.points.length cd0) := Kd_7.out.cell 0
      have vd1 : wq6_14.cell? ⟨w.heap.size, 1, none⟩ = some (.slice Ad1 d.segs.length cd1) := Kd_7.out.cell 1
      have u0 : wq6_14.cell? ⟨wr.heap.size, 0, none⟩ = some (.int .i64 p.ship) := KP7.out.cell 0
      have u1 : wq6_14.cell? ⟨wr.heap.size, 1, none⟩ = some (.int .i64 p.segment) := KP7.out.cell 1
      have u2 : wq6_14.cell? ⟨wr.heap.size, 2, none⟩ = some (.bool p.toward) := KP7.out.cell 2
      have u3 : wq6_14.cell? ⟨wr.heap.size, 3, none⟩ = some (.int .i64 p.start) := KP7.out.cell 3
      have u4 : wq6_14.cell? ⟨wr.heap.size, 4, none⟩ = some (.int .i64 p.stop) := KP7.out.cell 4
      go_wp2_with fail
      clear vd0 vd1 u0 u1 u2 u3 u4
      refine (l08Ends_any _ _ d p.ship p.segment p.start p.stop p.toward g _ (Rd.out.below B7.out) HG.out).mono ?_
      rintro e w8 ⟨rfl, hb8⟩
      have B8 := Lib.hid (B7.out.trans (hb8.mono B7.out.size))
      have Kd_8 := Lib.hid (Kd_7.out.below hb8)
      have KP8 := Lib.hid (KP7.out.below hb8)
      have hbw8 := Lib.hid (hb7.out.trans (hb8.mono hb7.out.size))
      clear hb8
      have FQ0 := Lib.hid (show w8.cell? ⟨gl, ol + j * 5, none⟩ = some (.int .i64 q.ship) from cell_onV (HKJ.out ▸ ZQ0.out) B8.out)
      have FQ1 := Lib.hid (show w8.cell? ⟨gl, ol + j * 5 + 1, none⟩ = some (.int .i64 q.segment) from cell_onV (HKJ.out ▸ ZQ1.out) B8.out)
      have FQ2 := Lib.hid (show w8.cell? ⟨gl, ol + j * 5 + 2, none⟩ = some (.bool q.toward) from cell_onV (HKJ.out ▸ ZQ2.out) B8.out)
      have FQ3 := Lib.hid (show w8.cell? ⟨gl, ol + j * 5 + 3, none⟩ = some (.int .i64 q.start) from cell_onV (HKJ.out ▸ ZQ3.out) B8.out)
      have FQ4 := Lib.hid (show w8.cell? ⟨gl, ol + j * 5 + 4, none⟩ = some (.int .i64 q.stop) from cell_onV (HKJ.out ▸ ZQ4.out) B8.out)
      have Fd0 := Lib.hid (show w8.cell? ⟨w.heap.size, 0, none⟩ = some (.slice Ad0 d.points.length cd0) from Kd_8.out.cell 0)
      have Fd1 := Lib.hid (show w8.cell? ⟨w.heap.size, 1, none⟩ = some (.slice Ad1 d.segs.length cd1) from Kd_8.out.cell 1)
      have DD := Lib.hid ((Below.refl w8.heap.size w8).drew)
      have vFd0 := Fd0.out
      have vFd1 := Fd1.out
      have vFQ0 := FQ0.out
      have vFQ1 := FQ1.out
      have vFQ2 := FQ2.out
      have vFQ3 := FQ3.out
      have vFQ4 := FQ4.out
      go_upto_region 10 with fail
      refine wp_region_held_drew (S := (fun w' => w'.cell? ⟨w.heap.size, 0, none⟩ = some (.slice Ad0 d.points.length cd0) ∧ w'.cell? ⟨w.heap.size, 1, none⟩ = some (.slice Ad1 d.segs.length cd1) ∧ w'.cell? ⟨gl, ol + j * 5, none⟩ = some (.int .i64 q.ship) ∧ w'.cell? ⟨gl, ol + j * 5 + 1, none⟩ = some (.int .i64 q.segment) ∧ w'.cell? ⟨gl, ol + j * 5 + 2, none⟩ = some (.bool q.toward) ∧ w'.cell? ⟨gl, ol + j * 5 + 3, none⟩ = some (.int .i64 q.start) ∧ w'.cell? ⟨gl, ol + j * 5 + 4, none⟩ = some (.int .i64 q.stop) ∧ Hid (Below w8.heap.size w8 w'))) (by kernel_rfl) ?_ (fun hHeld => ?_)
      · (try dsimp only); go_keep
      refine wpAnyH_take (i := 0) (v := ?_) (by simp only [List.getElem?_toArray, List.getElem?_cons_zero]; rfl) (by kernel_rfl) (by kernel_rfl) (by kernel_rfl) (by exact fun _ _ _ h => h) (Or.inl ⟨by rfl, ?_⟩) (by assumption) ?_; rotate_left; focus (intro w hSw; (try dsimp only at hSw); first | (go_simp; done) | (go_simp; with_reducible rfl))
      try simp only [Act.put, List.setIfInBounds_toArray, List.set_cons_zero, List.set_cons_succ]
      refine wpAnyH_take (i := 1) (v := ?_) (by simp only [List.getElem?_toArray, List.getElem?_cons_succ, List.getElem?_cons_zero]; rfl) (by kernel_rfl) (by kernel_rfl) (by kernel_rfl) (by exact fun _ _ _ h => h) (Or.inl ⟨by rfl, ?_⟩) (by assumption) ?_; rotate_left; focus (intro w hSw; (try dsimp only at hSw); first | (go_simp; done) | (go_simp; with_reducible rfl))
      try simp only [Act.put, List.setIfInBounds_toArray, List.set_cons_zero, List.set_cons_succ]
      refine wpAnyH_take (i := 2) (v := ?_) (by simp only [List.getElem?_toArray, List.getElem?_cons_succ, List.getElem?_cons_zero]; rfl) (by kernel_rfl) (by kernel_rfl) (by kernel_rfl) (by exact fun _ _ _ h => h) (Or.inl ⟨by rfl, ?_⟩) (by assumption) ?_; rotate_left; focus (intro w hSw; (try dsimp only at hSw); first | (go_simp; done) | (go_simp; with_reducible rfl))
      try simp only [Act.put, List.setIfInBounds_toArray, List.set_cons_zero, List.set_cons_succ]
      refine wpAnyH_take (i := 3) (v := ?_) (by simp only [List.getElem?_toArray, List.getElem?_cons_succ, List.getElem?_cons_zero]; rfl) (by kernel_rfl) (by kernel_rfl) (by kernel_rfl) (by exact fun _ _ _ h => h) (Or.inl ⟨by rfl, ?_⟩) (by assumption) ?_; rotate_left; focus (intro w hSw; (try dsimp only at hSw); first | (go_simp; done) | (go_simp; with_reducible rfl))
      try simp only [Act.put, List.setIfInBounds_toArray, List.set_cons_zero, List.set_cons_succ]
      refine wpAnyH_take (i := 4) (v := ?_) (by simp only [List.getElem?_toArray, List.getElem?_cons_succ, List.getElem?_cons_zero]; rfl) (by kernel_rfl) (by kernel_rfl) (by kernel_rfl) (by exact fun _ _ _ h => h) (Or.inl ⟨by rfl, ?_⟩) (by assumption) ?_; rotate_left; focus (intro w hSw; (try dsimp only at hSw); first | (go_simp; done) | (go_simp; with_reducible rfl))
      try simp only [Act.put, List.setIfInBounds_toArray, List.set_cons_zero, List.set_cons_succ]
      refine wpAnyH_take (i := 5) (v := ?_) (by simp only [List.getElem?_toArray, List.getElem?_cons_succ, List.getElem?_cons_zero]; rfl) (by kernel_rfl) (by kernel_rfl) (by kernel_rfl) (by exact fun _ _ _ h => h) (Or.inl ⟨by rfl, ?_⟩) (by assumption) ?_; rotate_left; focus (intro w hSw; (try dsimp only at hSw); first | (go_simp; done) | (go_simp; with_reducible rfl))
      try simp only [Act.put, List.setIfInBounds_toArray, List.set_cons_zero, List.set_cons_succ]
      refine wpAnyH_ready (rs := [6]) (by kernel_rfl) (by simp) ?_
      refine AllReadyH.cons rfl (fun K hK => ?_) AllReadyH.nil
      rw [if_pos (by rfl)]
      go_simp
      go_at_call 80
      have kB := hHeld.2.2.2.2.2.2.2
      refine (l08Ends_any _ _ d q.ship q.segment q.start q.stop q.toward h _ (Rd.out.below (B8.out.trans (kB.out.mono B8.out.size))) HH.out).mono ?_
      rintro e wq8_6 ⟨rfl, hbk⟩
      have HBK := kB.out.trans (hbk.mono kB.out.size)
      have QS := Lib.hid (show wq8_6.cell? ⟨w.heap.size, 0, none⟩ = some (.slice Ad0 d.points.length cd0) ∧ wq8_6.cell? ⟨w.heap.size, 1, none⟩ = some (.slice Ad1 d.segs.length cd1) ∧ wq8_6.cell? ⟨gl, ol + j * 5, none⟩ = some (.int .i64 q.ship) ∧ wq8_6.cell? ⟨gl, ol + j * 5 + 1, none⟩ = some (.int .i64 q.segment) ∧ wq8_6.cell? ⟨gl, ol + j * 5 + 2, none⟩ = some (.bool q.toward) ∧ wq8_6.cell? ⟨gl, ol + j * 5 + 3, none⟩ = some (.int .i64 q.start) ∧ wq8_6.cell? ⟨gl, ol + j * 5 + 4, none⟩ = some (.int .i64 q.stop) ∧ Hid (Below w8.heap.size w8 wq8_6) from ⟨cell_onV Fd0.out HBK, cell_onV Fd1.out HBK, cell_onV FQ0.out HBK, cell_onV FQ1.out HBK, cell_onV FQ2.out HBK, cell_onV FQ3.out HBK, cell_onV FQ4.out HBK, Lib.hid HBK⟩)
      clear hbk kB hHeld HBK
      go_simp
      refine hK.out _ _ ?_ (fun hHeld => ?_)
      · (try dsimp only); exact QS.out
      clear hK K
      try simp only [Act.put, List.setIfInBounds_toArray, List.set_cons_zero, List.set_cons_succ]
      refine wpAnyH_take (i := 7) (v := ?_) (by simp only [List.getElem?_toArray, List.getElem?_cons_succ, List.getElem?_cons_zero]; rfl) (by kernel_rfl) (by kernel_rfl) (by kernel_rfl) (by exact fun _ _ _ h => h) (Or.inl ⟨by rfl, ?_⟩) (by assumption) ?_; rotate_left; focus (intro w hSw; (try dsimp only at hSw); first | (go_simp; done) | (go_simp; with_reducible rfl))
      try simp only [Act.put, List.setIfInBounds_toArray, List.set_cons_zero, List.set_cons_succ]
      refine wpAnyH_take (i := 8) (v := ?_) (by simp only [List.getElem?_toArray, List.getElem?_cons_succ, List.getElem?_cons_zero]; rfl) (by kernel_rfl) (by kernel_rfl) (by kernel_rfl) (by exact fun _ _ _ h => h) (Or.inl ⟨by rfl, ?_⟩) (by assumption) ?_; rotate_left; focus (intro w hSw; (try dsimp only at hSw); first | (go_simp; done) | (go_simp; with_reducible rfl))
      try simp only [Act.put, List.setIfInBounds_toArray, List.set_cons_zero, List.set_cons_succ]
      refine wpAnyH_take (i := 9) (v := ?_) (by simp only [List.getElem?_toArray, List.getElem?_cons_succ, List.getElem?_cons_zero]; rfl) (by kernel_rfl) (by kernel_rfl) (by kernel_rfl) (by exact fun _ _ _ h => h) (Or.inl ⟨by rfl, ?_⟩) (by assumption) ?_; rotate_left; focus (intro w hSw; (try dsimp only at hSw); first | (go_simp; done) | (go_simp; with_reducible rfl))
      try simp only [Act.put, List.setIfInBounds_toArray, List.set_cons_zero, List.set_cons_succ]
      refine wpAnyH_take (i := 10) (v := ?_) (by simp only [List.getElem?_toArray, List.getElem?_cons_succ, List.getElem?_cons_zero]; rfl) (by kernel_rfl) (by kernel_rfl) (by kernel_rfl) (by exact fun _ _ _ h => h) (Or.inl ⟨by rfl, ?_⟩) (by assumption) ?_; rotate_left; focus (intro w hSw; (try dsimp only at hSw); first | (go_simp; done) | (go_simp; with_reducible rfl))
      try simp only [Act.put, List.setIfInBounds_toArray, List.set_cons_zero, List.set_cons_succ]
      refine wpAnyH_take (i := 11) (v := ?_) (by simp only [List.getElem?_toArray, List.getElem?_cons_succ, List.getElem?_cons_zero]; rfl) (by kernel_rfl) (by kernel_rfl) (by kernel_rfl) (by exact fun _ _ _ h => h) (Or.inl ⟨by rfl, ?_⟩) (by assumption) ?_; rotate_left; focus (intro w hSw; (try dsimp only at hSw); first | (go_simp; done) | (go_simp; with_reducible rfl))
      try simp only [Act.put, List.setIfInBounds_toArray, List.set_cons_zero, List.set_cons_succ]
      refine wpAnyH_done (by kernel_rfl) ?_ _
      have BK2 := Lib.hid hHeld.2.2.2.2.2.2.2.out
      have B9 := Lib.hid (B8.out.trans (BK2.out.mono B8.out.size))
      have KP9 := Lib.hid (KP8.out.below BK2.out)
      have Kd_9 := Lib.hid (Kd_8.out.below BK2.out)
      have hbw9 := Lib.hid (hbw8.out.trans (BK2.out.mono hbw8.out.size))
      clear BK2 hHeld DD
      have GP0 := Lib.hid (show wq8_6.cell? ⟨wr.heap.size, 0, none⟩ = some (.int .i64 p.ship) from KP9.out.cell 0)
      have GP1 := Lib.hid (show wq8_6.cell? ⟨wr.heap.size, 1, none⟩ = some (.int .i64 p.segment) from KP9.out.cell 1)
      have GP2 := Lib.hid (show wq8_6.cell? ⟨wr.heap.size, 2, none⟩ = some (.bool p.toward) from KP9.out.cell 2)
      have GP3 := Lib.hid (show wq8_6.cell? ⟨wr.heap.size, 3, none⟩ = some (.int .i64 p.start) from KP9.out.cell 3)
      have GP4 := Lib.hid (show wq8_6.cell? ⟨wr.heap.size, 4, none⟩ = some (.int .i64 p.stop) from KP9.out.cell 4)
      have GQ0 := Lib.hid (show wq8_6.cell? ⟨gl, ol + j * 5, none⟩ = some (.int .i64 q.ship) from cell_onV (HKJ.out ▸ ZQ0.out) B9.out)
      have GQ1 := Lib.hid (show wq8_6.cell? ⟨gl, ol + j * 5 + 1, none⟩ = some (.int .i64 q.segment) from cell_onV (HKJ.out ▸ ZQ1.out) B9.out)
      have GQ2 := Lib.hid (show wq8_6.cell? ⟨gl, ol + j * 5 + 2, none⟩ = some (.bool q.toward) from cell_onV (HKJ.out ▸ ZQ2.out) B9.out)
      have GQ3 := Lib.hid (show wq8_6.cell? ⟨gl, ol + j * 5 + 3, none⟩ = some (.int .i64 q.start) from cell_onV (HKJ.out ▸ ZQ3.out) B9.out)
      have GQ4 := Lib.hid (show wq8_6.cell? ⟨gl, ol + j * 5 + 4, none⟩ = some (.int .i64 q.stop) from cell_onV (HKJ.out ▸ ZQ4.out) B9.out)
      obtain ⟨be, hbe⟩ : ∃ b, (headOf g p.toward == tailOf h q.toward) = b := ⟨_, rfl⟩
      have hbe' : (headOf g p.toward != tailOf h q.toward) = !be := by rw [bne, hbe]
      have HBE := Lib.hid hbe
      cases be with
      | false =>
        have E := Lib.hid (HNO.out (by rw [HL2.out, HBE.out]; rfl))
        have Fd0 := Lib.hid (show wq8_6.cell? ⟨w.heap.size, 0, none⟩ = some (.slice Ad0 d.points.length cd0) from Kd_9.out.cell 0)
        have Fd1 := Lib.hid (show wq8_6.cell? ⟨w.heap.size, 1, none⟩ = some (.slice Ad1 d.segs.length cd1) from Kd_9.out.cell 1)
        have DD := Lib.hid ((Below.refl wq8_6.heap.size wq8_6).drew)
        have vFd0 := Fd0.out
        have vFd1 := Fd1.out
        have vGP0 := GP0.out
        have vGP1 := GP1.out
        have vGP2 := GP2.out
        have vGP3 := GP3.out
        have vGP4 := GP4.out
        have vGQ0 := GQ0.out
        have vGQ1 := GQ1.out
        have vGQ2 := GQ2.out
        have vGQ3 := GQ3.out
        have vGQ4 := GQ4.out
        go_upto_region 11 with fail
        refine wp_region_held_drew (S := (fun w' => w'.cell? ⟨w.heap.size, 0, none⟩ = some (.slice Ad0 d.points.length cd0) ∧ w'.cell? ⟨w.heap.size, 1, none⟩ = some (.slice Ad1 d.segs.length cd1) ∧ w'.cell? ⟨wr.heap.size, 0, none⟩ = some (.int .i64 p.ship) ∧ w'.cell? ⟨wr.heap.size, 1, none⟩ = some (.int .i64 p.segment) ∧ w'.cell? ⟨wr.heap.size, 2, none⟩ = some (.bool p.toward) ∧ w'.cell? ⟨wr.heap.size, 3, none⟩ = some (.int .i64 p.start) ∧ w'.cell? ⟨wr.heap.size, 4, none⟩ = some (.int .i64 p.stop) ∧ w'.cell? ⟨gl, ol + j * 5, none⟩ = some (.int .i64 q.ship) ∧ w'.cell? ⟨gl, ol + j * 5 + 1, none⟩ = some (.int .i64 q.segment) ∧ w'.cell? ⟨gl, ol + j * 5 + 2, none⟩ = some (.bool q.toward) ∧ w'.cell? ⟨gl, ol + j * 5 + 3, none⟩ = some (.int .i64 q.start) ∧ w'.cell? ⟨gl, ol + j * 5 + 4, none⟩ = some (.int .i64 q.stop) ∧ Hid (Below wq8_6.heap.size wq8_6 w'))) (by kernel_rfl) ?_ (fun hHeld => ?_)
        · (try dsimp only); go_keep
        refine wpAnyH_take (i := 0) (v := ?_) (by simp only [List.getElem?_toArray, List.getElem?_cons_zero]; rfl) (by kernel_rfl) (by kernel_rfl) (by kernel_rfl) (by exact fun _ _ _ h => h) (Or.inl ⟨by rfl, ?_⟩) (by assumption) ?_; rotate_left; focus (intro w hSw; (try dsimp only at hSw); first | (go_simp; done) | (go_simp; with_reducible rfl))
        try simp only [Act.put, List.setIfInBounds_toArray, List.set_cons_zero, List.set_cons_succ]
        refine wpAnyH_take (i := 1) (v := ?_) (by simp only [List.getElem?_toArray, List.getElem?_cons_succ, List.getElem?_cons_zero]; rfl) (by kernel_rfl) (by kernel_rfl) (by kernel_rfl) (by exact fun _ _ _ h => h) (Or.inl ⟨by rfl, ?_⟩) (by assumption) ?_; rotate_left; focus (intro w hSw; (try dsimp only at hSw); first | (go_simp; done) | (go_simp; with_reducible rfl))
        try simp only [Act.put, List.setIfInBounds_toArray, List.set_cons_zero, List.set_cons_succ]
        refine wpAnyH_take (i := 2) (v := ?_) (by simp only [List.getElem?_toArray, List.getElem?_cons_succ, List.getElem?_cons_zero]; rfl) (by kernel_rfl) (by kernel_rfl) (by kernel_rfl) (by exact fun _ _ _ h => h) (Or.inl ⟨by rfl, ?_⟩) (by assumption) ?_; rotate_left; focus (intro w hSw; (try dsimp only at hSw); first | (go_simp; done) | (go_simp; with_reducible rfl))
        try simp only [Act.put, List.setIfInBounds_toArray, List.set_cons_zero, List.set_cons_succ]
        refine wpAnyH_take (i := 3) (v := ?_) (by simp only [List.getElem?_toArray, List.getElem?_cons_succ, List.getElem?_cons_zero]; rfl) (by kernel_rfl) (by kernel_rfl) (by kernel_rfl) (by exact fun _ _ _ h => h) (Or.inl ⟨by rfl, ?_⟩) (by assumption) ?_; rotate_left; focus (intro w hSw; (try dsimp only at hSw); first | (go_simp; done) | (go_simp; with_reducible rfl))
        try simp only [Act.put, List.setIfInBounds_toArray, List.set_cons_zero, List.set_cons_succ]
        refine wpAnyH_take (i := 4) (v := undef) (by simp only [List.getElem?_toArray, List.getElem?_cons_succ, List.getElem?_cons_zero]; rfl) (by kernel_rfl) (by kernel_rfl) (by kernel_rfl) (by exact fun _ _ _ h => h) (Or.inr ⟨by rfl, rfl⟩) (by assumption) ?_
        try simp only [Act.put, List.setIfInBounds_toArray, List.set_cons_zero, List.set_cons_succ]
        refine wpAnyH_take (i := 5) (v := undef) (by simp only [List.getElem?_toArray, List.getElem?_cons_succ, List.getElem?_cons_zero]; rfl) (by kernel_rfl) (by kernel_rfl) (by kernel_rfl) (by exact fun _ _ _ h => h) (Or.inr ⟨by rfl, rfl⟩) (by assumption) ?_
        try simp only [Act.put, List.setIfInBounds_toArray, List.set_cons_zero, List.set_cons_succ]
        refine wpAnyH_take (i := 6) (v := undef) (by simp only [List.getElem?_toArray, List.getElem?_cons_succ, List.getElem?_cons_zero]; rfl) (by kernel_rfl) (by kernel_rfl) (by kernel_rfl) (by exact fun _ _ _ h => h) (Or.inr ⟨by rfl, rfl⟩) (by assumption) ?_
        try simp only [Act.put, List.setIfInBounds_toArray, List.set_cons_zero, List.set_cons_succ]
        refine wpAnyH_take (i := 7) (v := undef) (by simp only [List.getElem?_toArray, List.getElem?_cons_succ, List.getElem?_cons_zero]; rfl) (by kernel_rfl) (by kernel_rfl) (by kernel_rfl) (by exact fun _ _ _ h => h) (Or.inr ⟨by rfl, rfl⟩) (by assumption) ?_
        try simp only [Act.put, List.setIfInBounds_toArray, List.set_cons_zero, List.set_cons_succ]
        refine wpAnyH_take (i := 8) (v := undef) (by simp only [List.getElem?_toArray, List.getElem?_cons_succ, List.getElem?_cons_zero]; rfl) (by kernel_rfl) (by kernel_rfl) (by kernel_rfl) (by exact fun _ _ _ h => h) (Or.inr ⟨by rfl, rfl⟩) (by assumption) ?_
        try simp only [Act.put, List.setIfInBounds_toArray, List.set_cons_zero, List.set_cons_succ]
        refine wpAnyH_take (i := 9) (v := undef) (by simp only [List.getElem?_toArray, List.getElem?_cons_succ, List.getElem?_cons_zero]; rfl) (by kernel_rfl) (by kernel_rfl) (by kernel_rfl) (by exact fun _ _ _ h => h) (Or.inr ⟨by rfl, rfl⟩) (by assumption) ?_
        try simp only [Act.put, List.setIfInBounds_toArray, List.set_cons_zero, List.set_cons_succ]
        refine wpAnyH_take (i := 10) (v := undef) (by simp only [List.getElem?_toArray, List.getElem?_cons_succ, List.getElem?_cons_zero]; rfl) (by kernel_rfl) (by kernel_rfl) (by kernel_rfl) (by exact fun _ _ _ h => h) (Or.inr ⟨by rfl, rfl⟩) (by assumption) ?_
        try simp only [Act.put, List.setIfInBounds_toArray, List.set_cons_zero, List.set_cons_succ]
        refine wpAnyH_take (i := 11) (v := undef) (by simp only [List.getElem?_toArray, List.getElem?_cons_succ, List.getElem?_cons_zero]; rfl) (by kernel_rfl) (by kernel_rfl) (by kernel_rfl) (by exact fun _ _ _ h => h) (Or.inr ⟨by rfl, rfl⟩) (by assumption) ?_
        try simp only [Act.put, List.setIfInBounds_toArray, List.set_cons_zero, List.set_cons_succ]
        refine wpAnyH_take (i := 12) (v := undef) (by simp only [List.getElem?_toArray, List.getElem?_cons_succ, List.getElem?_cons_zero]; rfl) (by kernel_rfl) (by kernel_rfl) (by kernel_rfl) (by exact fun _ _ _ h => h) (Or.inr ⟨by rfl, rfl⟩) (by assumption) ?_
        try simp only [Act.put, List.setIfInBounds_toArray, List.set_cons_zero, List.set_cons_succ]
        refine wpAnyH_take (i := 13) (v := ?_) (by simp only [List.getElem?_toArray, List.getElem?_cons_succ, List.getElem?_cons_zero]; rfl) (by kernel_rfl) (by kernel_rfl) (by kernel_rfl) (by exact fun _ _ _ h => h) (Or.inl ⟨by rfl, ?_⟩) (by assumption) ?_; rotate_left; focus (intro w hSw; (try dsimp only at hSw); first | (go_simp; done) | (go_simp; with_reducible rfl))
        try simp only [Act.put, List.setIfInBounds_toArray, List.set_cons_zero, List.set_cons_succ]
        refine wpAnyH_done (by kernel_rfl) ?_ _
        go_wp2
        go_ret
        exact ⟨ret_bool E.out.symm, B9.out.trans (hHeld.2.2.2.2.2.2.2.2.2.2.2.2.out.mono B9.out.size)⟩
      | true =>
        have Fd0 := Lib.hid (show wq8_6.cell? ⟨w.heap.size, 0, none⟩ = some (.slice Ad0 d.points.length cd0) from Kd_9.out.cell 0)
        have Fd1 := Lib.hid (show wq8_6.cell? ⟨w.heap.size, 1, none⟩ = some (.slice Ad1 d.segs.length cd1) from Kd_9.out.cell 1)
        have DD := Lib.hid ((Below.refl wq8_6.heap.size wq8_6).drew)
        have vFd0 := Fd0.out
        have vFd1 := Fd1.out
        have vGP0 := GP0.out
        have vGP1 := GP1.out
        have vGP2 := GP2.out
        have vGP3 := GP3.out
        have vGP4 := GP4.out
        have vGQ0 := GQ0.out
        have vGQ1 := GQ1.out
        have vGQ2 := GQ2.out
        have vGQ3 := GQ3.out
        have vGQ4 := GQ4.out
        go_upto_region 11 with fail
        refine wp_region_held_drew (S := (fun w' => w'.cell? ⟨w.heap.size, 0, none⟩ = some (.slice Ad0 d.points.length cd0) ∧ w'.cell? ⟨w.heap.size, 1, none⟩ = some (.slice Ad1 d.segs.length cd1) ∧ w'.cell? ⟨wr.heap.size, 0, none⟩ = some (.int .i64 p.ship) ∧ w'.cell? ⟨wr.heap.size, 1, none⟩ = some (.int .i64 p.segment) ∧ w'.cell? ⟨wr.heap.size, 2, none⟩ = some (.bool p.toward) ∧ w'.cell? ⟨wr.heap.size, 3, none⟩ = some (.int .i64 p.start) ∧ w'.cell? ⟨wr.heap.size, 4, none⟩ = some (.int .i64 p.stop) ∧ w'.cell? ⟨gl, ol + j * 5, none⟩ = some (.int .i64 q.ship) ∧ w'.cell? ⟨gl, ol + j * 5 + 1, none⟩ = some (.int .i64 q.segment) ∧ w'.cell? ⟨gl, ol + j * 5 + 2, none⟩ = some (.bool q.toward) ∧ w'.cell? ⟨gl, ol + j * 5 + 3, none⟩ = some (.int .i64 q.start) ∧ w'.cell? ⟨gl, ol + j * 5 + 4, none⟩ = some (.int .i64 q.stop) ∧ Hid (Below wq8_6.heap.size wq8_6 w'))) (by kernel_rfl) ?_ (fun hHeld => ?_)
        · (try dsimp only); go_keep
        refine wpAnyH_take (i := 0) (v := ?_) (by simp only [List.getElem?_toArray, List.getElem?_cons_zero]; rfl) (by kernel_rfl) (by kernel_rfl) (by kernel_rfl) (by exact fun _ _ _ h => h) (Or.inl ⟨by rfl, ?_⟩) (by assumption) ?_; rotate_left; focus (intro w hSw; (try dsimp only at hSw); first | (go_simp; done) | (go_simp; with_reducible rfl))
        try simp only [Act.put, List.setIfInBounds_toArray, List.set_cons_zero, List.set_cons_succ]
        refine wpAnyH_take (i := 1) (v := ?_) (by simp only [List.getElem?_toArray, List.getElem?_cons_succ, List.getElem?_cons_zero]; rfl) (by kernel_rfl) (by kernel_rfl) (by kernel_rfl) (by exact fun _ _ _ h => h) (Or.inl ⟨by rfl, ?_⟩) (by assumption) ?_; rotate_left; focus (intro w hSw; (try dsimp only at hSw); first | (go_simp; done) | (go_simp; with_reducible rfl))
        try simp only [Act.put, List.setIfInBounds_toArray, List.set_cons_zero, List.set_cons_succ]
        refine wpAnyH_take (i := 2) (v := ?_) (by simp only [List.getElem?_toArray, List.getElem?_cons_succ, List.getElem?_cons_zero]; rfl) (by kernel_rfl) (by kernel_rfl) (by kernel_rfl) (by exact fun _ _ _ h => h) (Or.inl ⟨by rfl, ?_⟩) (by assumption) ?_; rotate_left; focus (intro w hSw; (try dsimp only at hSw); first | (go_simp; done) | (go_simp; with_reducible rfl))
        try simp only [Act.put, List.setIfInBounds_toArray, List.set_cons_zero, List.set_cons_succ]
        refine wpAnyH_take (i := 3) (v := ?_) (by simp only [List.getElem?_toArray, List.getElem?_cons_succ, List.getElem?_cons_zero]; rfl) (by kernel_rfl) (by kernel_rfl) (by kernel_rfl) (by exact fun _ _ _ h => h) (Or.inl ⟨by rfl, ?_⟩) (by assumption) ?_; rotate_left; focus (intro w hSw; (try dsimp only at hSw); first | (go_simp; done) | (go_simp; with_reducible rfl))
        try simp only [Act.put, List.setIfInBounds_toArray, List.set_cons_zero, List.set_cons_succ]
        refine wpAnyH_take (i := 4) (v := ?_) (by simp only [List.getElem?_toArray, List.getElem?_cons_succ, List.getElem?_cons_zero]; rfl) (by kernel_rfl) (by kernel_rfl) (by kernel_rfl) (by exact fun _ _ _ h => h) (Or.inl ⟨by rfl, ?_⟩) (by assumption) ?_; rotate_left; focus (intro w hSw; (try dsimp only at hSw); first | (go_simp; done) | (go_simp; with_reducible rfl))
        try simp only [Act.put, List.setIfInBounds_toArray, List.set_cons_zero, List.set_cons_succ]
        refine wpAnyH_take (i := 5) (v := ?_) (by simp only [List.getElem?_toArray, List.getElem?_cons_succ, List.getElem?_cons_zero]; rfl) (by kernel_rfl) (by kernel_rfl) (by kernel_rfl) (by exact fun _ _ _ h => h) (Or.inl ⟨by rfl, ?_⟩) (by assumption) ?_; rotate_left; focus (intro w hSw; (try dsimp only at hSw); first | (go_simp; done) | (go_simp; with_reducible rfl))
        try simp only [Act.put, List.setIfInBounds_toArray, List.set_cons_zero, List.set_cons_succ]
        refine wpAnyH_take (i := 6) (v := ?_) (by simp only [List.getElem?_toArray, List.getElem?_cons_succ, List.getElem?_cons_zero]; rfl) (by kernel_rfl) (by kernel_rfl) (by kernel_rfl) (by exact fun _ _ _ h => h) (Or.inl ⟨by rfl, ?_⟩) (by assumption) ?_; rotate_left; focus (intro w hSw; (try dsimp only at hSw); first | (go_simp; done) | (go_simp; with_reducible rfl))
        try simp only [Act.put, List.setIfInBounds_toArray, List.set_cons_zero, List.set_cons_succ]
        refine wpAnyH_take (i := 7) (v := ?_) (by simp only [List.getElem?_toArray, List.getElem?_cons_succ, List.getElem?_cons_zero]; rfl) (by kernel_rfl) (by kernel_rfl) (by kernel_rfl) (by exact fun _ _ _ h => h) (Or.inl ⟨by rfl, ?_⟩) (by assumption) ?_; rotate_left; focus (intro w hSw; (try dsimp only at hSw); first | (go_simp; done) | (go_simp; with_reducible rfl))
        try simp only [Act.put, List.setIfInBounds_toArray, List.set_cons_zero, List.set_cons_succ]
        refine wpAnyH_take (i := 8) (v := ?_) (by simp only [List.getElem?_toArray, List.getElem?_cons_succ, List.getElem?_cons_zero]; rfl) (by kernel_rfl) (by kernel_rfl) (by kernel_rfl) (by exact fun _ _ _ h => h) (Or.inl ⟨by rfl, ?_⟩) (by assumption) ?_; rotate_left; focus (intro w hSw; (try dsimp only at hSw); first | (go_simp; done) | (go_simp; with_reducible rfl))
        try simp only [Act.put, List.setIfInBounds_toArray, List.set_cons_zero, List.set_cons_succ]
        refine wpAnyH_take (i := 9) (v := ?_) (by simp only [List.getElem?_toArray, List.getElem?_cons_succ, List.getElem?_cons_zero]; rfl) (by kernel_rfl) (by kernel_rfl) (by kernel_rfl) (by exact fun _ _ _ h => h) (Or.inl ⟨by rfl, ?_⟩) (by assumption) ?_; rotate_left; focus (intro w hSw; (try dsimp only at hSw); first | (go_simp; done) | (go_simp; with_reducible rfl))
        try simp only [Act.put, List.setIfInBounds_toArray, List.set_cons_zero, List.set_cons_succ]
        refine wpAnyH_take (i := 10) (v := ?_) (by simp only [List.getElem?_toArray, List.getElem?_cons_succ, List.getElem?_cons_zero]; rfl) (by kernel_rfl) (by kernel_rfl) (by kernel_rfl) (by exact fun _ _ _ h => h) (Or.inl ⟨by rfl, ?_⟩) (by assumption) ?_; rotate_left; focus (intro w hSw; (try dsimp only at hSw); first | (go_simp; done) | (go_simp; with_reducible rfl))
        try simp only [Act.put, List.setIfInBounds_toArray, List.set_cons_zero, List.set_cons_succ]
        refine wpAnyH_take (i := 11) (v := ?_) (by simp only [List.getElem?_toArray, List.getElem?_cons_succ, List.getElem?_cons_zero]; rfl) (by kernel_rfl) (by kernel_rfl) (by kernel_rfl) (by exact fun _ _ _ h => h) (Or.inl ⟨by rfl, ?_⟩) (by assumption) ?_; rotate_left; focus (intro w hSw; (try dsimp only at hSw); first | (go_simp; done) | (go_simp; with_reducible rfl))
        try simp only [Act.put, List.setIfInBounds_toArray, List.set_cons_zero, List.set_cons_succ]
        refine wpAnyH_take (i := 12) (v := ?_) (by simp only [List.getElem?_toArray, List.getElem?_cons_succ, List.getElem?_cons_zero]; rfl) (by kernel_rfl) (by kernel_rfl) (by kernel_rfl) (by exact fun _ _ _ h => h) (Or.inl ⟨by rfl, ?_⟩) (by assumption) ?_; rotate_left; focus (intro w hSw; (try dsimp only at hSw); first | (go_simp; done) | (go_simp; with_reducible rfl))
        try simp only [Act.put, List.setIfInBounds_toArray, List.set_cons_zero, List.set_cons_succ]
        refine wpAnyH_take (i := 13) (v := ?_) (by simp only [List.getElem?_toArray, List.getElem?_cons_succ, List.getElem?_cons_zero]; rfl) (by kernel_rfl) (by kernel_rfl) (by kernel_rfl) (by exact fun _ _ _ h => h) (Or.inl ⟨by rfl, ?_⟩) (by assumption) ?_; rotate_left; focus (intro w hSw; (try dsimp only at hSw); first | (go_simp; done) | (go_simp; with_reducible rfl))
        try simp only [Act.put, List.setIfInBounds_toArray, List.set_cons_zero, List.set_cons_succ]
        refine wpAnyH_done (by kernel_rfl) ?_ _
        have hbz := Lib.hid (hbw9.out.trans (hHeld.2.2.2.2.2.2.2.2.2.2.2.2.out.mono hbw9.out.size))
        have BZ := Lib.hid (B9.out.trans (hHeld.2.2.2.2.2.2.2.2.2.2.2.2.out.mono B9.out.size))
        clear hHeld DD
        by_cases hst : p.start < q.stop
        · have E := Lib.hid (HNO.out (by rw [HL2.out, HBE.out, decide_eq_false (by omega)]; rfl))
          go_wp2
          go_ret
          exact ⟨ret_bool E.out.symm, BZ.out⟩
        · have E := Lib.hid (HNX.out (by rw [HL2.out, HBE.out, decide_eq_true (by omega)]; rfl))
          have hst' : decide (p.start < q.stop) = false := decide_eq_false hst
          go_wp2
          go_roundw
          case rel => exact ⟨k + 1, by omega, by go_num, E, hbz⟩
          case measure => simp [intOf]; omega
end Go.Proofs.Ytooeikimoheecaa
