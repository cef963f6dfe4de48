
/- What ExactIsSafePassage and ExactSailRoute and ExactFirstSail rests on, part 25: contracts and mathematics. -/
import Derived.Test.YtooeikimoheecaaGreatGr23
import Derived.Test.YtooeikimoheecaaGreatGr6
import Derived.Test.YtooeikimoheecaaGreatGr15
import Derived.Test.YtooeikimoheecaaGreatGr19
import Derived.Test.YtooeikimoheecaaGreatGr1
import Derived.Test.YtooeikimoheecaaGreatGr3
import Derived.StillTailTactics
import Derived.Deep.DeepCutAuto
namespace Go.Proofs.YtooeikimoheecaaGreat
open Go.RowKit
set_option maxRecDepth 100000
set_option maxHeartbeats 4000000 in
theorem specPassageOk (yd0 yd1 : Value) (d : ChartD) (yl : Value) (l : List ShipD) (p : PassageD) (w : World) (rd : RdChart w yd0 yd1 d) (rl : SlShip w yl l) (fd : ∀ x ∈ d.points, PointD.wf x) (fl : ∀ x ∈ l, ShipD.wf x) :
    Calls Tryz.prog 34 #[.agg #[yd0, yd1], yl, p.val] w (fun e w' => e = .returned (.bool (passB d l p)) ∧ Below w.heap.size w w') := by
  have Rd := Lib.hid rd
  obtain ⟨rd0, rd1⟩ := rd
  obtain ⟨Ad0, cd0, rfl⟩ := SlOf.form rd0
  obtain ⟨Ad1, cd1, rfl⟩ := SlOf.form rd1
  have Nd := Lib.hid fd
  clear fd
  clear rd0 rd1
  have Rl := Lib.hid rl
  obtain ⟨Al, cl, rfl⟩ := SlOf.form rl
  clear rl
  have Nl := Lib.hid fl
  clear fl
  obtain ⟨W0, hW0⟩ : ∃ W0, W0 = ((w.alloc (.cells #[.slice Ad0 d.points.length cd0, .slice Ad1 d.segs.length cd1] 49)).alloc (.cells #[.int .i64 p.ship, .int .i64 p.segment, .bool p.toward, .int .i64 p.start, .int .i64 p.stop] 53)) := ⟨_, rfl⟩
  have B := Lib.hid ((Joins.below_alloc1 w (.cells #[.slice Ad0 d.points.length cd0, .slice Ad1 d.segs.length cd1] 49)).trans ((Joins.below_alloc1 (w.alloc (.cells #[.slice Ad0 d.points.length cd0, .slice Ad1 d.segs.length cd1] 49)) (.cells #[.int .i64 p.ship, .int .i64 p.segment, .bool p.toward, .int .i64 p.start, .int .i64 p.stop] 53)).mono (by simp; try omega)))
  have Kd := Lib.hid ((Blk.new w #[.slice Ad0 d.points.length cd0, .slice Ad1 d.segs.length cd1] 49).below (Joins.below_alloc1 _ (.cells #[.int .i64 p.ship, .int .i64 p.segment, .bool p.toward, .int .i64 p.start, .int .i64 p.stop] 53)))
  have Kp := Lib.hid (Blk.new (w.alloc (.cells #[.slice Ad0 d.points.length cd0, .slice Ad1 d.segs.length cd1] 49)) #[.int .i64 p.ship, .int .i64 p.segment, .bool p.toward, .int .i64 p.start, .int .i64 p.stop] 53)
  rw [World.size_alloc] at Kp
  have HW0 := Lib.hid hW0
  rw [← hW0] at B Kd Kp
  clear hW0
  have hdl := Rd.out.2.1
  have hll := Rl.out.1
  obtain ⟨b1, hb1⟩ : ∃ b, chartB d = b := ⟨_, rfl⟩
  have Hb1 := Lib.hid hb1
  obtain ⟨b2, hb2⟩ : ∃ b, fleetB l = b := ⟨_, rfl⟩
  have Hb2 := Lib.hid hb2
  obtain ⟨b3, hb3⟩ : ∃ b, inB p.ship 0 ((l.length : Int) - 1) = b := ⟨_, rfl⟩
  have Hb3 := Lib.hid hb3
  obtain ⟨b4, hb4⟩ : ∃ b, inB p.segment 0 ((d.segs.length : Int) - 1) = b := ⟨_, rfl⟩
  have Hb4 := Lib.hid hb4
  obtain ⟨b5, hb5⟩ : ∃ b, inB p.start 0 2880 = b := ⟨_, rfl⟩
  have Hb5 := Lib.hid hb5
  have HP := Lib.hid (show passPre d l p = (b1 && b2 && b3 && b4 && b5) by unfold passPre; rw [hb1, hb2, hb3, hb4, hb5])
  clear hb1 hb2 hb3 hb4 hb5
  cases b1 with
  | false =>
    have E := Lib.hid (passB_bad (HP.out.trans (by simp)))
    clear HP
    go_enter Tryz.func34, Tryz.ntmps34
    have vd0 : W0.cell? ⟨w.heap.size, 0, none⟩ = some (.slice Ad0 d.points.length cd0) := Kd.out.cell 0
    have vd1 : W0.cell? ⟨w.heap.size, 1, none⟩ = some (.slice Ad1 d.segs.length cd1) := Kd.out.cell 1
    have vp0 : W0.cell? ⟨w.heap.size + 1, 0, none⟩ = some (.int .i64 p.ship) := Kp.out.cell 0
    have vp1 : W0.cell? ⟨w.heap.size + 1, 1, none⟩ = some (.int .i64 p.segment) := Kp.out.cell 1
    have vp2 : W0.cell? ⟨w.heap.size + 1, 2, none⟩ = some (.bool p.toward) := Kp.out.cell 2
    have vp3 : W0.cell? ⟨w.heap.size + 1, 3, none⟩ = some (.int .i64 p.start) := Kp.out.cell 3
    have vp4 : W0.cell? ⟨w.heap.size + 1, 4, none⟩ = some (.int .i64 p.stop) := Kp.out.cell 4
    go_wp2_with fail
    rw [← HW0.out]
    clear vd0 vd1 vp0 vp1 vp2 vp3 vp4
    refine (specChartOk _ _ d _ (Rd.out.below B.out) Nd.out).mono ?_
    rw [Hb1.out]
    rintro e w1 ⟨rfl, hb1⟩
    have B1 := Lib.hid (B.out.trans (hb1.mono B.out.size))
    have Kd_1 := Lib.hid (Kd.out.below hb1)
    have Kp_1 := Lib.hid (Kp.out.below hb1)
    clear hb1
    go_wp2
    go_ret
    exact ⟨ret_bool E.out.symm, B1.out⟩
  | true =>
  cases b2 with
  | false =>
    have E := Lib.hid (passB_bad (HP.out.trans (by simp)))
    clear HP
    go_enter Tryz.func34, Tryz.ntmps34
    have vd0 : W0.cell? ⟨w.heap.size, 0, none⟩ = some (.slice Ad0 d.points.length cd0) := Kd.out.cell 0
    have vd1 : W0.cell? ⟨w.heap.size, 1, none⟩ = some (.slice Ad1 d.segs.length cd1) := Kd.out.cell 1
    have vp0 : W0.cell? ⟨w.heap.size + 1, 0, none⟩ = some (.int .i64 p.ship) := Kp.out.cell 0
    have vp1 : W0.cell? ⟨w.heap.size + 1, 1, none⟩ = some (.int .i64 p.segment) := Kp.out.cell 1
    have vp2 : W0.cell? ⟨w.heap.size + 1, 2, none⟩ = some (.bool p.toward) := Kp.out.cell 2
    have vp3 : W0.cell? ⟨w.heap.size + 1, 3, none⟩ = some (.int .i64 p.start) := Kp.out.cell 3
    have vp4 : W0.cell? ⟨w.heap.size + 1, 4, none⟩ = some (.int .i64 p.stop) := Kp.out.cell 4
    go_wp2_with fail
    rw [← HW0.out]
    clear vd0 vd1 vp0 vp1 vp2 vp3 vp4
    refine (specChartOk _ _ d _ (Rd.out.below B.out) Nd.out).mono ?_
    rw [Hb1.out]
    rintro e w1 ⟨rfl, hb1⟩
    have B1 := Lib.hid (B.out.trans (hb1.mono B.out.size))
    have Kd_1 := Lib.hid (Kd.out.below hb1)
    have Kp_1 := Lib.hid (Kp.out.below hb1)
    clear hb1
    have vd0 : w1.cell? ⟨w.heap.size, 0, none⟩ = some (.slice Ad0 d.points.length cd0) := Kd_1.out.cell 0
    have vd1 : w1.cell? ⟨w.heap.size, 1, none⟩ = some (.slice Ad1 d.segs.length cd1) := Kd_1.out.cell 1
    have vp0 : w1.cell? ⟨w.heap.size + 1, 0, none⟩ = some (.int .i64 p.ship) := Kp_1.out.cell 0
    have vp1 : w1.cell? ⟨w.heap.size + 1, 1, none⟩ = some (.int .i64 p.segment) := Kp_1.out.cell 1
    have vp2 : w1.cell? ⟨w.heap.size + 1, 2, none⟩ = some (.bool p.toward) := Kp_1.out.cell 2
    have vp3 : w1.cell? ⟨w.heap.size + 1, 3, none⟩ = some (.int .i64 p.start) := Kp_1.out.cell 3
    have vp4 : w1.cell? ⟨w.heap.size + 1, 4, none⟩ = some (.int .i64 p.stop) := Kp_1.out.cell 4
    go_wp2_with fail
    clear vd0 vd1 vp0 vp1 vp2 vp3 vp4
    refine (specFleetOk _ l _ (Rl.out.below B1.out) Nl.out).mono ?_
    rw [Hb2.out]
    rintro e w2 ⟨rfl, hb2⟩
    have B2 := Lib.hid (B1.out.trans (hb2.mono B1.out.size))
    have Kd_2 := Lib.hid (Kd_1.out.below hb2)
    have Kp_2 := Lib.hid (Kp_1.out.below hb2)
    clear hb2
    go_wp2
    go_ret
    exact ⟨ret_bool E.out.symm, B2.out⟩
  | true =>
  cases b3 with
  | false =>
    have E := Lib.hid (passB_bad (HP.out.trans (by simp)))
    clear HP
    go_enter Tryz.func34, Tryz.ntmps34
    have vd0 : W0.cell? ⟨w.heap.size, 0, none⟩ = some (.slice Ad0 d.points.length cd0) := Kd.out.cell 0
    have vd1 : W0.cell? ⟨w.heap.size, 1, none⟩ = some (.slice Ad1 d.segs.length cd1) := Kd.out.cell 1
    have vp0 : W0.cell? ⟨w.heap.size + 1, 0, none⟩ = some (.int .i64 p.ship) := Kp.out.cell 0
    have vp1 : W0.cell? ⟨w.heap.size + 1, 1, none⟩ = some (.int .i64 p.segment) := Kp.out.cell 1
    have vp2 : W0.cell? ⟨w.heap.size + 1, 2, none⟩ = some (.bool p.toward) := Kp.out.cell 2
    have vp3 : W0.cell? ⟨w.heap.size + 1, 3, none⟩ = some (.int .i64 p.start) := Kp.out.cell 3
    have vp4 : W0.cell? ⟨w.heap.size + 1, 4, none⟩ = some (.int .i64 p.stop) := Kp.out.cell 4
    go_wp2_with fail
    rw [← HW0.out]
    clear vd0 vd1 vp0 vp1 vp2 vp3 vp4
    refine (specChartOk _ _ d _ (Rd.out.below B.out) Nd.out).mono ?_
    rw [Hb1.out]
    rintro e w1 ⟨rfl, hb1⟩
    have B1 := Lib.hid (B.out.trans (hb1.mono B.out.size))
    have Kd_1 := Lib.hid (Kd.out.below hb1)
    have Kp_1 := Lib.hid (Kp.out.below hb1)
    clear hb1
    have vd0 : w1.cell? ⟨w.heap.size, 0, none⟩ = some (.slice Ad0 d.points.length cd0) := Kd_1.out.cell 0
    have vd1 : w1.cell? ⟨w.heap.size, 1, none⟩ = some (.slice Ad1 d.segs.length cd1) := Kd_1.out.cell 1
    have vp0 : w1.cell? ⟨w.heap.size + 1, 0, none⟩ = some (.int .i64 p.ship) := Kp_1.out.cell 0
    have vp1 : w1.cell? ⟨w.heap.size + 1, 1, none⟩ = some (.int .i64 p.segment) := Kp_1.out.cell 1
    have vp2 : w1.cell? ⟨w.heap.size + 1, 2, none⟩ = some (.bool p.toward) := Kp_1.out.cell 2
    have vp3 : w1.cell? ⟨w.heap.size + 1, 3, none⟩ = some (.int .i64 p.start) := Kp_1.out.cell 3
    have vp4 : w1.cell? ⟨w.heap.size + 1, 4, none⟩ = some (.int .i64 p.stop) := Kp_1.out.cell 4
    go_wp2_with fail
    clear vd0 vd1 vp0 vp1 vp2 vp3 vp4
    refine (specFleetOk _ l _ (Rl.out.below B1.out) Nl.out).mono ?_
    rw [Hb2.out]
    rintro e w2 ⟨rfl, hb2⟩
    have B2 := Lib.hid (B1.out.trans (hb2.mono B1.out.size))
    have Kd_2 := Lib.hid (Kd_1.out.below hb2)
    have Kp_2 := Lib.hid (Kp_1.out.below hb2)
    clear hb2
    have vd0 : w2.cell? ⟨w.heap.size, 0, none⟩ = some (.slice Ad0 d.points.length cd0) := Kd_2.out.cell 0
    have vd1 : w2.cell? ⟨w.heap.size, 1, none⟩ = some (.slice Ad1 d.segs.length cd1) := Kd_2.out.cell 1
    have vp0 : w2.cell? ⟨w.heap.size + 1, 0, none⟩ = some (.int .i64 p.ship) := Kp_2.out.cell 0
    have vp1 : w2.cell? ⟨w.heap.size + 1, 1, none⟩ = some (.int .i64 p.segment) := Kp_2.out.cell 1
    have vp2 : w2.cell? ⟨w.heap.size + 1, 2, none⟩ = some (.bool p.toward) := Kp_2.out.cell 2
    have vp3 : w2.cell? ⟨w.heap.size + 1, 3, none⟩ = some (.int .i64 p.start) := Kp_2.out.cell 3
    have vp4 : w2.cell? ⟨w.heap.size + 1, 4, none⟩ = some (.int .i64 p.stop) := Kp_2.out.cell 4
    go_wp2_with fail
    clear vd0 vd1 vp0 vp1 vp2 vp3 vp4
    refine (l01In_any _ _ _ _).mono ?_
    rw [Hb3.out]
    rintro e wz ⟨rfl, rfl⟩
    go_wp2
    go_ret
    exact ⟨ret_bool E.out.symm, B2.out⟩
  | true =>
  cases b4 with
  | false =>
    have E := Lib.hid (passB_bad (HP.out.trans (by simp)))
    clear HP
    go_enter Tryz.func34, Tryz.ntmps34
    have vd0 : W0.cell? ⟨w.heap.size, 0, none⟩ = some (.slice Ad0 d.points.length cd0) := Kd.out.cell 0
    have vd1 : W0.cell? ⟨w.heap.size, 1, none⟩ = some (.slice Ad1 d.segs.length cd1) := Kd.out.cell 1
    have vp0 : W0.cell? ⟨w.heap.size + 1, 0, none⟩ = some (.int .i64 p.ship) := Kp.out.cell 0
    have vp1 : W0.cell? ⟨w.heap.size + 1, 1, none⟩ = some (.int .i64 p.segment) := Kp.out.cell 1
    have vp2 : W0.cell? ⟨w.heap.size + 1, 2, none⟩ = some (.bool p.toward) := Kp.out.cell 2
    have vp3 : W0.cell? ⟨w.heap.size + 1, 3, none⟩ = some (.int .i64 p.start) := Kp.out.cell 3
    have vp4 : W0.cell? ⟨w.heap.size + 1, 4, none⟩ = some (.int .i64 p.stop) := Kp.out.cell 4
    go_wp2_with fail
    rw [← HW0.out]
    clear vd0 vd1 vp0 vp1 vp2 vp3 vp4
    refine (specChartOk _ _ d _ (Rd.out.below B.out) Nd.out).mono ?_
    rw [Hb1.out]
    rintro e w1 ⟨rfl, hb1⟩
    have B1 := Lib.hid (B.out.trans (hb1.mono B.out.size))
    have Kd_1 := Lib.hid (Kd.out.below hb1)
    have Kp_1 := Lib.hid (Kp.out.below hb1)
    clear hb1
    have vd0 : w1.cell? ⟨w.heap.size, 0, none⟩ = some (.slice Ad0 d.points.length cd0) := Kd_1.out.cell 0
    have vd1 : w1.cell? ⟨w.heap.size, 1, none⟩ = some (.slice Ad1 d.segs.length cd1) := Kd_1.out.cell 1
    have vp0 : w1.cell? ⟨w.heap.size + 1, 0, none⟩ = some (.int .i64 p.ship) := Kp_1.out.cell 0
    have vp1 : w1.cell? ⟨w.heap.size + 1, 1, none⟩ = some (.int .i64 p.segment) := Kp_1.out.cell 1
    have vp2 : w1.cell? ⟨w.heap.size + 1, 2, none⟩ = some (.bool p.toward) := Kp_1.out.cell 2
    have vp3 : w1.cell? ⟨w.heap.size + 1, 3, none⟩ = some (.int .i64 p.start) := Kp_1.out.cell 3
    have vp4 : w1.cell? ⟨w.heap.size + 1, 4, none⟩ = some (.int .i64 p.stop) := Kp_1.out.cell 4
    go_wp2_with fail
    clear vd0 vd1 vp0 vp1 vp2 vp3 vp4
    refine (specFleetOk _ l _ (Rl.out.below B1.out) Nl.out).mono ?_
    rw [Hb2.out]
    rintro e w2 ⟨rfl, hb2⟩
    have B2 := Lib.hid (B1.out.trans (hb2.mono B1.out.size))
    have Kd_2 := Lib.hid (Kd_1.out.below hb2)
    have Kp_2 := Lib.hid (Kp_1.out.below hb2)
    clear hb2
    have vd0 : w2.cell? ⟨w.heap.size, 0, none⟩ = some (.slice Ad0 d.points.length cd0) := Kd_2.out.cell 0
    have vd1 : w2.cell? ⟨w.heap.size, 1, none⟩ = some (.slice Ad1 d.segs.length cd1) := Kd_2.out.cell 1
    have vp0 : w2.cell? ⟨w.heap.size + 1, 0, none⟩ = some (.int .i64 p.ship) := Kp_2.out.cell 0
    have vp1 : w2.cell? ⟨w.heap.size + 1, 1, none⟩ = some (.int .i64 p.segment) := Kp_2.out.cell 1
    have vp2 : w2.cell? ⟨w.heap.size + 1, 2, none⟩ = some (.bool p.toward) := Kp_2.out.cell 2
    have vp3 : w2.cell? ⟨w.heap.size + 1, 3, none⟩ = some (.int .i64 p.start) := Kp_2.out.cell 3
    have vp4 : w2.cell? ⟨w.heap.size + 1, 4, none⟩ = some (.int .i64 p.stop) := Kp_2.out.cell 4
    go_wp2_with fail
    clear vd0 vd1 vp0 vp1 vp2 vp3 vp4
    refine (l01In_any _ _ _ _).mono ?_
    rw [Hb3.out]
    rintro e wz ⟨rfl, rfl⟩
    have vd0 : w2.cell? ⟨w.heap.size, 0, none⟩ = some (.slice Ad0 d.points.length cd0) := Kd_2.out.cell 0
    have vd1 : w2.cell? ⟨w.heap.size, 1, none⟩ = some (.slice Ad1 d.segs.length cd1) := Kd_2.out.cell 1
    have vp0 : w2.cell? ⟨w.heap.size + 1, 0, none⟩ = some (.int .i64 p.ship) := Kp_2.out.cell 0
    have vp1 : w2.cell? ⟨w.heap.size + 1, 1, none⟩ = some (.int .i64 p.segment) := Kp_2.out.cell 1
    have vp2 : w2.cell? ⟨w.heap.size + 1, 2, none⟩ = some (.bool p.toward) := Kp_2.out.cell 2
    have vp3 : w2.cell? ⟨w.heap.size + 1, 3, none⟩ = some (.int .i64 p.start) := Kp_2.out.cell 3
    have vp4 : w2.cell? ⟨w.heap.size + 1, 4, none⟩ = some (.int .i64 p.stop) := Kp_2.out.cell 4
    go_wp2_with fail
    clear vd0 vd1 vp0 vp1 vp2 vp3 vp4
    refine (l01In_any _ _ _ _).mono ?_
    rw [Hb4.out]
    rintro e wz ⟨rfl, rfl⟩
    go_wp2
    go_ret
    exact ⟨ret_bool E.out.symm, B2.out⟩
  | true =>
  cases b5 with
  | false =>
    have E := Lib.hid (passB_bad (HP.out.trans (by simp)))
    clear HP
    go_enter Tryz.func34, Tryz.ntmps34
    have vd0 : W0.cell? ⟨w.heap.size, 0, none⟩ = some (.slice Ad0 d.points.length cd0) := Kd.out.cell 0
    have vd1 : W0.cell? ⟨w.heap.size, 1, none⟩ = some (.slice Ad1 d.segs.length cd1) := Kd.out.cell 1
    have vp0 : W0.cell? ⟨w.heap.size + 1, 0, none⟩ = some (.int .i64 p.ship) := Kp.out.cell 0
    have vp1 : W0.cell? ⟨w.heap.size + 1, 1, none⟩ = some (.int .i64 p.segment) := Kp.out.cell 1
    have vp2 : W0.cell? ⟨w.heap.size + 1, 2, none⟩ = some (.bool p.toward) := Kp.out.cell 2
    have vp3 : W0.cell? ⟨w.heap.size + 1, 3, none⟩ = some (.int .i64 p.start) := Kp.out.cell 3
    have vp4 : W0.cell? ⟨w.heap.size + 1, 4, none⟩ = some (.int .i64 p.stop) := Kp.out.cell 4
    go_wp2_with fail
    rw [← HW0.out]
    clear vd0 vd1 vp0 vp1 vp2 vp3 vp4
    refine (specChartOk _ _ d _ (Rd.out.below B.out) Nd.out).mono ?_
    rw [Hb1.out]
    rintro e w1 ⟨rfl, hb1⟩
    have B1 := Lib.hid (B.out.trans (hb1.mono B.out.size))
    have Kd_1 := Lib.hid (Kd.out.below hb1)
    have Kp_1 := Lib.hid (Kp.out.below hb1)
    clear hb1
    have vd0 : w1.cell? ⟨w.heap.size, 0, none⟩ = some (.slice Ad0 d.points.length cd0) := Kd_1.out.cell 0
    have vd1 : w1.cell? ⟨w.heap.size, 1, none⟩ = some (.slice Ad1 d.segs.length cd1) := Kd_1.out.cell 1
    have vp0 : w1.cell? ⟨w.heap.size + 1, 0, none⟩ = some (.int .i64 p.ship) := Kp_1.out.cell 0
    have vp1 : w1.cell? ⟨w.heap.size + 1, 1, none⟩ = some (.int .i64 p.segment) := Kp_1.out.cell 1
    have vp2 : w1.cell? ⟨w.heap.size + 1, 2, none⟩ = some (.bool p.toward) := Kp_1.out.cell 2
    have vp3 : w1.cell? ⟨w.heap.size + 1, 3, none⟩ = some (.int .i64 p.start) := Kp_1.out.cell 3
    have vp4 : w1.cell? ⟨w.heap.size + 1, 4, none⟩ = some (.int .i64 p.stop) := Kp_1.out.cell 4
    go_wp2_with fail
    clear vd0 vd1 vp0 vp1 vp2 vp3 vp4
    refine (specFleetOk _ l _ (Rl.out.below B1.out) Nl.out).mono ?_
    rw [Hb2.out]
    rintro e w2 ⟨rfl, hb2⟩
    have B2 := Lib.hid (B1.out.trans (hb2.mono B1.out.size))
    have Kd_2 := Lib.hid (Kd_1.out.below hb2)
    have Kp_2 := Lib.hid (Kp_1.out.below hb2)
    clear hb2
    have vd0 : w2.cell? ⟨w.heap.size, 0, none⟩ = some (.slice Ad0 d.points.length cd0) := Kd_2.out.cell 0
    have vd1 : w2.cell? ⟨w.heap.size, 1, none⟩ = some (.slice Ad1 d.segs.length cd1) := Kd_2.out.cell 1
    have vp0 : w2.cell? ⟨w.heap.size + 1, 0, none⟩ = some (.int .i64 p.ship) := Kp_2.out.cell 0
    have vp1 : w2.cell? ⟨w.heap.size + 1, 1, none⟩ = some (.int .i64 p.segment) := Kp_2.out.cell 1
    have vp2 : w2.cell? ⟨w.heap.size + 1, 2, none⟩ = some (.bool p.toward) := Kp_2.out.cell 2
    have vp3 : w2.cell? ⟨w.heap.size + 1, 3, none⟩ = some (.int .i64 p.start) := Kp_2.out.cell 3
    have vp4 : w2.cell? ⟨w.heap.size + 1, 4, none⟩ = some (.int .i64 p.stop) := Kp_2.out.cell 4
    go_wp2_with fail
    clear vd0 vd1 vp0 vp1 vp2 vp3 vp4
    refine (l01In_any _ _ _ _).mono ?_
    rw [Hb3.out]
    rintro e wz ⟨rfl, rfl⟩
    have vd0 : w2.cell? ⟨w.heap.size, 0, none⟩ = some (.slice Ad0 d.points.length cd0) := Kd_2.out.cell 0
    have vd1 : w2.cell? ⟨w.heap.size, 1, none⟩ = some (.slice Ad1 d.segs.length cd1) := Kd_2.out.cell 1
    have vp0 : w2.cell? ⟨w.heap.size + 1, 0, none⟩ = some (.int .i64 p.ship) := Kp_2.out.cell 0
    have vp1 : w2.cell? ⟨w.heap.size + 1, 1, none⟩ = some (.int .i64 p.segment) := Kp_2.out.cell 1
    have vp2 : w2.cell? ⟨w.heap.size + 1, 2, none⟩ = some (.bool p.toward) := Kp_2.out.cell 2
    have vp3 : w2.cell? ⟨w.heap.size + 1, 3, none⟩ = some (.int .i64 p.start) := Kp_2.out.cell 3
    have vp4 : w2.cell? ⟨w.heap.size + 1, 4, none⟩ = some (.int .i64 p.stop) := Kp_2.out.cell 4
    go_wp2_with fail
    clear vd0 vd1 vp0 vp1 vp2 vp3 vp4
    refine (l01In_any _ _ _ _).mono ?_
    rw [Hb4.out]
    rintro e wz ⟨rfl, rfl⟩
    have vd0 : w2.cell? ⟨w.heap.size, 0, none⟩ = some (.slice Ad0 d.points.length cd0) := Kd_2.out.cell 0
    have vd1 : w2.cell? ⟨w.heap.size, 1, none⟩ = some (.slice Ad1 d.segs.length cd1) := Kd_2.out.cell 1
    have vp0 : w2.cell? ⟨w.heap.size + 1, 0, none⟩ = some (.int .i64 p.ship) := Kp_2.out.cell 0
    have vp1 : w2.cell? ⟨w.heap.size + 1, 1, none⟩ = some (.int .i64 p.segment) := Kp_2.out.cell 1
    have vp2 : w2.cell? ⟨w.heap.size + 1, 2, none⟩ = some (.bool p.toward) := Kp_2.out.cell 2
    have vp3 : w2.cell? ⟨w.heap.size + 1, 3, none⟩ = some (.int .i64 p.start) := Kp_2.out.cell 3
    have vp4 : w2.cell? ⟨w.heap.size + 1, 4, none⟩ = some (.int .i64 p.stop) := Kp_2.out.cell 4
    go_wp2_with fail
    clear vd0 vd1 vp0 vp1 vp2 vp3 vp4
    refine (l01In_any _ _ _ _).mono ?_
    rw [Hb5.out]
    rintro e wz ⟨rfl, rfl⟩
    go_wp2
    go_ret
    exact ⟨ret_bool E.out.symm, B2.out⟩
  | true =>
  obtain ⟨s, hs, hx, i0, il⟩ := shipAt_in Hb3.out
  have E0 := Lib.hid (passB_ok (HP.out.trans (by simp)) hs)
  have hsk := (fleetB_ship Hb2.out hx).1
  have HX := Lib.hid (List.mem_of_getElem? hx)
  have hsl : sailB d p.segment s = true := by unfold sailB; rw [Hb1.out, hsk, Hb4.out]; rfl
  obtain ⟨m0, m1⟩ := minOn_bnd hsl
  obtain ⟨mn, hmn⟩ : ∃ mn, minOn d p.segment s = mn := ⟨_, rfl⟩
  have HMN := Lib.hid hmn
  rw [hmn] at m0 m1 E0
  have hb5 := of_decide_eq_true (show decide (0 ≤ p.start ∧ p.start ≤ 2880) = true from Hb5.out)
  obtain ⟨t0, t1⟩ := hb5
  have wst : IntKind.i64.wrap (p.start + mn) = p.start + mn := by rw [IntKind.wrap_i64]; omega
  obtain ⟨k, hk⟩ : ∃ k : Nat, p.ship = (k : Int) := ⟨p.ship.toNat, by omega⟩
  rw [hk] at hx il
  simp only [Int.toNat_natCast] at hx il
  rw [hk] at Kp
  have HK := Lib.hid hk
  clear HP hs hsk hsl hmn hk i0
  rcases Rl.out.2 with ⟨he, _⟩ | ⟨g, o, c, e, hpos, hcap, hc⟩
  · rw [he] at il; simp at il
  injection e with hA _ hcp
  subst hA hcp
  obtain ⟨q0, q1, q2, q3, q4, q5⟩ := SlShip.cells hc k s hx
  have Y0 := Lib.hid q0
  have Y1 := Lib.hid q1
  have Y2 := Lib.hid q2
  have Y3 := Lib.hid q3
  have Y4 := Lib.hid q4
  have Y5 := Lib.hid q5
  clear q0 q1 q2 q3 q4 q5 hc hx
  go_enter Tryz.func34, Tryz.ntmps34
  have vd0 : W0.cell? ⟨w.heap.size, 0, none⟩ = some (.slice Ad0 d.points.length cd0) := Kd.out.cell 0
  have vd1 : W0.cell? ⟨w.heap.size, 1, none⟩ = some (.slice Ad1 d.segs.length cd1) := Kd.out.cell 1
  have vp0 : W0.cell? ⟨w.heap.size + 1, 0, none⟩ = some (.int .i64 (k : Int)) := Kp.out.cell 0
  have vp1 : W0.cell? ⟨w.heap.size + 1, 1, none⟩ = some (.int .i64 p.segment) := Kp.out.cell 1
  have vp2 : W0.cell? ⟨w.heap.size + 1, 2, none⟩ = some (.bool p.toward) := Kp.out.cell 2
  have vp3 : W0.cell? ⟨w.heap.size + 1, 3, none⟩ = some (.int .i64 p.start) := Kp.out.cell 3
  have vp4 : W0.cell? ⟨w.heap.size + 1, 4, none⟩ = some (.int .i64 p.stop) := Kp.out.cell 4
  go_wp2_with fail
  rw [← HW0.out]
  clear vd0 vd1 vp0 vp1 vp2 vp3 vp4
  refine (specChartOk _ _ d _ (Rd.out.below B.out) Nd.out).mono ?_
  rw [Hb1.out]
  rintro e w1 ⟨rfl, hb1⟩
  have B1 := Lib.hid (B.out.trans (hb1.mono B.out.size))
  have Kd_1 := Lib.hid (Kd.out.below hb1)
  have Kp_1 := Lib.hid (Kp.out.below hb1)
  clear hb1
  have vd0 : w1.cell? ⟨w.heap.size, 0, none⟩ = some (.slice Ad0 d.points.length cd0) := Kd_1.out.cell 0
  have vd1 : w1.cell? ⟨w.heap.size, 1, none⟩ = some (.slice Ad1 d.segs.length cd1) := Kd_1.out.cell 1
  have vp0 : w1.cell? ⟨w.heap.size + 1, 0, none⟩ = some (.int .i64 (k : Int)) := Kp_1.out.cell 0
  have vp1 : w1.cell? ⟨w.heap.size + 1, 1, none⟩ = some (.int .i64 p.segment) := Kp_1.out.cell 1
  have vp2 : w1.cell? ⟨w.heap.size + 1, 2, none⟩ = some (.bool p.toward) := Kp_1.out.cell 2
  have vp3 : w1.cell? ⟨w.heap.size + 1, 3, none⟩ = some (.int .i64 p.start) := Kp_1.out.cell 3
  have vp4 : w1.cell? ⟨w.heap.size + 1, 4, none⟩ = some (.int .i64 p.stop) := Kp_1.out.cell 4
  go_wp2_with fail
  clear vd0 vd1 vp0 vp1 vp2 vp3 vp4
  refine (specFleetOk _ l _ (Rl.out.below B1.out) Nl.out).mono ?_
  rw [Hb2.out]
  rintro e w2 ⟨rfl, hb2⟩
  have B2 := Lib.hid (B1.out.trans (hb2.mono B1.out.size))
  have Kd_2 := Lib.hid (Kd_1.out.below hb2)
  have Kp_2 := Lib.hid (Kp_1.out.below hb2)
  clear hb2
  have vd0 : w2.cell? ⟨w.heap.size, 0, none⟩ = some (.slice Ad0 d.points.length cd0) := Kd_2.out.cell 0
  have vd1 : w2.cell? ⟨w.heap.size, 1, none⟩ = some (.slice Ad1 d.segs.length cd1) := Kd_2.out.cell 1
  have vp0 : w2.cell? ⟨w.heap.size + 1, 0, none⟩ = some (.int .i64 (k : Int)) := Kp_2.out.cell 0
  have vp1 : w2.cell? ⟨w.heap.size + 1, 1, none⟩ = some (.int .i64 p.segment) := Kp_2.out.cell 1
  have vp2 : w2.cell? ⟨w.heap.size + 1, 2, none⟩ = some (.bool p.toward) := Kp_2.out.cell 2
  have vp3 : w2.cell? ⟨w.heap.size + 1, 3, none⟩ = some (.int .i64 p.start) := Kp_2.out.cell 3
  have vp4 : w2.cell? ⟨w.heap.size + 1, 4, none⟩ = some (.int .i64 p.stop) := Kp_2.out.cell 4
  go_wp2_with fail
  clear vd0 vd1 vp0 vp1 vp2 vp3 vp4
  refine (l01In_any _ _ _ _).mono ?_
  rw [← HK.out, Hb3.out]
  rintro e wz ⟨rfl, rfl⟩
  have vd0 : w2.cell? ⟨w.heap.size, 0, none⟩ = some (.slice Ad0 d.points.length cd0) := Kd_2.out.cell 0
  have vd1 : w2.cell? ⟨w.heap.size, 1, none⟩ = some (.slice Ad1 d.segs.length cd1) := Kd_2.out.cell 1
  have vp0 : w2.cell? ⟨w.heap.size + 1, 0, none⟩ = some (.int .i64 (k : Int)) := Kp_2.out.cell 0
  have vp1 : w2.cell? ⟨w.heap.size + 1, 1, none⟩ = some (.int .i64 p.segment) := Kp_2.out.cell 1
  have vp2 : w2.cell? ⟨w.heap.size + 1, 2, none⟩ = some (.bool p.toward) := Kp_2.out.cell 2
  have vp3 : w2.cell? ⟨w.heap.size + 1, 3, none⟩ = some (.int .i64 p.start) := Kp_2.out.cell 3
  have vp4 : w2.cell? ⟨w.heap.size + 1, 4, none⟩ = some (.int .i64 p.stop) := Kp_2.out.cell 4
  go_wp2_with fail
  clear vd0 vd1 vp0 vp1 vp2 vp3 vp4
  refine (l01In_any _ _ _ _).mono ?_
  rw [Hb4.out]
  rintro e wz ⟨rfl, rfl⟩
  have vd0 : w2.cell? ⟨w.heap.size, 0, none⟩ = some (.slice Ad0 d.points.length cd0) := Kd_2.out.cell 0
  have vd1 : w2.cell? ⟨w.heap.size, 1, none⟩ = some (.slice Ad1 d.segs.length cd1) := Kd_2.out.cell 1
  have vp0 : w2.cell? ⟨w.heap.size + 1, 0, none⟩ = some (.int .i64 (k : Int)) := Kp_2.out.cell 0
  have vp1 : w2.cell? ⟨w.heap.size + 1, 1, none⟩ = some (.int .i64 p.segment) := Kp_2.out.cell 1
  have vp2 : w2.cell? ⟨w.heap.size + 1, 2, none⟩ = some (.bool p.toward) := Kp_2.out.cell 2
  have vp3 : w2.cell? ⟨w.heap.size + 1, 3, none⟩ = some (.int .i64 p.start) := Kp_2.out.cell 3
  have vp4 : w2.cell? ⟨w.heap.size + 1, 4, none⟩ = some (.int .i64 p.stop) := Kp_2.out.cell 4
  go_wp2_with fail
  clear vd0 vd1 vp0 vp1 vp2 vp3 vp4
  refine (l01In_any _ _ _ _).mono ?_
  rw [Hb5.out]
  rintro e wz ⟨rfl, rfl⟩
  have FY0 := Lib.hid (show w2.cell? ⟨g, o + k * 6, none⟩ = some (.string s.name) from cell_onV Y0.out B2.out)
  have FY1 := Lib.hid (show w2.cell? ⟨g, o + k * 6 + 1, none⟩ = some (.int .i64 s.length) from cell_onV Y1.out B2.out)
  have FY2 := Lib.hid (show w2.cell? ⟨g, o + k * 6 + 2, none⟩ = some (.int .i64 s.draught) from cell_onV Y2.out B2.out)
  have FY3 := Lib.hid (show w2.cell? ⟨g, o + k * 6 + 3, none⟩ = some (.int .i64 s.line) from cell_onV Y3.out B2.out)
  have FY4 := Lib.hid (show w2.cell? ⟨g, o + k * 6 + 4, none⟩ = some (.int .i64 s.tugs) from cell_onV Y4.out B2.out)
  have FY5 := Lib.hid (show w2.cell? ⟨g, o + k * 6 + 5, none⟩ = some (.bool s.slow) from cell_onV Y5.out B2.out)
  obtain ⟨qb, hq⟩ : ∃ b, (p.stop == p.start + mn) = b := ⟨_, rfl⟩
  rw [hq] at E0
  have E := Lib.hid E0
  clear E0
  cases qb with
  | false =>
    have Fd0 := Lib.hid (show w2.cell? ⟨w.heap.size, 0, none⟩ = some (.slice Ad0 d.points.length cd0) from Kd_2.out.cell 0)
    have Fd1 := Lib.hid (show w2.cell? ⟨w.heap.size, 1, none⟩ = some (.slice Ad1 d.segs.length cd1) from Kd_2.out.cell 1)
    have Fp0 := Lib.hid (show w2.cell? ⟨w.heap.size + 1, 0, none⟩ = some (.int .i64 (k : Int)) from Kp_2.out.cell 0)
    have Fp1 := Lib.hid (show w2.cell? ⟨w.heap.size + 1, 1, none⟩ = some (.int .i64 p.segment) from Kp_2.out.cell 1)
    have Fp2 := Lib.hid (show w2.cell? ⟨w.heap.size + 1, 2, none⟩ = some (.bool p.toward) from Kp_2.out.cell 2)
    have Fp3 := Lib.hid (show w2.cell? ⟨w.heap.size + 1, 3, none⟩ = some (.int .i64 p.start) from Kp_2.out.cell 3)
    have Fp4 := Lib.hid (show w2.cell? ⟨w.heap.size + 1, 4, none⟩ = some (.int .i64 p.stop) from Kp_2.out.cell 4)
    have DD := Lib.hid ((Below.refl w2.heap.size w2).drew)
    have vFd0 := Fd0.out
    have vFd1 := Fd1.out
    have vFp0 := Fp0.out
    have vFp1 := Fp1.out
    have vFp2 := Fp2.out
    have vFp3 := Fp3.out
    have vFp4 := Fp4.out
    have vFY0 := FY0.out
    have vFY1 := FY1.out
    have vFY2 := FY2.out
    have vFY3 := FY3.out
    have vFY4 := FY4.out
    have vFY5 := FY5.out
    go_upto_region 3 with fail
    refine wp_region_held_drew (S := (fun w' => w'.cell? ⟨w.heap.size, 0, none⟩ = some (.slice Ad0 d.points.length cd0) ∧ w'.cell? ⟨w.heap.size, 1, none⟩ = some (.slice Ad1 d.segs.length cd1) ∧ w'.cell? ⟨w.heap.size + 1, 0, none⟩ = some (.int .i64 (k : Int)) ∧ w'.cell? ⟨w.heap.size + 1, 1, none⟩ = some (.int .i64 p.segment) ∧ w'.cell? ⟨w.heap.size + 1, 2, none⟩ = some (.bool p.toward) ∧ w'.cell? ⟨w.heap.size + 1, 3, none⟩ = some (.int .i64 p.start) ∧ w'.cell? ⟨w.heap.size + 1, 4, none⟩ = some (.int .i64 p.stop) ∧ w'.cell? ⟨g, o + k * 6, none⟩ = some (.string s.name) ∧ w'.cell? ⟨g, o + k * 6 + 1, none⟩ = some (.int .i64 s.length) ∧ w'.cell? ⟨g, o + k * 6 + 2, none⟩ = some (.int .i64 s.draught) ∧ w'.cell? ⟨g, o + k * 6 + 3, none⟩ = some (.int .i64 s.line) ∧ w'.cell? ⟨g, o + k * 6 + 4, none⟩ = some (.int .i64 s.tugs) ∧ w'.cell? ⟨g, o + k * 6 + 5, none⟩ = some (.bool s.slow) ∧ Hid (Below w2.heap.size w2 w'))) (by kernel_rfl) ?_ (fun hHeld => ?_)
    · (try dsimp only); go_keep
    refine wpAnyH_take (i := 0) (v := ?_) (by simp only [List.getElem?_toArray, List.getElem?_cons_zero]; rfl) (by kernel_rfl) (by kernel_rfl) (by kernel_rfl) (by exact fun _ _ _ h => h) (Or.inl ⟨by rfl, ?_⟩) (by assumption) ?_; rotate_left; focus (intro w hSw; (try dsimp only at hSw); first | (go_simp; done) | (go_simp; with_reducible rfl))
    try simp only [Act.put, List.setIfInBounds_toArray, List.set_cons_zero, List.set_cons_succ]
    refine wpAnyH_take (i := 1) (v := ?_) (by simp only [List.getElem?_toArray, List.getElem?_cons_succ, List.getElem?_cons_zero]; rfl) (by kernel_rfl) (by kernel_rfl) (by kernel_rfl) (by exact fun _ _ _ h => h) (Or.inl ⟨by rfl, ?_⟩) (by assumption) ?_; rotate_left; focus (intro w hSw; (try dsimp only at hSw); first | (go_simp; done) | (go_simp; with_reducible rfl))
    try simp only [Act.put, List.setIfInBounds_toArray, List.set_cons_zero, List.set_cons_succ]
    refine wpAnyH_take (i := 2) (v := ?_) (by simp only [List.getElem?_toArray, List.getElem?_cons_succ, List.getElem?_cons_zero]; rfl) (by kernel_rfl) (by kernel_rfl) (by kernel_rfl) (by exact fun _ _ _ h => h) (Or.inl ⟨by rfl, ?_⟩) (by assumption) ?_; rotate_left; focus (intro w hSw; (try dsimp only at hSw); first | (go_simp; done) | (go_simp; with_reducible rfl))
    try simp only [Act.put, List.setIfInBounds_toArray, List.set_cons_zero, List.set_cons_succ]
    refine wpAnyH_take (i := 3) (v := ?_) (by simp only [List.getElem?_toArray, List.getElem?_cons_succ, List.getElem?_cons_zero]; rfl) (by kernel_rfl) (by kernel_rfl) (by kernel_rfl) (by exact fun _ _ _ h => h) (Or.inl ⟨by rfl, ?_⟩) (by assumption) ?_; rotate_left; focus (intro w hSw; (try dsimp only at hSw); first | (go_simp; done) | (go_simp; with_reducible rfl))
    try simp only [Act.put, List.setIfInBounds_toArray, List.set_cons_zero, List.set_cons_succ]
    refine wpAnyH_take (i := 4) (v := ?_) (by simp only [List.getElem?_toArray, List.getElem?_cons_succ, List.getElem?_cons_zero]; rfl) (by kernel_rfl) (by kernel_rfl) (by kernel_rfl) (by exact fun _ _ _ h => h) (Or.inl ⟨by rfl, ?_⟩) (by assumption) ?_; rotate_left; focus (intro w hSw; (try dsimp only at hSw); first | (go_simp; done) | (go_simp; with_reducible rfl))
    try simp only [Act.put, List.setIfInBounds_toArray, List.set_cons_zero, List.set_cons_succ]
    refine wpAnyH_take (i := 5) (v := ?_) (by simp only [List.getElem?_toArray, List.getElem?_cons_succ, List.getElem?_cons_zero]; rfl) (by kernel_rfl) (by kernel_rfl) (by kernel_rfl) (by exact fun _ _ _ h => h) (Or.inl ⟨by rfl, ?_⟩) (by assumption) ?_; rotate_left; focus (intro w hSw; (try dsimp only at hSw); first | (go_simp; done) | (go_simp; with_reducible rfl))
    try simp only [Act.put, List.setIfInBounds_toArray, List.set_cons_zero, List.set_cons_succ]
    refine wpAnyH_take (i := 6) (v := ?_) (by simp only [List.getElem?_toArray, List.getElem?_cons_succ, List.getElem?_cons_zero]; rfl) (by kernel_rfl) (by kernel_rfl) (by kernel_rfl) (by exact fun _ _ _ h => h) (Or.inl ⟨by rfl, ?_⟩) (by assumption) ?_; rotate_left; focus (intro w hSw; (try dsimp only at hSw); first | (go_simp; done) | (go_simp; with_reducible rfl))
    try simp only [Act.put, List.setIfInBounds_toArray, List.set_cons_zero, List.set_cons_succ]
    refine wpAnyH_take (i := 7) (v := ?_) (by simp only [List.getElem?_toArray, List.getElem?_cons_succ, List.getElem?_cons_zero]; rfl) (by kernel_rfl) (by kernel_rfl) (by kernel_rfl) (by exact fun _ _ _ h => h) (Or.inl ⟨by rfl, ?_⟩) (by assumption) ?_; rotate_left; focus (intro w hSw; (try dsimp only at hSw); first | (go_simp; done) | (go_simp; with_reducible rfl))
    try simp only [Act.put, List.setIfInBounds_toArray, List.set_cons_zero, List.set_cons_succ]
    refine wpAnyH_take (i := 8) (v := ?_) (by simp only [List.getElem?_toArray, List.getElem?_cons_succ, List.getElem?_cons_zero]; rfl) (by kernel_rfl) (by kernel_rfl) (by kernel_rfl) (by exact fun _ _ _ h => h) (Or.inl ⟨by rfl, ?_⟩) (by assumption) ?_; rotate_left; focus (intro w hSw; (try dsimp only at hSw); first | (go_simp; done) | (go_simp; with_reducible rfl))
    try simp only [Act.put, List.setIfInBounds_toArray, List.set_cons_zero, List.set_cons_succ]
    refine wpAnyH_take (i := 9) (v := ?_) (by simp only [List.getElem?_toArray, List.getElem?_cons_succ, List.getElem?_cons_zero]; rfl) (by kernel_rfl) (by kernel_rfl) (by kernel_rfl) (by exact fun _ _ _ h => h) (Or.inl ⟨by rfl, ?_⟩) (by assumption) ?_; rotate_left; focus (intro w hSw; (try dsimp only at hSw); first | (go_simp; done) | (go_simp; with_reducible rfl))
    try simp only [Act.put, List.setIfInBounds_toArray, List.set_cons_zero, List.set_cons_succ]
    refine wpAnyH_take (i := 10) (v := ?_) (by simp only [List.getElem?_toArray, List.getElem?_cons_succ, List.getElem?_cons_zero]; rfl) (by kernel_rfl) (by kernel_rfl) (by kernel_rfl) (by exact fun _ _ _ h => h) (Or.inl ⟨by rfl, ?_⟩) (by assumption) ?_; rotate_left; focus (intro w hSw; (try dsimp only at hSw); first | (go_simp; done) | (go_simp; with_reducible rfl))
    try simp only [Act.put, List.setIfInBounds_toArray, List.set_cons_zero, List.set_cons_succ]
    refine wpAnyH_take (i := 11) (v := ?_) (by simp only [List.getElem?_toArray, List.getElem?_cons_succ, List.getElem?_cons_zero]; rfl) (by kernel_rfl) (by kernel_rfl) (by kernel_rfl) (by exact fun _ _ _ h => h) (Or.inl ⟨by rfl, ?_⟩) (by assumption) ?_; rotate_left; focus (intro w hSw; (try dsimp only at hSw); first | (go_simp; done) | (go_simp; with_reducible rfl))
    try simp only [Act.put, List.setIfInBounds_toArray, List.set_cons_zero, List.set_cons_succ]
    refine wpAnyH_ready (rs := [12]) (by kernel_rfl) (by simp) ?_
    refine AllReadyH.cons rfl (fun K hK => ?_) AllReadyH.nil
    rw [if_pos (by rfl)]
    go_simp
    go_at_call 64
    have kB := hHeld.2.2.2.2.2.2.2.2.2.2.2.2.2
    refine (specMinutesOn _ _ d p.segment s _ (Rd.out.below (B2.out.trans (kB.out.mono B2.out.size))) Nd.out (Nl.out s HX.out)).mono ?_
    rw [HMN.out]
    rintro e wq2_12 ⟨rfl, hbk⟩
    have HBK := kB.out.trans (hbk.mono kB.out.size)
    have QS := Lib.hid (show wq2_12.cell? ⟨w.heap.size, 0, none⟩ = some (.slice Ad0 d.points.length cd0) ∧ wq2_12.cell? ⟨w.heap.size, 1, none⟩ = some (.slice Ad1 d.segs.length cd1) ∧ wq2_12.cell? ⟨w.heap.size + 1, 0, none⟩ = some (.int .i64 (k : Int)) ∧ wq2_12.cell? ⟨w.heap.size + 1, 1, none⟩ = some (.int .i64 p.segment) ∧ wq2_12.cell? ⟨w.heap.size + 1, 2, none⟩ = some (.bool p.toward) ∧ wq2_12.cell? ⟨w.heap.size + 1, 3, none⟩ = some (.int .i64 p.start) ∧ wq2_12.cell? ⟨w.heap.size + 1, 4, none⟩ = some (.int .i64 p.stop) ∧ wq2_12.cell? ⟨g, o + k * 6, none⟩ = some (.string s.name) ∧ wq2_12.cell? ⟨g, o + k * 6 + 1, none⟩ = some (.int .i64 s.length) ∧ wq2_12.cell? ⟨g, o + k * 6 + 2, none⟩ = some (.int .i64 s.draught) ∧ wq2_12.cell? ⟨g, o + k * 6 + 3, none⟩ = some (.int .i64 s.line) ∧ wq2_12.cell? ⟨g, o + k * 6 + 4, none⟩ = some (.int .i64 s.tugs) ∧ wq2_12.cell? ⟨g, o + k * 6 + 5, none⟩ = some (.bool s.slow) ∧ Hid (Below w2.heap.size w2 wq2_12) from ⟨cell_onV Fd0.out HBK, cell_onV Fd1.out HBK, cell_onV Fp0.out HBK, cell_onV Fp1.out HBK, cell_onV Fp2.out HBK, cell_onV Fp3.out HBK, cell_onV Fp4.out HBK, cell_onV FY0.out HBK, cell_onV FY1.out HBK, cell_onV FY2.out HBK, cell_onV FY3.out HBK, cell_onV FY4.out HBK, cell_onV FY5.out HBK, Lib.hid HBK⟩)
    clear hbk kB hHeld HBK
    go_simp
    refine hK.out _ _ ?_ (fun hHeld => ?_)
    · (try dsimp only); exact QS.out
    clear hK K
    try simp only [Act.put, List.setIfInBounds_toArray, List.set_cons_zero, List.set_cons_succ]
    refine wpAnyH_take (i := 13) (v := ?_) (by simp only [List.getElem?_toArray, List.getElem?_cons_succ, List.getElem?_cons_zero]; rfl) (by kernel_rfl) (by kernel_rfl) (by kernel_rfl) (by exact fun _ _ _ h => h) (Or.inl ⟨by rfl, ?_⟩) (by assumption) ?_; rotate_left; focus (intro w hSw; (try dsimp only at hSw); first | (go_simp; done) | (go_simp; with_reducible rfl))
    try simp only [Act.put, List.setIfInBounds_toArray, List.set_cons_zero, List.set_cons_succ]
    refine wpAnyH_take (i := 14) (v := ?_) (by simp only [List.getElem?_toArray, List.getElem?_cons_succ, List.getElem?_cons_zero]; rfl) (by kernel_rfl) (by kernel_rfl) (by kernel_rfl) (by exact fun _ _ _ h => h) (Or.inl ⟨by rfl, ?_⟩) (by assumption) ?_; rotate_left; focus (intro w hSw; (try dsimp only at hSw); first | (go_simp; done) | (go_simp; with_reducible rfl))
    try simp only [Act.put, List.setIfInBounds_toArray, List.set_cons_zero, List.set_cons_succ]
    refine wpAnyH_take (i := 15) (v := ?_) (by simp only [List.getElem?_toArray, List.getElem?_cons_succ, List.getElem?_cons_zero]; rfl) (by kernel_rfl) (by kernel_rfl) (by kernel_rfl) (by exact fun _ _ _ h => h) (Or.inl ⟨by rfl, ?_⟩) (by assumption) ?_; rotate_left; focus (intro w hSw; (try dsimp only at hSw); first | (go_simp; done) | (go_simp; with_reducible rfl))
    try simp only [Act.put, List.setIfInBounds_toArray, List.set_cons_zero, List.set_cons_succ]
    refine wpAnyH_take (i := 16) (v := undef) (by simp only [List.getElem?_toArray, List.getElem?_cons_succ, List.getElem?_cons_zero]; rfl) (by kernel_rfl) (by kernel_rfl) (by kernel_rfl) (by exact fun _ _ _ h => h) (Or.inr ⟨by rfl, rfl⟩) (by assumption) ?_
    try simp only [Act.put, List.setIfInBounds_toArray, List.set_cons_zero, List.set_cons_succ]
    refine wpAnyH_take (i := 17) (v := undef) (by simp only [List.getElem?_toArray, List.getElem?_cons_succ, List.getElem?_cons_zero]; rfl) (by kernel_rfl) (by kernel_rfl) (by kernel_rfl) (by exact fun _ _ _ h => h) (Or.inr ⟨by rfl, rfl⟩) (by assumption) ?_
    try simp only [Act.put, List.setIfInBounds_toArray, List.set_cons_zero, List.set_cons_succ]
    refine wpAnyH_take (i := 18) (v := undef) (by simp only [List.getElem?_toArray, List.getElem?_cons_succ, List.getElem?_cons_zero]; rfl) (by kernel_rfl) (by kernel_rfl) (by kernel_rfl) (by exact fun _ _ _ h => h) (Or.inr ⟨by rfl, rfl⟩) (by assumption) ?_
    try simp only [Act.put, List.setIfInBounds_toArray, List.set_cons_zero, List.set_cons_succ]
    refine wpAnyH_take (i := 19) (v := ?_) (by simp only [List.getElem?_toArray, List.getElem?_cons_succ, List.getElem?_cons_zero]; rfl) (by kernel_rfl) (by kernel_rfl) (by kernel_rfl) (by exact fun _ _ _ h => h) (Or.inl ⟨by rfl, ?_⟩) (by assumption) ?_; rotate_left; focus (intro w hSw; (try dsimp only at hSw); first | (go_simp; done) | (go_simp; with_reducible rfl))
    try simp only [Act.put, List.setIfInBounds_toArray, List.set_cons_zero, List.set_cons_succ]
    refine wpAnyH_take (i := 20) (v := ?_) (by simp only [List.getElem?_toArray, List.getElem?_cons_succ, List.getElem?_cons_zero]; rfl) (by kernel_rfl) (by kernel_rfl) (by kernel_rfl) (by exact fun _ _ _ h => h) (Or.inl ⟨by rfl, ?_⟩) (by assumption) ?_; rotate_left; focus (intro w hSw; (try dsimp only at hSw); first | (go_simp; done) | (go_simp; with_reducible rfl))
    try simp only [Act.put, List.setIfInBounds_toArray, List.set_cons_zero, List.set_cons_succ]
    refine wpAnyH_done (by kernel_rfl) ?_ _
    go_wp2
    go_ret
    exact ⟨ret_bool (by rw [E.out]; simp), B2.out.trans (hHeld.2.2.2.2.2.2.2.2.2.2.2.2.2.out.mono B2.out.size)⟩
  | true =>
    have Fd0 := Lib.hid (show w2.cell? ⟨w.heap.size, 0, none⟩ = some (.slice Ad0 d.points.length cd0) from Kd_2.out.cell 0)
    have Fd1 := Lib.hid (show w2.cell? ⟨w.heap.size, 1, none⟩ = some (.slice Ad1 d.segs.length cd1) from Kd_2.out.cell 1)
    have Fp0 := Lib.hid (show w2.cell? ⟨w.heap.size + 1, 0, none⟩ = some (.int .i64 (k : Int)) from Kp_2.out.cell 0)
    have Fp1 := Lib.hid (show w2.cell? ⟨w.heap.size + 1, 1, none⟩ = some (.int .i64 p.segment) from Kp_2.out.cell 1)
    have Fp2 := Lib.hid (show w2.cell? ⟨w.heap.size + 1, 2, none⟩ = some (.bool p.toward) from Kp_2.out.cell 2)
    have Fp3 := Lib.hid (show w2.cell? ⟨w.heap.size + 1, 3, none⟩ = some (.int .i64 p.start) from Kp_2.out.cell 3)
    have Fp4 := Lib.hid (show w2.cell? ⟨w.heap.size + 1, 4, none⟩ = some (.int .i64 p.stop) from Kp_2.out.cell 4)
    have DD := Lib.hid ((Below.refl w2.heap.size w2).drew)
    have vFd0 := Fd0.out
    have vFd1 := Fd1.out
    have vFp0 := Fp0.out
    have vFp1 := Fp1.out
    have vFp2 := Fp2.out
    have vFp3 := Fp3.out
    have vFp4 := Fp4.out
    have vFY0 := FY0.out
    have vFY1 := FY1.out
    have vFY2 := FY2.out
    have vFY3 := FY3.out
    have vFY4 := FY4.out
    have vFY5 := FY5.out
    go_upto_region 3 with fail
    refine wp_region_held_drew (S := (fun w' => w'.cell? ⟨w.heap.size, 0, none⟩ = some (.slice Ad0 d.points.length cd0) ∧ w'.cell? ⟨w.heap.size, 1, none⟩ = some (.slice Ad1 d.segs.length cd1) ∧ w'.cell? ⟨w.heap.size + 1, 0, none⟩ = some (.int .i64 (k : Int)) ∧ w'.cell? ⟨w.heap.size + 1, 1, none⟩ = some (.int .i64 p.segment) ∧ w'.cell? ⟨w.heap.size + 1, 2, none⟩ = some (.bool p.toward) ∧ w'.cell? ⟨w.heap.size + 1, 3, none⟩ = some (.int .i64 p.start) ∧ w'.cell? ⟨w.heap.size + 1, 4, none⟩ = some (.int .i64 p.stop) ∧ w'.cell? ⟨g, o + k * 6, none⟩ = some (.string s.name) ∧ w'.cell? ⟨g, o + k * 6 + 1, none⟩ = some (.int .i64 s.length) ∧ w'.cell? ⟨g, o + k * 6 + 2, none⟩ = some (.int .i64 s.draught) ∧ w'.cell? ⟨g, o + k * 6 + 3, none⟩ = some (.int .i64 s.line) ∧ w'.cell? ⟨g, o + k * 6 + 4, none⟩ = some (.int .i64 s.tugs) ∧ w'.cell? ⟨g, o + k * 6 + 5, none⟩ = some (.bool s.slow) ∧ Hid (Below w2.heap.size w2 w'))) (by kernel_rfl) ?_ (fun hHeld => ?_)
    · (try dsimp only); go_keep
    refine wpAnyH_take (i := 0) (v := ?_) (by simp only [List.getElem?_toArray, List.getElem?_cons_zero]; rfl) (by kernel_rfl) (by kernel_rfl) (by kernel_rfl) (by exact fun _ _ _ h => h) (Or.inl ⟨by rfl, ?_⟩) (by assumption) ?_; rotate_left; focus (intro w hSw; (try dsimp only at hSw); first | (go_simp; done) | (go_simp; with_reducible rfl))
    try simp only [Act.put, List.setIfInBounds_toArray, List.set_cons_zero, List.set_cons_succ]
    refine wpAnyH_take (i := 1) (v := ?_) (by simp only [List.getElem?_toArray, List.getElem?_cons_succ, List.getElem?_cons_zero]; rfl) (by kernel_rfl) (by kernel_rfl) (by kernel_rfl) (by exact fun _ _ _ h => h) (Or.inl ⟨by rfl, ?_⟩) (by assumption) ?_; rotate_left; focus (intro w hSw; (try dsimp only at hSw); first | (go_simp; done) | (go_simp; with_reducible rfl))
    try simp only [Act.put, List.setIfInBounds_toArray, List.set_cons_zero, List.set_cons_succ]
    refine wpAnyH_take (i := 2) (v := ?_) (by simp only [List.getElem?_toArray, List.getElem?_cons_succ, List.getElem?_cons_zero]; rfl) (by kernel_rfl) (by kernel_rfl) (by kernel_rfl) (by exact fun _ _ _ h => h) (Or.inl ⟨by rfl, ?_⟩) (by assumption) ?_; rotate_left; focus (intro w hSw; (try dsimp only at hSw); first | (go_simp; done) | (go_simp; with_reducible rfl))
    try simp only [Act.put, List.setIfInBounds_toArray, List.set_cons_zero, List.set_cons_succ]
    refine wpAnyH_take (i := 3) (v := ?_) (by simp only [List.getElem?_toArray, List.getElem?_cons_succ, List.getElem?_cons_zero]; rfl) (by kernel_rfl) (by kernel_rfl) (by kernel_rfl) (by exact fun _ _ _ h => h) (Or.inl ⟨by rfl, ?_⟩) (by assumption) ?_; rotate_left; focus (intro w hSw; (try dsimp only at hSw); first | (go_simp; done) | (go_simp; with_reducible rfl))
    try simp only [Act.put, List.setIfInBounds_toArray, List.set_cons_zero, List.set_cons_succ]
    refine wpAnyH_take (i := 4) (v := ?_) (by simp only [List.getElem?_toArray, List.getElem?_cons_succ, List.getElem?_cons_zero]; rfl) (by kernel_rfl) (by kernel_rfl) (by kernel_rfl) (by exact fun _ _ _ h => h) (Or.inl ⟨by rfl, ?_⟩) (by assumption) ?_; rotate_left; focus (intro w hSw; (try dsimp only at hSw); first | (go_simp; done) | (go_simp; with_reducible rfl))
    try simp only [Act.put, List.setIfInBounds_toArray, List.set_cons_zero, List.set_cons_succ]
    refine wpAnyH_take (i := 5) (v := ?_) (by simp only [List.getElem?_toArray, List.getElem?_cons_succ, List.getElem?_cons_zero]; rfl) (by kernel_rfl) (by kernel_rfl) (by kernel_rfl) (by exact fun _ _ _ h => h) (Or.inl ⟨by rfl, ?_⟩) (by assumption) ?_; rotate_left; focus (intro w hSw; (try dsimp only at hSw); first | (go_simp; done) | (go_simp; with_reducible rfl))
    try simp only [Act.put, List.setIfInBounds_toArray, List.set_cons_zero, List.set_cons_succ]
    refine wpAnyH_take (i := 6) (v := ?_) (by simp only [List.getElem?_toArray, List.getElem?_cons_succ, List.getElem?_cons_zero]; rfl) (by kernel_rfl) (by kernel_rfl) (by kernel_rfl) (by exact fun _ _ _ h => h) (Or.inl ⟨by rfl, ?_⟩) (by assumption) ?_; rotate_left; focus (intro w hSw; (try dsimp only at hSw); first | (go_simp; done) | (go_simp; with_reducible rfl))
    try simp only [Act.put, List.setIfInBounds_toArray, List.set_cons_zero, List.set_cons_succ]
    refine wpAnyH_take (i := 7) (v := ?_) (by simp only [List.getElem?_toArray, List.getElem?_cons_succ, List.getElem?_cons_zero]; rfl) (by kernel_rfl) (by kernel_rfl) (by kernel_rfl) (by exact fun _ _ _ h => h) (Or.inl ⟨by rfl, ?_⟩) (by assumption) ?_; rotate_left; focus (intro w hSw; (try dsimp only at hSw); first | (go_simp; done) | (go_simp; with_reducible rfl))
    try simp only [Act.put, List.setIfInBounds_toArray, List.set_cons_zero, List.set_cons_succ]
    refine wpAnyH_take (i := 8) (v := ?_) (by simp only [List.getElem?_toArray, List.getElem?_cons_succ, List.getElem?_cons_zero]; rfl) (by kernel_rfl) (by kernel_rfl) (by kernel_rfl) (by exact fun _ _ _ h => h) (Or.inl ⟨by rfl, ?_⟩) (by assumption) ?_; rotate_left; focus (intro w hSw; (try dsimp only at hSw); first | (go_simp; done) | (go_simp; with_reducible rfl))
    try simp only [Act.put, List.setIfInBounds_toArray, List.set_cons_zero, List.set_cons_succ]
    refine wpAnyH_take (i := 9) (v := ?_) (by simp only [List.getElem?_toArray, List.getElem?_cons_succ, List.getElem?_cons_zero]; rfl) (by kernel_rfl) (by kernel_rfl) (by kernel_rfl) (by exact fun _ _ _ h => h) (Or.inl ⟨by rfl, ?_⟩) (by assumption) ?_; rotate_left; focus (intro w hSw; (try dsimp only at hSw); first | (go_simp; done) | (go_simp; with_reducible rfl))
    try simp only [Act.put, List.setIfInBounds_toArray, List.set_cons_zero, List.set_cons_succ]
    refine wpAnyH_take (i := 10) (v := ?_) (by simp only [List.getElem?_toArray, List.getElem?_cons_succ, List.getElem?_cons_zero]; rfl) (by kernel_rfl) (by kernel_rfl) (by kernel_rfl) (by exact fun _ _ _ h => h) (Or.inl ⟨by rfl, ?_⟩) (by assumption) ?_; rotate_left; focus (intro w hSw; (try dsimp only at hSw); first | (go_simp; done) | (go_simp; with_reducible rfl))
    try simp only [Act.put, List.setIfInBounds_toArray, List.set_cons_zero, List.set_cons_succ]
    refine wpAnyH_take (i := 11) (v := ?_) (by simp only [List.getElem?_toArray, List.getElem?_cons_succ, List.getElem?_cons_zero]; rfl) (by kernel_rfl) (by kernel_rfl) (by kernel_rfl) (by exact fun _ _ _ h => h) (Or.inl ⟨by rfl, ?_⟩) (by assumption) ?_; rotate_left; focus (intro w hSw; (try dsimp only at hSw); first | (go_simp; done) | (go_simp; with_reducible rfl))
    try simp only [Act.put, List.setIfInBounds_toArray, List.set_cons_zero, List.set_cons_succ]
    refine wpAnyH_ready (rs := [12]) (by kernel_rfl) (by simp) ?_
    refine AllReadyH.cons rfl (fun K hK => ?_) AllReadyH.nil
    rw [if_pos (by rfl)]
    go_simp
    go_at_call 64
    have kB := hHeld.2.2.2.2.2.2.2.2.2.2.2.2.2
    refine (specMinutesOn _ _ d p.segment s _ (Rd.out.below (B2.out.trans (kB.out.mono B2.out.size))) Nd.out (Nl.out s HX.out)).mono ?_
    rw [HMN.out]
    rintro e wq2_12 ⟨rfl, hbk⟩
    have HBK := kB.out.trans (hbk.mono kB.out.size)
    have QS := Lib.hid (show wq2_12.cell? ⟨w.heap.size, 0, none⟩ = some (.slice Ad0 d.points.length cd0) ∧ wq2_12.cell? ⟨w.heap.size, 1, none⟩ = some (.slice Ad1 d.segs.length cd1) ∧ wq2_12.cell? ⟨w.heap.size + 1, 0, none⟩ = some (.int .i64 (k : Int)) ∧ wq2_12.cell? ⟨w.heap.size + 1, 1, none⟩ = some (.int .i64 p.segment) ∧ wq2_12.cell? ⟨w.heap.size + 1, 2, none⟩ = some (.bool p.toward) ∧ wq2_12.cell? ⟨w.heap.size + 1, 3, none⟩ = some (.int .i64 p.start) ∧ wq2_12.cell? ⟨w.heap.size + 1, 4, none⟩ = some (.int .i64 p.stop) ∧ wq2_12.cell? ⟨g, o + k * 6, none⟩ = some (.string s.name) ∧ wq2_12.cell? ⟨g, o + k * 6 + 1, none⟩ = some (.int .i64 s.length) ∧ wq2_12.cell? ⟨g, o + k * 6 + 2, none⟩ = some (.int .i64 s.draught) ∧ wq2_12.cell? ⟨g, o + k * 6 + 3, none⟩ = some (.int .i64 s.line) ∧ wq2_12.cell? ⟨g, o + k * 6 + 4, none⟩ = some (.int .i64 s.tugs) ∧ wq2_12.cell? ⟨g, o + k * 6 + 5, none⟩ = some (.bool s.slow) ∧ Hid (Below w2.heap.size w2 wq2_12) from ⟨cell_onV Fd0.out HBK, cell_onV Fd1.out HBK, cell_onV Fp0.out HBK, cell_onV Fp1.out HBK, cell_onV Fp2.out HBK, cell_onV Fp3.out HBK, cell_onV Fp4.out HBK, cell_onV FY0.out HBK, cell_onV FY1.out HBK, cell_onV FY2.out HBK, cell_onV FY3.out HBK, cell_onV FY4.out HBK, cell_onV FY5.out HBK, Lib.hid HBK⟩)
    clear hbk kB hHeld HBK
    go_simp
    refine hK.out _ _ ?_ (fun hHeld => ?_)
    · (try dsimp only); exact QS.out
    clear hK K
    try simp only [Act.put, List.setIfInBounds_toArray, List.set_cons_zero, List.set_cons_succ]
    refine wpAnyH_take (i := 13) (v := ?_) (by simp only [List.getElem?_toArray, List.getElem?_cons_succ, List.getElem?_cons_zero]; rfl) (by kernel_rfl) (by kernel_rfl) (by kernel_rfl) (by exact fun _ _ _ h => h) (Or.inl ⟨by rfl, ?_⟩) (by assumption) ?_; rotate_left; focus (intro w hSw; (try dsimp only at hSw); first | (go_simp; done) | (go_simp; with_reducible rfl))
    try simp only [Act.put, List.setIfInBounds_toArray, List.set_cons_zero, List.set_cons_succ]
    refine wpAnyH_take (i := 14) (v := ?_) (by simp only [List.getElem?_toArray, List.getElem?_cons_succ, List.getElem?_cons_zero]; rfl) (by kernel_rfl) (by kernel_rfl) (by kernel_rfl) (by exact fun _ _ _ h => h) (Or.inl ⟨by rfl, ?_⟩) (by assumption) ?_; rotate_left; focus (intro w hSw; (try dsimp only at hSw); first | (go_simp; done) | (go_simp; with_reducible rfl))
    try simp only [Act.put, List.setIfInBounds_toArray, List.set_cons_zero, List.set_cons_succ]
    refine wpAnyH_take (i := 15) (v := ?_) (by simp only [List.getElem?_toArray, List.getElem?_cons_succ, List.getElem?_cons_zero]; rfl) (by kernel_rfl) (by kernel_rfl) (by kernel_rfl) (by exact fun _ _ _ h => h) (Or.inl ⟨by rfl, ?_⟩) (by assumption) ?_; rotate_left; focus (intro w hSw; (try dsimp only at hSw); first | (go_simp; done) | (go_simp; with_reducible rfl))
    try simp only [Act.put, List.setIfInBounds_toArray, List.set_cons_zero, List.set_cons_succ]
    refine wpAnyH_take (i := 16) (v := ?_) (by simp only [List.getElem?_toArray, List.getElem?_cons_succ, List.getElem?_cons_zero]; rfl) (by kernel_rfl) (by kernel_rfl) (by kernel_rfl) (by exact fun _ _ _ h => h) (Or.inl ⟨by rfl, ?_⟩) (by assumption) ?_; rotate_left; focus (intro w hSw; (try dsimp only at hSw); first | (go_simp; done) | (go_simp; with_reducible rfl))
    try simp only [Act.put, List.setIfInBounds_toArray, List.set_cons_zero, List.set_cons_succ]
    refine wpAnyH_take (i := 17) (v := ?_) (by simp only [List.getElem?_toArray, List.getElem?_cons_succ, List.getElem?_cons_zero]; rfl) (by kernel_rfl) (by kernel_rfl) (by kernel_rfl) (by exact fun _ _ _ h => h) (Or.inl ⟨by rfl, ?_⟩) (by assumption) ?_; rotate_left; focus (intro w hSw; (try dsimp only at hSw); first | (go_simp; done) | (go_simp; with_reducible rfl))
    try simp only [Act.put, List.setIfInBounds_toArray, List.set_cons_zero, List.set_cons_succ]
    refine wpAnyH_take (i := 18) (v := ?_) (by simp only [List.getElem?_toArray, List.getElem?_cons_succ, List.getElem?_cons_zero]; rfl) (by kernel_rfl) (by kernel_rfl) (by kernel_rfl) (by exact fun _ _ _ h => h) (Or.inl ⟨by rfl, ?_⟩) (by assumption) ?_; rotate_left; focus (intro w hSw; (try dsimp only at hSw); first | (go_simp; done) | (go_simp; with_reducible rfl))
    try simp only [Act.put, List.setIfInBounds_toArray, List.set_cons_zero, List.set_cons_succ]
    refine wpAnyH_take (i := 19) (v := ?_) (by simp only [List.getElem?_toArray, List.getElem?_cons_succ, List.getElem?_cons_zero]; rfl) (by kernel_rfl) (by kernel_rfl) (by kernel_rfl) (by exact fun _ _ _ h => h) (Or.inl ⟨by rfl, ?_⟩) (by assumption) ?_; rotate_left; focus (intro w hSw; (try dsimp only at hSw); first | (go_simp; done) | (go_simp; with_reducible rfl))
    try simp only [Act.put, List.setIfInBounds_toArray, List.set_cons_zero, List.set_cons_succ]
    refine wpAnyH_take (i := 20) (v := ?_) (by simp only [List.getElem?_toArray, List.getElem?_cons_succ, List.getElem?_cons_zero]; rfl) (by kernel_rfl) (by kernel_rfl) (by kernel_rfl) (by exact fun _ _ _ h => h) (Or.inl ⟨by rfl, ?_⟩) (by assumption) ?_; rotate_left; focus (intro w hSw; (try dsimp only at hSw); first | (go_simp; done) | (go_simp; with_reducible rfl))
    try simp only [Act.put, List.setIfInBounds_toArray, List.set_cons_zero, List.set_cons_succ]
    refine wpAnyH_done (by kernel_rfl) ?_ _
    go_wp2
    go_ret
    exact ⟨ret_bool (by rw [E.out]; simp), B2.out.trans (hHeld.2.2.2.2.2.2.2.2.2.2.2.2.2.out.mono B2.out.size)⟩
theorem below_same {w w' : World} (h : w = w') : Below w.heap.size w w' := by rw [← h]; exact Below.refl _ _
end Go.Proofs.YtooeikimoheecaaGreat
