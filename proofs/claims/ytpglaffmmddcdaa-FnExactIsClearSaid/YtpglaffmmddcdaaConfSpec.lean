
/- Rules of traffic, the model's side: ConflictOf: contract. -/
import Derived.Test.YtpglaffmmddcdaaRuleSpec0
import Derived.Test.YtpglaffmmddcdaaChartC
namespace Go.Proofs.Ytpglaffmmddcdaa
open Go.RowKit
set_option maxRecDepth 100000


set_option maxHeartbeats 8000000 in
theorem specConflictOf (yd0 yd1 : Value) (d : ChartD) (r : RegimeD) (p : PassageD) (q : PassageD) (w : World) (rd : RdChart w yd0 yd1 d) (fd : ∀ x ∈ d.points, PointD.wf x) (fp : p.wf) (fq : q.wf) :
    Calls Try.prog 27 #[.agg #[yd0, yd1], r.val, p.val, q.val] w (fun e w' => e = .returned (.int .i64 (confI d r p q)) ∧ Below w.heap.size w w') := by
  have Rd := Lib.hid rd
  obtain ⟨rd0, rd1⟩ := rd
  obtain ⟨Ad0, cd0, rfl⟩ := SlOf.form rd0
  obtain ⟨Ad1, cd1, rfl⟩ := SlOf.form rd1
  have Nd := Lib.hid fd
  clear fd
  clear rd0 rd1
  have Np := Lib.hid fp
  clear fp
  have Nq := Lib.hid fq
  clear fq
  obtain ⟨W0, hW0⟩ : ∃ W0, W0 = ((((w.alloc (.cells #[.slice Ad0 d.points.length cd0, .slice Ad1 d.segs.length cd1] 26)).alloc (.cells #[.int .i64 r.gap, .bool r.noMeet] 28)).alloc (.cells #[.int .i64 p.ship, .int .i64 p.segment, .bool p.toward, .int .i64 p.start, .int .i64 p.stop] 41)).alloc (.cells #[.int .i64 q.ship, .int .i64 q.segment, .bool q.toward, .int .i64 q.start, .int .i64 q.stop] 41)) := ⟨_, rfl⟩
  have B := Lib.hid ((((Joins.below_alloc1 w (.cells #[.slice Ad0 d.points.length cd0, .slice Ad1 d.segs.length cd1] 26)).trans ((Joins.below_alloc1 (w.alloc (.cells #[.slice Ad0 d.points.length cd0, .slice Ad1 d.segs.length cd1] 26)) (.cells #[.int .i64 r.gap, .bool r.noMeet] 28)).mono (by simp; try omega))).trans ((Joins.below_alloc1 ((w.alloc (.cells #[.slice Ad0 d.points.length cd0, .slice Ad1 d.segs.length cd1] 26)).alloc (.cells #[.int .i64 r.gap, .bool r.noMeet] 28)) (.cells #[.int .i64 p.ship, .int .i64 p.segment, .bool p.toward, .int .i64 p.start, .int .i64 p.stop] 41)).mono (by simp; try omega))).trans ((Joins.below_alloc1 (((w.alloc (.cells #[.slice Ad0 d.points.length cd0, .slice Ad1 d.segs.length cd1] 26)).alloc (.cells #[.int .i64 r.gap, .bool r.noMeet] 28)).alloc (.cells #[.int .i64 p.ship, .int .i64 p.segment, .bool p.toward, .int .i64 p.start, .int .i64 p.stop] 41)) (.cells #[.int .i64 q.ship, .int .i64 q.segment, .bool q.toward, .int .i64 q.start, .int .i64 q.stop] 41)).mono (by simp; try omega)))
  have Kd := Lib.hid ((((Blk.new w #[.slice Ad0 d.points.length cd0, .slice Ad1 d.segs.length cd1] 26).below (Joins.below_alloc1 _ (.cells #[.int .i64 r.gap, .bool r.noMeet] 28))).below (Joins.below_alloc1 _ (.cells #[.int .i64 p.ship, .int .i64 p.segment, .bool p.toward, .int .i64 p.start, .int .i64 p.stop] 41))).below (Joins.below_alloc1 _ (.cells #[.int .i64 q.ship, .int .i64 q.segment, .bool q.toward, .int .i64 q.start, .int .i64 q.stop] 41)))
  have Kr := Lib.hid (((Blk.new (w.alloc (.cells #[.slice Ad0 d.points.length cd0, .slice Ad1 d.segs.length cd1] 26)) #[.int .i64 r.gap, .bool r.noMeet] 28).below (Joins.below_alloc1 _ (.cells #[.int .i64 p.ship, .int .i64 p.segment, .bool p.toward, .int .i64 p.start, .int .i64 p.stop] 41))).below (Joins.below_alloc1 _ (.cells #[.int .i64 q.ship, .int .i64 q.segment, .bool q.toward, .int .i64 q.start, .int .i64 q.stop] 41)))
  rw [World.size_alloc] at Kr
  have Kp := Lib.hid ((Blk.new ((w.alloc (.cells #[.slice Ad0 d.points.length cd0, .slice Ad1 d.segs.length cd1] 26)).alloc (.cells #[.int .i64 r.gap, .bool r.noMeet] 28)) #[.int .i64 p.ship, .int .i64 p.segment, .bool p.toward, .int .i64 p.start, .int .i64 p.stop] 41).below (Joins.below_alloc1 _ (.cells #[.int .i64 q.ship, .int .i64 q.segment, .bool q.toward, .int .i64 q.start, .int .i64 q.stop] 41)))
  rw [World.size_alloc, World.size_alloc] at Kp
  have Kq := Lib.hid (Blk.new (((w.alloc (.cells #[.slice Ad0 d.points.length cd0, .slice Ad1 d.segs.length cd1] 26)).alloc (.cells #[.int .i64 r.gap, .bool r.noMeet] 28)).alloc (.cells #[.int .i64 p.ship, .int .i64 p.segment, .bool p.toward, .int .i64 p.start, .int .i64 p.stop] 41)) #[.int .i64 q.ship, .int .i64 q.segment, .bool q.toward, .int .i64 q.start, .int .i64 q.stop] 41)
  rw [World.size_alloc, World.size_alloc, World.size_alloc] at Kq
  have HW0 := Lib.hid hW0
  rw [← hW0] at B Kd Kr Kp Kq
  clear hW0
  have hdl := Rd.out.2.1
  have wl : IntKind.i64.wrap ((d.segs.length : Int) - 1) = (d.segs.length : Int) - 1 := by rw [IntKind.wrap_i64]; omega
  obtain ⟨f1, f2, f3, f4⟩ := Np.out
  obtain ⟨g1, g2, g3, g4⟩ := Nq.out
  have Wf3 := Lib.hid f3
  have Wf4 := Lib.hid f4
  have Wg3 := Lib.hid g3
  have Wg4 := Lib.hid g4
  clear f1 f2 f3 f4 g1 g2 g3 g4
  obtain ⟨b1, hb1⟩ : ∃ b, chartB d = b := ⟨_, rfl⟩
  have Hb1 := Lib.hid hb1
  obtain ⟨b2, hb2⟩ : ∃ b, regB r = b := ⟨_, rfl⟩
  have Hb2 := Lib.hid hb2
  obtain ⟨b3, hb3⟩ : ∃ b, inB p.segment 0 ((d.segs.length : Int) - 1) = b := ⟨_, rfl⟩
  have Hb3 := Lib.hid hb3
  obtain ⟨b4, hb4⟩ : ∃ b, (p.segment == q.segment) = b := ⟨_, rfl⟩
  have Hb4 := Lib.hid hb4
  have HP := Lib.hid (show confPre d r p q = (b1 && b2 && b3 && b4) by unfold confPre; rw [hb1, hb2, hb3, hb4])
  have hsn : (p.segment != q.segment) = !b4 := by rw [bne, hb4]
  clear hb1 hb2 hb3 hb4
  cases b1 with
  | false =>
    have E := Lib.hid (confI_bad (HP.out.trans (show _ = false by simp)))
    clear HP
    go_enter Try.func27, Try.ntmps27
    have vd0 : W0.cell? ⟨w.heap.size, 0, none⟩ = some (.slice Ad0 d.points.length cd0) := Kd.out.cell 0
    have vd1 : W0.cell? ⟨w.heap.size, 1, none⟩ = some (.slice Ad1 d.segs.length cd1) := Kd.out.cell 1
    have vr0 : W0.cell? ⟨w.heap.size + 1, 0, none⟩ = some (.int .i64 r.gap) := Kr.out.cell 0
    have vr1 : W0.cell? ⟨w.heap.size + 1, 1, none⟩ = some (.bool r.noMeet) := Kr.out.cell 1
    have vp0 : W0.cell? ⟨w.heap.size + 2, 0, none⟩ = some (.int .i64 p.ship) := Kp.out.cell 0
    have vp1 : W0.cell? ⟨w.heap.size + 2, 1, none⟩ = some (.int .i64 p.segment) := Kp.out.cell 1
    have vp2 : W0.cell? ⟨w.heap.size + 2, 2, none⟩ = some (.bool p.toward) := Kp.out.cell 2
    have vp3 : W0.cell? ⟨w.heap.size + 2, 3, none⟩ = some (.int .i64 p.start) := Kp.out.cell 3
    have vp4 : W0.cell? ⟨w.heap.size + 2, 4, none⟩ = some (.int .i64 p.stop) := Kp.out.cell 4
    have vq0 : W0.cell? ⟨w.heap.size + 3, 0, none⟩ = some (.int .i64 q.ship) := Kq.out.cell 0
    have vq1 : W0.cell? ⟨w.heap.size + 3, 1, none⟩ = some (.int .i64 q.segment) := Kq.out.cell 1
    have vq2 : W0.cell? ⟨w.heap.size + 3, 2, none⟩ = some (.bool q.toward) := Kq.out.cell 2
    have vq3 : W0.cell? ⟨w.heap.size + 3, 3, none⟩ = some (.int .i64 q.start) := Kq.out.cell 3
    have vq4 : W0.cell? ⟨w.heap.size + 3, 4, none⟩ = some (.int .i64 q.stop) := Kq.out.cell 4
    go_wp2_with fail
    rw [← HW0.out]
    clear vd0 vd1 vr0 vr1 vp0 vp1 vp2 vp3 vp4 vq0 vq1 vq2 vq3 vq4
    refine (specChartOk _ _ d _ (Rd.out.below B.out) Nd.out).mono ?_
    rw [Hb1.out]
    rintro e w1 ⟨rfl, hb1⟩
    have B1 := Lib.hid (B.out.trans (hb1.mono B.out.size))
    have Kd_1 := Lib.hid (Kd.out.below hb1)
    have Kr_1 := Lib.hid (Kr.out.below hb1)
    have Kp_1 := Lib.hid (Kp.out.below hb1)
    have Kq_1 := Lib.hid (Kq.out.below hb1)
    clear hb1
    have vd0 : w1.cell? ⟨w.heap.size, 0, none⟩ = some (.slice Ad0 d.points.length cd0) := Kd_1.out.cell 0
    have vd1 : w1.cell? ⟨w.heap.size, 1, none⟩ = some (.slice Ad1 d.segs.length cd1) := Kd_1.out.cell 1
    have vr0 : w1.cell? ⟨w.heap.size + 1, 0, none⟩ = some (.int .i64 r.gap) := Kr_1.out.cell 0
    have vr1 : w1.cell? ⟨w.heap.size + 1, 1, none⟩ = some (.bool r.noMeet) := Kr_1.out.cell 1
    have vp0 : w1.cell? ⟨w.heap.size + 2, 0, none⟩ = some (.int .i64 p.ship) := Kp_1.out.cell 0
    have vp1 : w1.cell? ⟨w.heap.size + 2, 1, none⟩ = some (.int .i64 p.segment) := Kp_1.out.cell 1
    have vp2 : w1.cell? ⟨w.heap.size + 2, 2, none⟩ = some (.bool p.toward) := Kp_1.out.cell 2
    have vp3 : w1.cell? ⟨w.heap.size + 2, 3, none⟩ = some (.int .i64 p.start) := Kp_1.out.cell 3
    have vp4 : w1.cell? ⟨w.heap.size + 2, 4, none⟩ = some (.int .i64 p.stop) := Kp_1.out.cell 4
    have vq0 : w1.cell? ⟨w.heap.size + 3, 0, none⟩ = some (.int .i64 q.ship) := Kq_1.out.cell 0
    have vq1 : w1.cell? ⟨w.heap.size + 3, 1, none⟩ = some (.int .i64 q.segment) := Kq_1.out.cell 1
    have vq2 : w1.cell? ⟨w.heap.size + 3, 2, none⟩ = some (.bool q.toward) := Kq_1.out.cell 2
    have vq3 : w1.cell? ⟨w.heap.size + 3, 3, none⟩ = some (.int .i64 q.start) := Kq_1.out.cell 3
    have vq4 : w1.cell? ⟨w.heap.size + 3, 4, none⟩ = some (.int .i64 q.stop) := Kq_1.out.cell 4
    go_wp2
    go_ret
    exact ⟨ret_int E.out.symm, B1.out⟩
  | true =>
  cases b2 with
  | false =>
    have E := Lib.hid (confI_bad (HP.out.trans (show _ = false by simp)))
    clear HP
    go_enter Try.func27, Try.ntmps27
    have vd0 : W0.cell? ⟨w.heap.size, 0, none⟩ = some (.slice Ad0 d.points.length cd0) := Kd.out.cell 0
    have vd1 : W0.cell? ⟨w.heap.size, 1, none⟩ = some (.slice Ad1 d.segs.length cd1) := Kd.out.cell 1
    have vr0 : W0.cell? ⟨w.heap.size + 1, 0, none⟩ = some (.int .i64 r.gap) := Kr.out.cell 0
    have vr1 : W0.cell? ⟨w.heap.size + 1, 1, none⟩ = some (.bool r.noMeet) := Kr.out.cell 1
    have vp0 : W0.cell? ⟨w.heap.size + 2, 0, none⟩ = some (.int .i64 p.ship) := Kp.out.cell 0
    have vp1 : W0.cell? ⟨w.heap.size + 2, 1, none⟩ = some (.int .i64 p.segment) := Kp.out.cell 1
    have vp2 : W0.cell? ⟨w.heap.size + 2, 2, none⟩ = some (.bool p.toward) := Kp.out.cell 2
    have vp3 : W0.cell? ⟨w.heap.size + 2, 3, none⟩ = some (.int .i64 p.start) := Kp.out.cell 3
    have vp4 : W0.cell? ⟨w.heap.size + 2, 4, none⟩ = some (.int .i64 p.stop) := Kp.out.cell 4
    have vq0 : W0.cell? ⟨w.heap.size + 3, 0, none⟩ = some (.int .i64 q.ship) := Kq.out.cell 0
    have vq1 : W0.cell? ⟨w.heap.size + 3, 1, none⟩ = some (.int .i64 q.segment) := Kq.out.cell 1
    have vq2 : W0.cell? ⟨w.heap.size + 3, 2, none⟩ = some (.bool q.toward) := Kq.out.cell 2
    have vq3 : W0.cell? ⟨w.heap.size + 3, 3, none⟩ = some (.int .i64 q.start) := Kq.out.cell 3
    have vq4 : W0.cell? ⟨w.heap.size + 3, 4, none⟩ = some (.int .i64 q.stop) := Kq.out.cell 4
    go_wp2_with fail
    rw [← HW0.out]
    clear vd0 vd1 vr0 vr1 vp0 vp1 vp2 vp3 vp4 vq0 vq1 vq2 vq3 vq4
    refine (specChartOk _ _ d _ (Rd.out.below B.out) Nd.out).mono ?_
    rw [Hb1.out]
    rintro e w1 ⟨rfl, hb1⟩
    have B1 := Lib.hid (B.out.trans (hb1.mono B.out.size))
    have Kd_1 := Lib.hid (Kd.out.below hb1)
    have Kr_1 := Lib.hid (Kr.out.below hb1)
    have Kp_1 := Lib.hid (Kp.out.below hb1)
    have Kq_1 := Lib.hid (Kq.out.below hb1)
    clear hb1
    have vd0 : w1.cell? ⟨w.heap.size, 0, none⟩ = some (.slice Ad0 d.points.length cd0) := Kd_1.out.cell 0
    have vd1 : w1.cell? ⟨w.heap.size, 1, none⟩ = some (.slice Ad1 d.segs.length cd1) := Kd_1.out.cell 1
    have vr0 : w1.cell? ⟨w.heap.size + 1, 0, none⟩ = some (.int .i64 r.gap) := Kr_1.out.cell 0
    have vr1 : w1.cell? ⟨w.heap.size + 1, 1, none⟩ = some (.bool r.noMeet) := Kr_1.out.cell 1
    have vp0 : w1.cell? ⟨w.heap.size + 2, 0, none⟩ = some (.int .i64 p.ship) := Kp_1.out.cell 0
    have vp1 : w1.cell? ⟨w.heap.size + 2, 1, none⟩ = some (.int .i64 p.segment) := Kp_1.out.cell 1
    have vp2 : w1.cell? ⟨w.heap.size + 2, 2, none⟩ = some (.bool p.toward) := Kp_1.out.cell 2
    have vp3 : w1.cell? ⟨w.heap.size + 2, 3, none⟩ = some (.int .i64 p.start) := Kp_1.out.cell 3
    have vp4 : w1.cell? ⟨w.heap.size + 2, 4, none⟩ = some (.int .i64 p.stop) := Kp_1.out.cell 4
    have vq0 : w1.cell? ⟨w.heap.size + 3, 0, none⟩ = some (.int .i64 q.ship) := Kq_1.out.cell 0
    have vq1 : w1.cell? ⟨w.heap.size + 3, 1, none⟩ = some (.int .i64 q.segment) := Kq_1.out.cell 1
    have vq2 : w1.cell? ⟨w.heap.size + 3, 2, none⟩ = some (.bool q.toward) := Kq_1.out.cell 2
    have vq3 : w1.cell? ⟨w.heap.size + 3, 3, none⟩ = some (.int .i64 q.start) := Kq_1.out.cell 3
    have vq4 : w1.cell? ⟨w.heap.size + 3, 4, none⟩ = some (.int .i64 q.stop) := Kq_1.out.cell 4
    go_wp2_with fail
    clear vd0 vd1 vr0 vr1 vp0 vp1 vp2 vp3 vp4 vq0 vq1 vq2 vq3 vq4
    refine (specRegimeOk r _).mono ?_
    rw [Hb2.out]
    rintro e w2 ⟨rfl, hb2⟩
    have B2 := Lib.hid (B1.out.trans (hb2.mono B1.out.size))
    have Kd_2 := Lib.hid (Kd_1.out.below hb2)
    have Kr_2 := Lib.hid (Kr_1.out.below hb2)
    have Kp_2 := Lib.hid (Kp_1.out.below hb2)
    have Kq_2 := Lib.hid (Kq_1.out.below hb2)
    clear hb2
    have vd0 : w2.cell? ⟨w.heap.size, 0, none⟩ = some (.slice Ad0 d.points.length cd0) := Kd_2.out.cell 0
    have vd1 : w2.cell? ⟨w.heap.size, 1, none⟩ = some (.slice Ad1 d.segs.length cd1) := Kd_2.out.cell 1
    have vr0 : w2.cell? ⟨w.heap.size + 1, 0, none⟩ = some (.int .i64 r.gap) := Kr_2.out.cell 0
    have vr1 : w2.cell? ⟨w.heap.size + 1, 1, none⟩ = some (.bool r.noMeet) := Kr_2.out.cell 1
    have vp0 : w2.cell? ⟨w.heap.size + 2, 0, none⟩ = some (.int .i64 p.ship) := Kp_2.out.cell 0
    have vp1 : w2.cell? ⟨w.heap.size + 2, 1, none⟩ = some (.int .i64 p.segment) := Kp_2.out.cell 1
    have vp2 : w2.cell? ⟨w.heap.size + 2, 2, none⟩ = some (.bool p.toward) := Kp_2.out.cell 2
    have vp3 : w2.cell? ⟨w.heap.size + 2, 3, none⟩ = some (.int .i64 p.start) := Kp_2.out.cell 3
    have vp4 : w2.cell? ⟨w.heap.size + 2, 4, none⟩ = some (.int .i64 p.stop) := Kp_2.out.cell 4
    have vq0 : w2.cell? ⟨w.heap.size + 3, 0, none⟩ = some (.int .i64 q.ship) := Kq_2.out.cell 0
    have vq1 : w2.cell? ⟨w.heap.size + 3, 1, none⟩ = some (.int .i64 q.segment) := Kq_2.out.cell 1
    have vq2 : w2.cell? ⟨w.heap.size + 3, 2, none⟩ = some (.bool q.toward) := Kq_2.out.cell 2
    have vq3 : w2.cell? ⟨w.heap.size + 3, 3, none⟩ = some (.int .i64 q.start) := Kq_2.out.cell 3
    have vq4 : w2.cell? ⟨w.heap.size + 3, 4, none⟩ = some (.int .i64 q.stop) := Kq_2.out.cell 4
    go_wp2
    go_ret
    exact ⟨ret_int E.out.symm, B2.out⟩
  | true =>
  cases b3 with
  | false =>
    have E := Lib.hid (confI_bad (HP.out.trans (show _ = false by simp)))
    clear HP
    go_enter Try.func27, Try.ntmps27
    have vd0 : W0.cell? ⟨w.heap.size, 0, none⟩ = some (.slice Ad0 d.points.length cd0) := Kd.out.cell 0
    have vd1 : W0.cell? ⟨w.heap.size, 1, none⟩ = some (.slice Ad1 d.segs.length cd1) := Kd.out.cell 1
    have vr0 : W0.cell? ⟨w.heap.size + 1, 0, none⟩ = some (.int .i64 r.gap) := Kr.out.cell 0
    have vr1 : W0.cell? ⟨w.heap.size + 1, 1, none⟩ = some (.bool r.noMeet) := Kr.out.cell 1
    have vp0 : W0.cell? ⟨w.heap.size + 2, 0, none⟩ = some (.int .i64 p.ship) := Kp.out.cell 0
    have vp1 : W0.cell? ⟨w.heap.size + 2, 1, none⟩ = some (.int .i64 p.segment) := Kp.out.cell 1
    have vp2 : W0.cell? ⟨w.heap.size + 2, 2, none⟩ = some (.bool p.toward) := Kp.out.cell 2
    have vp3 : W0.cell? ⟨w.heap.size + 2, 3, none⟩ = some (.int .i64 p.start) := Kp.out.cell 3
    have vp4 : W0.cell? ⟨w.heap.size + 2, 4, none⟩ = some (.int .i64 p.stop) := Kp.out.cell 4
    have vq0 : W0.cell? ⟨w.heap.size + 3, 0, none⟩ = some (.int .i64 q.ship) := Kq.out.cell 0
    have vq1 : W0.cell? ⟨w.heap.size + 3, 1, none⟩ = some (.int .i64 q.segment) := Kq.out.cell 1
    have vq2 : W0.cell? ⟨w.heap.size + 3, 2, none⟩ = some (.bool q.toward) := Kq.out.cell 2
    have vq3 : W0.cell? ⟨w.heap.size + 3, 3, none⟩ = some (.int .i64 q.start) := Kq.out.cell 3
    have vq4 : W0.cell? ⟨w.heap.size + 3, 4, none⟩ = some (.int .i64 q.stop) := Kq.out.cell 4
    go_wp2_with fail
    rw [← HW0.out]
    clear vd0 vd1 vr0 vr1 vp0 vp1 vp2 vp3 vp4 vq0 vq1 vq2 vq3 vq4
    refine (specChartOk _ _ d _ (Rd.out.below B.out) Nd.out).mono ?_
    rw [Hb1.out]
    rintro e w1 ⟨rfl, hb1⟩
    have B1 := Lib.hid (B.out.trans (hb1.mono B.out.size))
    have Kd_1 := Lib.hid (Kd.out.below hb1)
    have Kr_1 := Lib.hid (Kr.out.below hb1)
    have Kp_1 := Lib.hid (Kp.out.below hb1)
    have Kq_1 := Lib.hid (Kq.out.below hb1)
    clear hb1
    have vd0 : w1.cell? ⟨w.heap.size, 0, none⟩ = some (.slice Ad0 d.points.length cd0) := Kd_1.out.cell 0
    have vd1 : w1.cell? ⟨w.heap.size, 1, none⟩ = some (.slice Ad1 d.segs.length cd1) := Kd_1.out.cell 1
    have vr0 : w1.cell? ⟨w.heap.size + 1, 0, none⟩ = some (.int .i64 r.gap) := Kr_1.out.cell 0
    have vr1 : w1.cell? ⟨w.heap.size + 1, 1, none⟩ = some (.bool r.noMeet) := Kr_1.out.cell 1
    have vp0 : w1.cell? ⟨w.heap.size + 2, 0, none⟩ = some (.int .i64 p.ship) := Kp_1.out.cell 0
    have vp1 : w1.cell? ⟨w.heap.size + 2, 1, none⟩ = some (.int .i64 p.segment) := Kp_1.out.cell 1
    have vp2 : w1.cell? ⟨w.heap.size + 2, 2, none⟩ = some (.bool p.toward) := Kp_1.out.cell 2
    have vp3 : w1.cell? ⟨w.heap.size + 2, 3, none⟩ = some (.int .i64 p.start) := Kp_1.out.cell 3
    have vp4 : w1.cell? ⟨w.heap.size + 2, 4, none⟩ = some (.int .i64 p.stop) := Kp_1.out.cell 4
    have vq0 : w1.cell? ⟨w.heap.size + 3, 0, none⟩ = some (.int .i64 q.ship) := Kq_1.out.cell 0
    have vq1 : w1.cell? ⟨w.heap.size + 3, 1, none⟩ = some (.int .i64 q.segment) := Kq_1.out.cell 1
    have vq2 : w1.cell? ⟨w.heap.size + 3, 2, none⟩ = some (.bool q.toward) := Kq_1.out.cell 2
    have vq3 : w1.cell? ⟨w.heap.size + 3, 3, none⟩ = some (.int .i64 q.start) := Kq_1.out.cell 3
    have vq4 : w1.cell? ⟨w.heap.size + 3, 4, none⟩ = some (.int .i64 q.stop) := Kq_1.out.cell 4
    go_wp2_with fail
    clear vd0 vd1 vr0 vr1 vp0 vp1 vp2 vp3 vp4 vq0 vq1 vq2 vq3 vq4
    refine (specRegimeOk r _).mono ?_
    rw [Hb2.out]
    rintro e w2 ⟨rfl, hb2⟩
    have B2 := Lib.hid (B1.out.trans (hb2.mono B1.out.size))
    have Kd_2 := Lib.hid (Kd_1.out.below hb2)
    have Kr_2 := Lib.hid (Kr_1.out.below hb2)
    have Kp_2 := Lib.hid (Kp_1.out.below hb2)
    have Kq_2 := Lib.hid (Kq_1.out.below hb2)
    clear hb2
    have vd0 : w2.cell? ⟨w.heap.size, 0, none⟩ = some (.slice Ad0 d.points.length cd0) := Kd_2.out.cell 0
    have vd1 : w2.cell? ⟨w.heap.size, 1, none⟩ = some (.slice Ad1 d.segs.length cd1) := Kd_2.out.cell 1
    have vr0 : w2.cell? ⟨w.heap.size + 1, 0, none⟩ = some (.int .i64 r.gap) := Kr_2.out.cell 0
    have vr1 : w2.cell? ⟨w.heap.size + 1, 1, none⟩ = some (.bool r.noMeet) := Kr_2.out.cell 1
    have vp0 : w2.cell? ⟨w.heap.size + 2, 0, none⟩ = some (.int .i64 p.ship) := Kp_2.out.cell 0
    have vp1 : w2.cell? ⟨w.heap.size + 2, 1, none⟩ = some (.int .i64 p.segment) := Kp_2.out.cell 1
    have vp2 : w2.cell? ⟨w.heap.size + 2, 2, none⟩ = some (.bool p.toward) := Kp_2.out.cell 2
    have vp3 : w2.cell? ⟨w.heap.size + 2, 3, none⟩ = some (.int .i64 p.start) := Kp_2.out.cell 3
    have vp4 : w2.cell? ⟨w.heap.size + 2, 4, none⟩ = some (.int .i64 p.stop) := Kp_2.out.cell 4
    have vq0 : w2.cell? ⟨w.heap.size + 3, 0, none⟩ = some (.int .i64 q.ship) := Kq_2.out.cell 0
    have vq1 : w2.cell? ⟨w.heap.size + 3, 1, none⟩ = some (.int .i64 q.segment) := Kq_2.out.cell 1
    have vq2 : w2.cell? ⟨w.heap.size + 3, 2, none⟩ = some (.bool q.toward) := Kq_2.out.cell 2
    have vq3 : w2.cell? ⟨w.heap.size + 3, 3, none⟩ = some (.int .i64 q.start) := Kq_2.out.cell 3
    have vq4 : w2.cell? ⟨w.heap.size + 3, 4, none⟩ = some (.int .i64 q.stop) := Kq_2.out.cell 4
    go_wp2_with fail
    clear vd0 vd1 vr0 vr1 vp0 vp1 vp2 vp3 vp4 vq0 vq1 vq2 vq3 vq4
    refine (l01In_any _ _ _ _).mono ?_
    rw [Hb3.out]
    rintro e wz ⟨rfl, rfl⟩
    have vd0 : w2.cell? ⟨w.heap.size, 0, none⟩ = some (.slice Ad0 d.points.length cd0) := Kd_2.out.cell 0
    have vd1 : w2.cell? ⟨w.heap.size, 1, none⟩ = some (.slice Ad1 d.segs.length cd1) := Kd_2.out.cell 1
    have vr0 : w2.cell? ⟨w.heap.size + 1, 0, none⟩ = some (.int .i64 r.gap) := Kr_2.out.cell 0
    have vr1 : w2.cell? ⟨w.heap.size + 1, 1, none⟩ = some (.bool r.noMeet) := Kr_2.out.cell 1
    have vp0 : w2.cell? ⟨w.heap.size + 2, 0, none⟩ = some (.int .i64 p.ship) := Kp_2.out.cell 0
    have vp1 : w2.cell? ⟨w.heap.size + 2, 1, none⟩ = some (.int .i64 p.segment) := Kp_2.out.cell 1
    have vp2 : w2.cell? ⟨w.heap.size + 2, 2, none⟩ = some (.bool p.toward) := Kp_2.out.cell 2
    have vp3 : w2.cell? ⟨w.heap.size + 2, 3, none⟩ = some (.int .i64 p.start) := Kp_2.out.cell 3
    have vp4 : w2.cell? ⟨w.heap.size + 2, 4, none⟩ = some (.int .i64 p.stop) := Kp_2.out.cell 4
    have vq0 : w2.cell? ⟨w.heap.size + 3, 0, none⟩ = some (.int .i64 q.ship) := Kq_2.out.cell 0
    have vq1 : w2.cell? ⟨w.heap.size + 3, 1, none⟩ = some (.int .i64 q.segment) := Kq_2.out.cell 1
    have vq2 : w2.cell? ⟨w.heap.size + 3, 2, none⟩ = some (.bool q.toward) := Kq_2.out.cell 2
    have vq3 : w2.cell? ⟨w.heap.size + 3, 3, none⟩ = some (.int .i64 q.start) := Kq_2.out.cell 3
    have vq4 : w2.cell? ⟨w.heap.size + 3, 4, none⟩ = some (.int .i64 q.stop) := Kq_2.out.cell 4
    go_wp2
    go_ret
    exact ⟨ret_int E.out.symm, B2.out⟩
  | true =>
  cases b4 with
  | false =>
    have E := Lib.hid (confI_bad (HP.out.trans (show _ = false by simp)))
    clear HP
    have hsn' : (p.segment != q.segment) = true := hsn
    clear hsn
    go_enter Try.func27, Try.ntmps27
    have vd0 : W0.cell? ⟨w.heap.size, 0, none⟩ = some (.slice Ad0 d.points.length cd0) := Kd.out.cell 0
    have vd1 : W0.cell? ⟨w.heap.size, 1, none⟩ = some (.slice Ad1 d.segs.length cd1) := Kd.out.cell 1
    have vr0 : W0.cell? ⟨w.heap.size + 1, 0, none⟩ = some (.int .i64 r.gap) := Kr.out.cell 0
    have vr1 : W0.cell? ⟨w.heap.size + 1, 1, none⟩ = some (.bool r.noMeet) := Kr.out.cell 1
    have vp0 : W0.cell? ⟨w.heap.size + 2, 0, none⟩ = some (.int .i64 p.ship) := Kp.out.cell 0
    have vp1 : W0.cell? ⟨w.heap.size + 2, 1, none⟩ = some (.int .i64 p.segment) := Kp.out.cell 1
    have vp2 : W0.cell? ⟨w.heap.size + 2, 2, none⟩ = some (.bool p.toward) := Kp.out.cell 2
    have vp3 : W0.cell? ⟨w.heap.size + 2, 3, none⟩ = some (.int .i64 p.start) := Kp.out.cell 3
    have vp4 : W0.cell? ⟨w.heap.size + 2, 4, none⟩ = some (.int .i64 p.stop) := Kp.out.cell 4
    have vq0 : W0.cell? ⟨w.heap.size + 3, 0, none⟩ = some (.int .i64 q.ship) := Kq.out.cell 0
    have vq1 : W0.cell? ⟨w.heap.size + 3, 1, none⟩ = some (.int .i64 q.segment) := Kq.out.cell 1
    have vq2 : W0.cell? ⟨w.heap.size + 3, 2, none⟩ = some (.bool q.toward) := Kq.out.cell 2
    have vq3 : W0.cell? ⟨w.heap.size + 3, 3, none⟩ = some (.int .i64 q.start) := Kq.out.cell 3
    have vq4 : W0.cell? ⟨w.heap.size + 3, 4, none⟩ = some (.int .i64 q.stop) := Kq.out.cell 4
    go_wp2_with fail
    rw [← HW0.out]
    clear vd0 vd1 vr0 vr1 vp0 vp1 vp2 vp3 vp4 vq0 vq1 vq2 vq3 vq4
    refine (specChartOk _ _ d _ (Rd.out.below B.out) Nd.out).mono ?_
    rw [Hb1.out]
    rintro e w1 ⟨rfl, hb1⟩
    have B1 := Lib.hid (B.out.trans (hb1.mono B.out.size))
    have Kd_1 := Lib.hid (Kd.out.below hb1)
    have Kr_1 := Lib.hid (Kr.out.below hb1)
    have Kp_1 := Lib.hid (Kp.out.below hb1)
    have Kq_1 := Lib.hid (Kq.out.below hb1)
    clear hb1
    have vd0 : w1.cell? ⟨w.heap.size, 0, none⟩ = some (.slice Ad0 d.points.length cd0) := Kd_1.out.cell 0
    have vd1 : w1.cell? ⟨w.heap.size, 1, none⟩ = some (.slice Ad1 d.segs.length cd1) := Kd_1.out.cell 1
    have vr0 : w1.cell? ⟨w.heap.size + 1, 0, none⟩ = some (.int .i64 r.gap) := Kr_1.out.cell 0
    have vr1 : w1.cell? ⟨w.heap.size + 1, 1, none⟩ = some (.bool r.noMeet) := Kr_1.out.cell 1
    have vp0 : w1.cell? ⟨w.heap.size + 2, 0, none⟩ = some (.int .i64 p.ship) := Kp_1.out.cell 0
    have vp1 : w1.cell? ⟨w.heap.size + 2, 1, none⟩ = some (.int .i64 p.segment) := Kp_1.out.cell 1
    have vp2 : w1.cell? ⟨w.heap.size + 2, 2, none⟩ = some (.bool p.toward) := Kp_1.out.cell 2
    have vp3 : w1.cell? ⟨w.heap.size + 2, 3, none⟩ = some (.int .i64 p.start) := Kp_1.out.cell 3
    have vp4 : w1.cell? ⟨w.heap.size + 2, 4, none⟩ = some (.int .i64 p.stop) := Kp_1.out.cell 4
    have vq0 : w1.cell? ⟨w.heap.size + 3, 0, none⟩ = some (.int .i64 q.ship) := Kq_1.out.cell 0
    have vq1 : w1.cell? ⟨w.heap.size + 3, 1, none⟩ = some (.int .i64 q.segment) := Kq_1.out.cell 1
    have vq2 : w1.cell? ⟨w.heap.size + 3, 2, none⟩ = some (.bool q.toward) := Kq_1.out.cell 2
    have vq3 : w1.cell? ⟨w.heap.size + 3, 3, none⟩ = some (.int .i64 q.start) := Kq_1.out.cell 3
    have vq4 : w1.cell? ⟨w.heap.size + 3, 4, none⟩ = some (.int .i64 q.stop) := Kq_1.out.cell 4
    go_wp2_with fail
    clear vd0 vd1 vr0 vr1 vp0 vp1 vp2 vp3 vp4 vq0 vq1 vq2 vq3 vq4
    refine (specRegimeOk r _).mono ?_
    rw [Hb2.out]
    rintro e w2 ⟨rfl, hb2⟩
    have B2 := Lib.hid (B1.out.trans (hb2.mono B1.out.size))
    have Kd_2 := Lib.hid (Kd_1.out.below hb2)
    have Kr_2 := Lib.hid (Kr_1.out.below hb2)
    have Kp_2 := Lib.hid (Kp_1.out.below hb2)
    have Kq_2 := Lib.hid (Kq_1.out.below hb2)
    clear hb2
    have vd0 : w2.cell? ⟨w.heap.size, 0, none⟩ = some (.slice Ad0 d.points.length cd0) := Kd_2.out.cell 0
    have vd1 : w2.cell? ⟨w.heap.size, 1, none⟩ = some (.slice Ad1 d.segs.length cd1) := Kd_2.out.cell 1
    have vr0 : w2.cell? ⟨w.heap.size + 1, 0, none⟩ = some (.int .i64 r.gap) := Kr_2.out.cell 0
    have vr1 : w2.cell? ⟨w.heap.size + 1, 1, none⟩ = some (.bool r.noMeet) := Kr_2.out.cell 1
    have vp0 : w2.cell? ⟨w.heap.size + 2, 0, none⟩ = some (.int .i64 p.ship) := Kp_2.out.cell 0
    have vp1 : w2.cell? ⟨w.heap.size + 2, 1, none⟩ = some (.int .i64 p.segment) := Kp_2.out.cell 1
    have vp2 : w2.cell? ⟨w.heap.size + 2, 2, none⟩ = some (.bool p.toward) := Kp_2.out.cell 2
    have vp3 : w2.cell? ⟨w.heap.size + 2, 3, none⟩ = some (.int .i64 p.start) := Kp_2.out.cell 3
    have vp4 : w2.cell? ⟨w.heap.size + 2, 4, none⟩ = some (.int .i64 p.stop) := Kp_2.out.cell 4
    have vq0 : w2.cell? ⟨w.heap.size + 3, 0, none⟩ = some (.int .i64 q.ship) := Kq_2.out.cell 0
    have vq1 : w2.cell? ⟨w.heap.size + 3, 1, none⟩ = some (.int .i64 q.segment) := Kq_2.out.cell 1
    have vq2 : w2.cell? ⟨w.heap.size + 3, 2, none⟩ = some (.bool q.toward) := Kq_2.out.cell 2
    have vq3 : w2.cell? ⟨w.heap.size + 3, 3, none⟩ = some (.int .i64 q.start) := Kq_2.out.cell 3
    have vq4 : w2.cell? ⟨w.heap.size + 3, 4, none⟩ = some (.int .i64 q.stop) := Kq_2.out.cell 4
    go_wp2_with fail
    clear vd0 vd1 vr0 vr1 vp0 vp1 vp2 vp3 vp4 vq0 vq1 vq2 vq3 vq4
    refine (l01In_any _ _ _ _).mono ?_
    rw [Hb3.out]
    rintro e wz ⟨rfl, rfl⟩
    have vd0 : w2.cell? ⟨w.heap.size, 0, none⟩ = some (.slice Ad0 d.points.length cd0) := Kd_2.out.cell 0
    have vd1 : w2.cell? ⟨w.heap.size, 1, none⟩ = some (.slice Ad1 d.segs.length cd1) := Kd_2.out.cell 1
    have vr0 : w2.cell? ⟨w.heap.size + 1, 0, none⟩ = some (.int .i64 r.gap) := Kr_2.out.cell 0
    have vr1 : w2.cell? ⟨w.heap.size + 1, 1, none⟩ = some (.bool r.noMeet) := Kr_2.out.cell 1
    have vp0 : w2.cell? ⟨w.heap.size + 2, 0, none⟩ = some (.int .i64 p.ship) := Kp_2.out.cell 0
    have vp1 : w2.cell? ⟨w.heap.size + 2, 1, none⟩ = some (.int .i64 p.segment) := Kp_2.out.cell 1
    have vp2 : w2.cell? ⟨w.heap.size + 2, 2, none⟩ = some (.bool p.toward) := Kp_2.out.cell 2
    have vp3 : w2.cell? ⟨w.heap.size + 2, 3, none⟩ = some (.int .i64 p.start) := Kp_2.out.cell 3
    have vp4 : w2.cell? ⟨w.heap.size + 2, 4, none⟩ = some (.int .i64 p.stop) := Kp_2.out.cell 4
    have vq0 : w2.cell? ⟨w.heap.size + 3, 0, none⟩ = some (.int .i64 q.ship) := Kq_2.out.cell 0
    have vq1 : w2.cell? ⟨w.heap.size + 3, 1, none⟩ = some (.int .i64 q.segment) := Kq_2.out.cell 1
    have vq2 : w2.cell? ⟨w.heap.size + 3, 2, none⟩ = some (.bool q.toward) := Kq_2.out.cell 2
    have vq3 : w2.cell? ⟨w.heap.size + 3, 3, none⟩ = some (.int .i64 q.start) := Kq_2.out.cell 3
    have vq4 : w2.cell? ⟨w.heap.size + 3, 4, none⟩ = some (.int .i64 q.stop) := Kq_2.out.cell 4
    go_wp2
    go_ret
    exact ⟨ret_int E.out.symm, B2.out⟩
  | true =>
  have hsn' : (p.segment != q.segment) = false := hsn
  clear hsn
  obtain ⟨g, hg, hx, i0, il⟩ := segAt_in Hb3.out
  have E0 := Lib.hid (confI_ok (HP.out.trans (show _ = true by rfl)) hg)
  obtain ⟨ov, hov⟩ : ∃ b, overB p q = b := ⟨_, rfl⟩
  have HOV := Lib.hid hov
  clear HP hg hov
  by_cases h5 : p.ship = q.ship
  · have hs : (p.ship == q.ship) = true := by simpa using h5
    have E1 := Lib.hid (E0.out.trans (confAt_same h5))
    clear h5 hx i0 il
    cases ov with
    | false =>
      have E := Lib.hid (show confI d r p q = 0 by rw [E1.out, HOV.out]; rfl)
      go_enter Try.func27, Try.ntmps27
      have vd0 : W0.cell? ⟨w.heap.size, 0, none⟩ = some (.slice Ad0 d.points.length cd0) := Kd.out.cell 0
      have vd1 : W0.cell? ⟨w.heap.size, 1, none⟩ = some (.slice Ad1 d.segs.length cd1) := Kd.out.cell 1
      have vr0 : W0.cell? ⟨w.heap.size + 1, 0, none⟩ = some (.int .i64 r.gap) := Kr.out.cell 0
      have vr1 : W0.cell? ⟨w.heap.size + 1, 1, none⟩ = some (.bool r.noMeet) := Kr.out.cell 1
      have vp0 : W0.cell? ⟨w.heap.size + 2, 0, none⟩ = some (.int .i64 p.ship) := Kp.out.cell 0
      have vp1 : W0.cell? ⟨w.heap.size + 2, 1, none⟩ = some (.int .i64 p.segment) := Kp.out.cell 1
      have vp2 : W0.cell? ⟨w.heap.size + 2, 2, none⟩ = some (.bool p.toward) := Kp.out.cell 2
      have vp3 : W0.cell? ⟨w.heap.size + 2, 3, none⟩ = some (.int .i64 p.start) := Kp.out.cell 3
      have vp4 : W0.cell? ⟨w.heap.size + 2, 4, none⟩ = some (.int .i64 p.stop) := Kp.out.cell 4
      have vq0 : W0.cell? ⟨w.heap.size + 3, 0, none⟩ = some (.int .i64 q.ship) := Kq.out.cell 0
      have vq1 : W0.cell? ⟨w.heap.size + 3, 1, none⟩ = some (.int .i64 q.segment) := Kq.out.cell 1
      have vq2 : W0.cell? ⟨w.heap.size + 3, 2, none⟩ = some (.bool q.toward) := Kq.out.cell 2
      have vq3 : W0.cell? ⟨w.heap.size + 3, 3, none⟩ = some (.int .i64 q.start) := Kq.out.cell 3
      have vq4 : W0.cell? ⟨w.heap.size + 3, 4, none⟩ = some (.int .i64 q.stop) := Kq.out.cell 4
      go_wp2_with fail
      rw [← HW0.out]
      clear vd0 vd1 vr0 vr1 vp0 vp1 vp2 vp3 vp4 vq0 vq1 vq2 vq3 vq4
      refine (specChartOk _ _ d _ (Rd.out.below B.out) Nd.out).mono ?_
      rw [Hb1.out]
      rintro e w1 ⟨rfl, hb1⟩
      have B1 := Lib.hid (B.out.trans (hb1.mono B.out.size))
      have Kd_1 := Lib.hid (Kd.out.below hb1)
      have Kr_1 := Lib.hid (Kr.out.below hb1)
      have Kp_1 := Lib.hid (Kp.out.below hb1)
      have Kq_1 := Lib.hid (Kq.out.below hb1)
      clear hb1
      have vd0 : w1.cell? ⟨w.heap.size, 0, none⟩ = some (.slice Ad0 d.points.length cd0) := Kd_1.out.cell 0
      have vd1 : w1.cell? ⟨w.heap.size, 1, none⟩ = some (.slice Ad1 d.segs.length cd1) := Kd_1.out.cell 1
      have vr0 : w1.cell? ⟨w.heap.size + 1, 0, none⟩ = some (.int .i64 r.gap) := Kr_1.out.cell 0
      have vr1 : w1.cell? ⟨w.heap.size + 1, 1, none⟩ = some (.bool r.noMeet) := Kr_1.out.cell 1
      have vp0 : w1.cell? ⟨w.heap.size + 2, 0, none⟩ = some (.int .i64 p.ship) := Kp_1.out.cell 0
      have vp1 : w1.cell? ⟨w.heap.size + 2, 1, none⟩ = some (.int .i64 p.segment) := Kp_1.out.cell 1
      have vp2 : w1.cell? ⟨w.heap.size + 2, 2, none⟩ = some (.bool p.toward) := Kp_1.out.cell 2
      have vp3 : w1.cell? ⟨w.heap.size + 2, 3, none⟩ = some (.int .i64 p.start) := Kp_1.out.cell 3
      have vp4 : w1.cell? ⟨w.heap.size + 2, 4, none⟩ = some (.int .i64 p.stop) := Kp_1.out.cell 4
      have vq0 : w1.cell? ⟨w.heap.size + 3, 0, none⟩ = some (.int .i64 q.ship) := Kq_1.out.cell 0
      have vq1 : w1.cell? ⟨w.heap.size + 3, 1, none⟩ = some (.int .i64 q.segment) := Kq_1.out.cell 1
      have vq2 : w1.cell? ⟨w.heap.size + 3, 2, none⟩ = some (.bool q.toward) := Kq_1.out.cell 2
      have vq3 : w1.cell? ⟨w.heap.size + 3, 3, none⟩ = some (.int .i64 q.start) := Kq_1.out.cell 3
      have vq4 : w1.cell? ⟨w.heap.size + 3, 4, none⟩ = some (.int .i64 q.stop) := Kq_1.out.cell 4
      go_wp2_with fail
      clear vd0 vd1 vr0 vr1 vp0 vp1 vp2 vp3 vp4 vq0 vq1 vq2 vq3 vq4
      refine (specRegimeOk r _).mono ?_
      rw [Hb2.out]
      rintro e w2 ⟨rfl, hb2⟩
      have B2 := Lib.hid (B1.out.trans (hb2.mono B1.out.size))
      have Kd_2 := Lib.hid (Kd_1.out.below hb2)
      have Kr_2 := Lib.hid (Kr_1.out.below hb2)
      have Kp_2 := Lib.hid (Kp_1.out.below hb2)
      have Kq_2 := Lib.hid (Kq_1.out.below hb2)
      clear hb2
      have vd0 : w2.cell? ⟨w.heap.size, 0, none⟩ = some (.slice Ad0 d.points.length cd0) := Kd_2.out.cell 0
      have vd1 : w2.cell? ⟨w.heap.size, 1, none⟩ = some (.slice Ad1 d.segs.length cd1) := Kd_2.out.cell 1
      have vr0 : w2.cell? ⟨w.heap.size + 1, 0, none⟩ = some (.int .i64 r.gap) := Kr_2.out.cell 0
      have vr1 : w2.cell? ⟨w.heap.size + 1, 1, none⟩ = some (.bool r.noMeet) := Kr_2.out.cell 1
      have vp0 : w2.cell? ⟨w.heap.size + 2, 0, none⟩ = some (.int .i64 p.ship) := Kp_2.out.cell 0
      have vp1 : w2.cell? ⟨w.heap.size + 2, 1, none⟩ = some (.int .i64 p.segment) := Kp_2.out.cell 1
      have vp2 : w2.cell? ⟨w.heap.size + 2, 2, none⟩ = some (.bool p.toward) := Kp_2.out.cell 2
      have vp3 : w2.cell? ⟨w.heap.size + 2, 3, none⟩ = some (.int .i64 p.start) := Kp_2.out.cell 3
      have vp4 : w2.cell? ⟨w.heap.size + 2, 4, none⟩ = some (.int .i64 p.stop) := Kp_2.out.cell 4
      have vq0 : w2.cell? ⟨w.heap.size + 3, 0, none⟩ = some (.int .i64 q.ship) := Kq_2.out.cell 0
      have vq1 : w2.cell? ⟨w.heap.size + 3, 1, none⟩ = some (.int .i64 q.segment) := Kq_2.out.cell 1
      have vq2 : w2.cell? ⟨w.heap.size + 3, 2, none⟩ = some (.bool q.toward) := Kq_2.out.cell 2
      have vq3 : w2.cell? ⟨w.heap.size + 3, 3, none⟩ = some (.int .i64 q.start) := Kq_2.out.cell 3
      have vq4 : w2.cell? ⟨w.heap.size + 3, 4, none⟩ = some (.int .i64 q.stop) := Kq_2.out.cell 4
      go_wp2_with fail
      clear vd0 vd1 vr0 vr1 vp0 vp1 vp2 vp3 vp4 vq0 vq1 vq2 vq3 vq4
      refine (l01In_any _ _ _ _).mono ?_
      rw [Hb3.out]
      rintro e wz ⟨rfl, rfl⟩
      have vd0 : w2.cell? ⟨w.heap.size, 0, none⟩ = some (.slice Ad0 d.points.length cd0) := Kd_2.out.cell 0
      have vd1 : w2.cell? ⟨w.heap.size, 1, none⟩ = some (.slice Ad1 d.segs.length cd1) := Kd_2.out.cell 1
      have vr0 : w2.cell? ⟨w.heap.size + 1, 0, none⟩ = some (.int .i64 r.gap) := Kr_2.out.cell 0
      have vr1 : w2.cell? ⟨w.heap.size + 1, 1, none⟩ = some (.bool r.noMeet) := Kr_2.out.cell 1
      have vp0 : w2.cell? ⟨w.heap.size + 2, 0, none⟩ = some (.int .i64 p.ship) := Kp_2.out.cell 0
      have vp1 : w2.cell? ⟨w.heap.size + 2, 1, none⟩ = some (.int .i64 p.segment) := Kp_2.out.cell 1
      have vp2 : w2.cell? ⟨w.heap.size + 2, 2, none⟩ = some (.bool p.toward) := Kp_2.out.cell 2
      have vp3 : w2.cell? ⟨w.heap.size + 2, 3, none⟩ = some (.int .i64 p.start) := Kp_2.out.cell 3
      have vp4 : w2.cell? ⟨w.heap.size + 2, 4, none⟩ = some (.int .i64 p.stop) := Kp_2.out.cell 4
      have vq0 : w2.cell? ⟨w.heap.size + 3, 0, none⟩ = some (.int .i64 q.ship) := Kq_2.out.cell 0
      have vq1 : w2.cell? ⟨w.heap.size + 3, 1, none⟩ = some (.int .i64 q.segment) := Kq_2.out.cell 1
      have vq2 : w2.cell? ⟨w.heap.size + 3, 2, none⟩ = some (.bool q.toward) := Kq_2.out.cell 2
      have vq3 : w2.cell? ⟨w.heap.size + 3, 3, none⟩ = some (.int .i64 q.start) := Kq_2.out.cell 3
      have vq4 : w2.cell? ⟨w.heap.size + 3, 4, none⟩ = some (.int .i64 q.stop) := Kq_2.out.cell 4
      go_wp2_with fail
      clear vd0 vd1 vr0 vr1 vp0 vp1 vp2 vp3 vp4 vq0 vq1 vq2 vq3 vq4
      refine (specOverlaps p q _).mono ?_
      rw [HOV.out]
      rintro e w3 ⟨rfl, hb3⟩
      have B3 := Lib.hid (B2.out.trans (hb3.mono B2.out.size))
      have Kd_3 := Lib.hid (Kd_2.out.below hb3)
      have Kr_3 := Lib.hid (Kr_2.out.below hb3)
      have Kp_3 := Lib.hid (Kp_2.out.below hb3)
      have Kq_3 := Lib.hid (Kq_2.out.below hb3)
      clear hb3
      have vd0 : w3.cell? ⟨w.heap.size, 0, none⟩ = some (.slice Ad0 d.points.length cd0) := Kd_3.out.cell 0
      have vd1 : w3.cell? ⟨w.heap.size, 1, none⟩ = some (.slice Ad1 d.segs.length cd1) := Kd_3.out.cell 1
      have vr0 : w3.cell? ⟨w.heap.size + 1, 0, none⟩ = some (.int .i64 r.gap) := Kr_3.out.cell 0
      have vr1 : w3.cell? ⟨w.heap.size + 1, 1, none⟩ = some (.bool r.noMeet) := Kr_3.out.cell 1
      have vp0 : w3.cell? ⟨w.heap.size + 2, 0, none⟩ = some (.int .i64 p.ship) := Kp_3.out.cell 0
      have vp1 : w3.cell? ⟨w.heap.size + 2, 1, none⟩ = some (.int .i64 p.segment) := Kp_3.out.cell 1
      have vp2 : w3.cell? ⟨w.heap.size + 2, 2, none⟩ = some (.bool p.toward) := Kp_3.out.cell 2
      have vp3 : w3.cell? ⟨w.heap.size + 2, 3, none⟩ = some (.int .i64 p.start) := Kp_3.out.cell 3
      have vp4 : w3.cell? ⟨w.heap.size + 2, 4, none⟩ = some (.int .i64 p.stop) := Kp_3.out.cell 4
      have vq0 : w3.cell? ⟨w.heap.size + 3, 0, none⟩ = some (.int .i64 q.ship) := Kq_3.out.cell 0
      have vq1 : w3.cell? ⟨w.heap.size + 3, 1, none⟩ = some (.int .i64 q.segment) := Kq_3.out.cell 1
      have vq2 : w3.cell? ⟨w.heap.size + 3, 2, none⟩ = some (.bool q.toward) := Kq_3.out.cell 2
      have vq3 : w3.cell? ⟨w.heap.size + 3, 3, none⟩ = some (.int .i64 q.start) := Kq_3.out.cell 3
      have vq4 : w3.cell? ⟨w.heap.size + 3, 4, none⟩ = some (.int .i64 q.stop) := Kq_3.out.cell 4
      go_wp2
      go_ret
      exact ⟨ret_int E.out.symm, B3.out⟩
    | true =>
      have E := Lib.hid (show confI d r p q = 1 by rw [E1.out, HOV.out]; rfl)
      go_enter Try.func27, Try.ntmps27
      have vd0 : W0.cell? ⟨w.heap.size, 0, none⟩ = some (.slice Ad0 d.points.length cd0) := Kd.out.cell 0
      have vd1 : W0.cell? ⟨w.heap.size, 1, none⟩ = some (.slice Ad1 d.segs.length cd1) := Kd.out.cell 1
      have vr0 : W0.cell? ⟨w.heap.size + 1, 0, none⟩ = some (.int .i64 r.gap) := Kr.out.cell 0
      have vr1 : W0.cell? ⟨w.heap.size + 1, 1, none⟩ = some (.bool r.noMeet) := Kr.out.cell 1
      have vp0 : W0.cell? ⟨w.heap.size + 2, 0, none⟩ = some (.int .i64 p.ship) := Kp.out.cell 0
      have vp1 : W0.cell? ⟨w.heap.size + 2, 1, none⟩ = some (.int .i64 p.segment) := Kp.out.cell 1
      have vp2 : W0.cell? ⟨w.heap.size + 2, 2, none⟩ = some (.bool p.toward) := Kp.out.cell 2
      have vp3 : W0.cell? ⟨w.heap.size + 2, 3, none⟩ = some (.int .i64 p.start) := Kp.out.cell 3
      have vp4 : W0.cell? ⟨w.heap.size + 2, 4, none⟩ = some (.int .i64 p.stop) := Kp.out.cell 4
      have vq0 : W0.cell? ⟨w.heap.size + 3, 0, none⟩ = some (.int .i64 q.ship) := Kq.out.cell 0
      have vq1 : W0.cell? ⟨w.heap.size + 3, 1, none⟩ = some (.int .i64 q.segment) := Kq.out.cell 1
      have vq2 : W0.cell? ⟨w.heap.size + 3, 2, none⟩ = some (.bool q.toward) := Kq.out.cell 2
      have vq3 : W0.cell? ⟨w.heap.size + 3, 3, none⟩ = some (.int .i64 q.start) := Kq.out.cell 3
      have vq4 : W0.cell? ⟨w.heap.size + 3, 4, none⟩ = some (.int .i64 q.stop) := Kq.out.cell 4
      go_wp2_with fail
      rw [← HW0.out]
      clear vd0 vd1 vr0 vr1 vp0 vp1 vp2 vp3 vp4 vq0 vq1 vq2 vq3 vq4
      refine (specChartOk _ _ d _ (Rd.out.below B.out) Nd.out).mono ?_
      rw [Hb1.out]
      rintro e w1 ⟨rfl, hb1⟩
      have B1 := Lib.hid (B.out.trans (hb1.mono B.out.size))
      have Kd_1 := Lib.hid (Kd.out.below hb1)
      have Kr_1 := Lib.hid (Kr.out.below hb1)
      have Kp_1 := Lib.hid (Kp.out.below hb1)
      have Kq_1 := Lib.hid (Kq.out.below hb1)
      clear hb1
      have vd0 : w1.cell? ⟨w.heap.size, 0, none⟩ = some (.slice Ad0 d.points.length cd0) := Kd_1.out.cell 0
      have vd1 : w1.cell? ⟨w.heap.size, 1, none⟩ = some (.slice Ad1 d.segs.length cd1) := Kd_1.out.cell 1
      have vr0 : w1.cell? ⟨w.heap.size + 1, 0, none⟩ = some (.int .i64 r.gap) := Kr_1.out.cell 0
      have vr1 : w1.cell? ⟨w.heap.size + 1, 1, none⟩ = some (.bool r.noMeet) := Kr_1.out.cell 1
      have vp0 : w1.cell? ⟨w.heap.size + 2, 0, none⟩ = some (.int .i64 p.ship) := Kp_1.out.cell 0
      have vp1 : w1.cell? ⟨w.heap.size + 2, 1, none⟩ = some (.int .i64 p.segment) := Kp_1.out.cell 1
      have vp2 : w1.cell? ⟨w.heap.size + 2, 2, none⟩ = some (.bool p.toward) := Kp_1.out.cell 2
      have vp3 : w1.cell? ⟨w.heap.size + 2, 3, none⟩ = some (.int .i64 p.start) := Kp_1.out.cell 3
      have vp4 : w1.cell? ⟨w.heap.size + 2, 4, none⟩ = some (.int .i64 p.stop) := Kp_1.out.cell 4
      have vq0 : w1.cell? ⟨w.heap.size + 3, 0, none⟩ = some (.int .i64 q.ship) := Kq_1.out.cell 0
      have vq1 : w1.cell? ⟨w.heap.size + 3, 1, none⟩ = some (.int .i64 q.segment) := Kq_1.out.cell 1
      have vq2 : w1.cell? ⟨w.heap.size + 3, 2, none⟩ = some (.bool q.toward) := Kq_1.out.cell 2
      have vq3 : w1.cell? ⟨w.heap.size + 3, 3, none⟩ = some (.int .i64 q.start) := Kq_1.out.cell 3
      have vq4 : w1.cell? ⟨w.heap.size + 3, 4, none⟩ = some (.int .i64 q.stop) := Kq_1.out.cell 4
      go_wp2_with fail
      clear vd0 vd1 vr0 vr1 vp0 vp1 vp2 vp3 vp4 vq0 vq1 vq2 vq3 vq4
      refine (specRegimeOk r _).mono ?_
      rw [Hb2.out]
      rintro e w2 ⟨rfl, hb2⟩
      have B2 := Lib.hid (B1.out.trans (hb2.mono B1.out.size))
      have Kd_2 := Lib.hid (Kd_1.out.below hb2)
      have Kr_2 := Lib.hid (Kr_1.out.below hb2)
      have Kp_2 := Lib.hid (Kp_1.out.below hb2)
      have Kq_2 := Lib.hid (Kq_1.out.below hb2)
      clear hb2
      have vd0 : w2.cell? ⟨w.heap.size, 0, none⟩ = some (.slice Ad0 d.points.length cd0) := Kd_2.out.cell 0
      have vd1 : w2.cell? ⟨w.heap.size, 1, none⟩ = some (.slice Ad1 d.segs.length cd1) := Kd_2.out.cell 1
      have vr0 : w2.cell? ⟨w.heap.size + 1, 0, none⟩ = some (.int .i64 r.gap) := Kr_2.out.cell 0
      have vr1 : w2.cell? ⟨w.heap.size + 1, 1, none⟩ = some (.bool r.noMeet) := Kr_2.out.cell 1
      have vp0 : w2.cell? ⟨w.heap.size + 2, 0, none⟩ = some (.int .i64 p.ship) := Kp_2.out.cell 0
      have vp1 : w2.cell? ⟨w.heap.size + 2, 1, none⟩ = some (.int .i64 p.segment) := Kp_2.out.cell 1
      have vp2 : w2.cell? ⟨w.heap.size + 2, 2, none⟩ = some (.bool p.toward) := Kp_2.out.cell 2
      have vp3 : w2.cell? ⟨w.heap.size + 2, 3, none⟩ = some (.int .i64 p.start) := Kp_2.out.cell 3
      have vp4 : w2.cell? ⟨w.heap.size + 2, 4, none⟩ = some (.int .i64 p.stop) := Kp_2.out.cell 4
      have vq0 : w2.cell? ⟨w.heap.size + 3, 0, none⟩ = some (.int .i64 q.ship) := Kq_2.out.cell 0
      have vq1 : w2.cell? ⟨w.heap.size + 3, 1, none⟩ = some (.int .i64 q.segment) := Kq_2.out.cell 1
      have vq2 : w2.cell? ⟨w.heap.size + 3, 2, none⟩ = some (.bool q.toward) := Kq_2.out.cell 2
      have vq3 : w2.cell? ⟨w.heap.size + 3, 3, none⟩ = some (.int .i64 q.start) := Kq_2.out.cell 3
      have vq4 : w2.cell? ⟨w.heap.size + 3, 4, none⟩ = some (.int .i64 q.stop) := Kq_2.out.cell 4
      go_wp2_with fail
      clear vd0 vd1 vr0 vr1 vp0 vp1 vp2 vp3 vp4 vq0 vq1 vq2 vq3 vq4
      refine (l01In_any _ _ _ _).mono ?_
      rw [Hb3.out]
      rintro e wz ⟨rfl, rfl⟩
      have vd0 : w2.cell? ⟨w.heap.size, 0, none⟩ = some (.slice Ad0 d.points.length cd0) := Kd_2.out.cell 0
      have vd1 : w2.cell? ⟨w.heap.size, 1, none⟩ = some (.slice Ad1 d.segs.length cd1) := Kd_2.out.cell 1
      have vr0 : w2.cell? ⟨w.heap.size + 1, 0, none⟩ = some (.int .i64 r.gap) := Kr_2.out.cell 0
      have vr1 : w2.cell? ⟨w.heap.size + 1, 1, none⟩ = some (.bool r.noMeet) := Kr_2.out.cell 1
      have vp0 : w2.cell? ⟨w.heap.size + 2, 0, none⟩ = some (.int .i64 p.ship) := Kp_2.out.cell 0
      have vp1 : w2.cell? ⟨w.heap.size + 2, 1, none⟩ = some (.int .i64 p.segment) := Kp_2.out.cell 1
      have vp2 : w2.cell? ⟨w.heap.size + 2, 2, none⟩ = some (.bool p.toward) := Kp_2.out.cell 2
      have vp3 : w2.cell? ⟨w.heap.size + 2, 3, none⟩ = some (.int .i64 p.start) := Kp_2.out.cell 3
      have vp4 : w2.cell? ⟨w.heap.size + 2, 4, none⟩ = some (.int .i64 p.stop) := Kp_2.out.cell 4
      have vq0 : w2.cell? ⟨w.heap.size + 3, 0, none⟩ = some (.int .i64 q.ship) := Kq_2.out.cell 0
      have vq1 : w2.cell? ⟨w.heap.size + 3, 1, none⟩ = some (.int .i64 q.segment) := Kq_2.out.cell 1
      have vq2 : w2.cell? ⟨w.heap.size + 3, 2, none⟩ = some (.bool q.toward) := Kq_2.out.cell 2
      have vq3 : w2.cell? ⟨w.heap.size + 3, 3, none⟩ = some (.int .i64 q.start) := Kq_2.out.cell 3
      have vq4 : w2.cell? ⟨w.heap.size + 3, 4, none⟩ = some (.int .i64 q.stop) := Kq_2.out.cell 4
      go_wp2_with fail
      clear vd0 vd1 vr0 vr1 vp0 vp1 vp2 vp3 vp4 vq0 vq1 vq2 vq3 vq4
      refine (specOverlaps p q _).mono ?_
      rw [HOV.out]
      rintro e w3 ⟨rfl, hb3⟩
      have B3 := Lib.hid (B2.out.trans (hb3.mono B2.out.size))
      have Kd_3 := Lib.hid (Kd_2.out.below hb3)
      have Kr_3 := Lib.hid (Kr_2.out.below hb3)
      have Kp_3 := Lib.hid (Kp_2.out.below hb3)
      have Kq_3 := Lib.hid (Kq_2.out.below hb3)
      clear hb3
      have vd0 : w3.cell? ⟨w.heap.size, 0, none⟩ = some (.slice Ad0 d.points.length cd0) := Kd_3.out.cell 0
      have vd1 : w3.cell? ⟨w.heap.size, 1, none⟩ = some (.slice Ad1 d.segs.length cd1) := Kd_3.out.cell 1
      have vr0 : w3.cell? ⟨w.heap.size + 1, 0, none⟩ = some (.int .i64 r.gap) := Kr_3.out.cell 0
      have vr1 : w3.cell? ⟨w.heap.size + 1, 1, none⟩ = some (.bool r.noMeet) := Kr_3.out.cell 1
      have vp0 : w3.cell? ⟨w.heap.size + 2, 0, none⟩ = some (.int .i64 p.ship) := Kp_3.out.cell 0
      have vp1 : w3.cell? ⟨w.heap.size + 2, 1, none⟩ = some (.int .i64 p.segment) := Kp_3.out.cell 1
      have vp2 : w3.cell? ⟨w.heap.size + 2, 2, none⟩ = some (.bool p.toward) := Kp_3.out.cell 2
      have vp3 : w3.cell? ⟨w.heap.size + 2, 3, none⟩ = some (.int .i64 p.start) := Kp_3.out.cell 3
      have vp4 : w3.cell? ⟨w.heap.size + 2, 4, none⟩ = some (.int .i64 p.stop) := Kp_3.out.cell 4
      have vq0 : w3.cell? ⟨w.heap.size + 3, 0, none⟩ = some (.int .i64 q.ship) := Kq_3.out.cell 0
      have vq1 : w3.cell? ⟨w.heap.size + 3, 1, none⟩ = some (.int .i64 q.segment) := Kq_3.out.cell 1
      have vq2 : w3.cell? ⟨w.heap.size + 3, 2, none⟩ = some (.bool q.toward) := Kq_3.out.cell 2
      have vq3 : w3.cell? ⟨w.heap.size + 3, 3, none⟩ = some (.int .i64 q.start) := Kq_3.out.cell 3
      have vq4 : w3.cell? ⟨w.heap.size + 3, 4, none⟩ = some (.int .i64 q.stop) := Kq_3.out.cell 4
      go_wp2
      go_ret
      exact ⟨ret_int E.out.symm, B3.out⟩
  have hs : (p.ship == q.ship) = false := by simpa using h5
  by_cases h6 : p.toward = q.toward
  rotate_left
  · have ht : (p.toward == q.toward) = false := by simpa using h6
    have E1 := Lib.hid (E0.out.trans (confAt_meet h5 h6))
    clear h5 h6
    cases ov with
    | false =>
      have E := Lib.hid (show confI d r p q = 0 by rw [E1.out, HOV.out]; rfl)
      clear hx i0 il
      go_enter Try.func27, Try.ntmps27
      have vd0 : W0.cell? ⟨w.heap.size, 0, none⟩ = some (.slice Ad0 d.points.length cd0) := Kd.out.cell 0
      have vd1 : W0.cell? ⟨w.heap.size, 1, none⟩ = some (.slice Ad1 d.segs.length cd1) := Kd.out.cell 1
      have vr0 : W0.cell? ⟨w.heap.size + 1, 0, none⟩ = some (.int .i64 r.gap) := Kr.out.cell 0
      have vr1 : W0.cell? ⟨w.heap.size + 1, 1, none⟩ = some (.bool r.noMeet) := Kr.out.cell 1
      have vp0 : W0.cell? ⟨w.heap.size + 2, 0, none⟩ = some (.int .i64 p.ship) := Kp.out.cell 0
      have vp1 : W0.cell? ⟨w.heap.size + 2, 1, none⟩ = some (.int .i64 p.segment) := Kp.out.cell 1
      have vp2 : W0.cell? ⟨w.heap.size + 2, 2, none⟩ = some (.bool p.toward) := Kp.out.cell 2
      have vp3 : W0.cell? ⟨w.heap.size + 2, 3, none⟩ = some (.int .i64 p.start) := Kp.out.cell 3
      have vp4 : W0.cell? ⟨w.heap.size + 2, 4, none⟩ = some (.int .i64 p.stop) := Kp.out.cell 4
      have vq0 : W0.cell? ⟨w.heap.size + 3, 0, none⟩ = some (.int .i64 q.ship) := Kq.out.cell 0
      have vq1 : W0.cell? ⟨w.heap.size + 3, 1, none⟩ = some (.int .i64 q.segment) := Kq.out.cell 1
      have vq2 : W0.cell? ⟨w.heap.size + 3, 2, none⟩ = some (.bool q.toward) := Kq.out.cell 2
      have vq3 : W0.cell? ⟨w.heap.size + 3, 3, none⟩ = some (.int .i64 q.start) := Kq.out.cell 3
      have vq4 : W0.cell? ⟨w.heap.size + 3, 4, none⟩ = some (.int .i64 q.stop) := Kq.out.cell 4
      go_wp2_with fail
      rw [← HW0.out]
      clear vd0 vd1 vr0 vr1 vp0 vp1 vp2 vp3 vp4 vq0 vq1 vq2 vq3 vq4
      refine (specChartOk _ _ d _ (Rd.out.below B.out) Nd.out).mono ?_
      rw [Hb1.out]
      rintro e w1 ⟨rfl, hb1⟩
      have B1 := Lib.hid (B.out.trans (hb1.mono B.out.size))
      have Kd_1 := Lib.hid (Kd.out.below hb1)
      have Kr_1 := Lib.hid (Kr.out.below hb1)
      have Kp_1 := Lib.hid (Kp.out.below hb1)
      have Kq_1 := Lib.hid (Kq.out.below hb1)
      clear hb1
      have vd0 : w1.cell? ⟨w.heap.size, 0, none⟩ = some (.slice Ad0 d.points.length cd0) := Kd_1.out.cell 0
      have vd1 : w1.cell? ⟨w.heap.size, 1, none⟩ = some (.slice Ad1 d.segs.length cd1) := Kd_1.out.cell 1
      have vr0 : w1.cell? ⟨w.heap.size + 1, 0, none⟩ = some (.int .i64 r.gap) := Kr_1.out.cell 0
      have vr1 : w1.cell? ⟨w.heap.size + 1, 1, none⟩ = some (.bool r.noMeet) := Kr_1.out.cell 1
      have vp0 : w1.cell? ⟨w.heap.size + 2, 0, none⟩ = some (.int .i64 p.ship) := Kp_1.out.cell 0
      have vp1 : w1.cell? ⟨w.heap.size + 2, 1, none⟩ = some (.int .i64 p.segment) := Kp_1.out.cell 1
      have vp2 : w1.cell? ⟨w.heap.size + 2, 2, none⟩ = some (.bool p.toward) := Kp_1.out.cell 2
      have vp3 : w1.cell? ⟨w.heap.size + 2, 3, none⟩ = some (.int .i64 p.start) := Kp_1.out.cell 3
      have vp4 : w1.cell? ⟨w.heap.size + 2, 4, none⟩ = some (.int .i64 p.stop) := Kp_1.out.cell 4
      have vq0 : w1.cell? ⟨w.heap.size + 3, 0, none⟩ = some (.int .i64 q.ship) := Kq_1.out.cell 0
      have vq1 : w1.cell? ⟨w.heap.size + 3, 1, none⟩ = some (.int .i64 q.segment) := Kq_1.out.cell 1
      have vq2 : w1.cell? ⟨w.heap.size + 3, 2, none⟩ = some (.bool q.toward) := Kq_1.out.cell 2
      have vq3 : w1.cell? ⟨w.heap.size + 3, 3, none⟩ = some (.int .i64 q.start) := Kq_1.out.cell 3
      have vq4 : w1.cell? ⟨w.heap.size + 3, 4, none⟩ = some (.int .i64 q.stop) := Kq_1.out.cell 4
      go_wp2_with fail
      clear vd0 vd1 vr0 vr1 vp0 vp1 vp2 vp3 vp4 vq0 vq1 vq2 vq3 vq4
      refine (specRegimeOk r _).mono ?_
      rw [Hb2.out]
      rintro e w2 ⟨rfl, hb2⟩
      have B2 := Lib.hid (B1.out.trans (hb2.mono B1.out.size))
      have Kd_2 := Lib.hid (Kd_1.out.below hb2)
      have Kr_2 := Lib.hid (Kr_1.out.below hb2)
      have Kp_2 := Lib.hid (Kp_1.out.below hb2)
      have Kq_2 := Lib.hid (Kq_1.out.below hb2)
      clear hb2
      have vd0 : w2.cell? ⟨w.heap.size, 0, none⟩ = some (.slice Ad0 d.points.length cd0) := Kd_2.out.cell 0
      have vd1 : w2.cell? ⟨w.heap.size, 1, none⟩ = some (.slice Ad1 d.segs.length cd1) := Kd_2.out.cell 1
      have vr0 : w2.cell? ⟨w.heap.size + 1, 0, none⟩ = some (.int .i64 r.gap) := Kr_2.out.cell 0
      have vr1 : w2.cell? ⟨w.heap.size + 1, 1, none⟩ = some (.bool r.noMeet) := Kr_2.out.cell 1
      have vp0 : w2.cell? ⟨w.heap.size + 2, 0, none⟩ = some (.int .i64 p.ship) := Kp_2.out.cell 0
      have vp1 : w2.cell? ⟨w.heap.size + 2, 1, none⟩ = some (.int .i64 p.segment) := Kp_2.out.cell 1
      have vp2 : w2.cell? ⟨w.heap.size + 2, 2, none⟩ = some (.bool p.toward) := Kp_2.out.cell 2
      have vp3 : w2.cell? ⟨w.heap.size + 2, 3, none⟩ = some (.int .i64 p.start) := Kp_2.out.cell 3
      have vp4 : w2.cell? ⟨w.heap.size + 2, 4, none⟩ = some (.int .i64 p.stop) := Kp_2.out.cell 4
      have vq0 : w2.cell? ⟨w.heap.size + 3, 0, none⟩ = some (.int .i64 q.ship) := Kq_2.out.cell 0
      have vq1 : w2.cell? ⟨w.heap.size + 3, 1, none⟩ = some (.int .i64 q.segment) := Kq_2.out.cell 1
      have vq2 : w2.cell? ⟨w.heap.size + 3, 2, none⟩ = some (.bool q.toward) := Kq_2.out.cell 2
      have vq3 : w2.cell? ⟨w.heap.size + 3, 3, none⟩ = some (.int .i64 q.start) := Kq_2.out.cell 3
      have vq4 : w2.cell? ⟨w.heap.size + 3, 4, none⟩ = some (.int .i64 q.stop) := Kq_2.out.cell 4
      go_wp2_with fail
      clear vd0 vd1 vr0 vr1 vp0 vp1 vp2 vp3 vp4 vq0 vq1 vq2 vq3 vq4
      refine (l01In_any _ _ _ _).mono ?_
      rw [Hb3.out]
      rintro e wz ⟨rfl, rfl⟩
      have vd0 : w2.cell? ⟨w.heap.size, 0, none⟩ = some (.slice Ad0 d.points.length cd0) := Kd_2.out.cell 0
      have vd1 : w2.cell? ⟨w.heap.size, 1, none⟩ = some (.slice Ad1 d.segs.length cd1) := Kd_2.out.cell 1
      have vr0 : w2.cell? ⟨w.heap.size + 1, 0, none⟩ = some (.int .i64 r.gap) := Kr_2.out.cell 0
      have vr1 : w2.cell? ⟨w.heap.size + 1, 1, none⟩ = some (.bool r.noMeet) := Kr_2.out.cell 1
      have vp0 : w2.cell? ⟨w.heap.size + 2, 0, none⟩ = some (.int .i64 p.ship) := Kp_2.out.cell 0
      have vp1 : w2.cell? ⟨w.heap.size + 2, 1, none⟩ = some (.int .i64 p.segment) := Kp_2.out.cell 1
      have vp2 : w2.cell? ⟨w.heap.size + 2, 2, none⟩ = some (.bool p.toward) := Kp_2.out.cell 2
      have vp3 : w2.cell? ⟨w.heap.size + 2, 3, none⟩ = some (.int .i64 p.start) := Kp_2.out.cell 3
      have vp4 : w2.cell? ⟨w.heap.size + 2, 4, none⟩ = some (.int .i64 p.stop) := Kp_2.out.cell 4
      have vq0 : w2.cell? ⟨w.heap.size + 3, 0, none⟩ = some (.int .i64 q.ship) := Kq_2.out.cell 0
      have vq1 : w2.cell? ⟨w.heap.size + 3, 1, none⟩ = some (.int .i64 q.segment) := Kq_2.out.cell 1
      have vq2 : w2.cell? ⟨w.heap.size + 3, 2, none⟩ = some (.bool q.toward) := Kq_2.out.cell 2
      have vq3 : w2.cell? ⟨w.heap.size + 3, 3, none⟩ = some (.int .i64 q.start) := Kq_2.out.cell 3
      have vq4 : w2.cell? ⟨w.heap.size + 3, 4, none⟩ = some (.int .i64 q.stop) := Kq_2.out.cell 4
      go_wp2_with fail
      clear vd0 vd1 vr0 vr1 vp0 vp1 vp2 vp3 vp4 vq0 vq1 vq2 vq3 vq4
      refine (specOverlaps p q _).mono ?_
      rw [HOV.out]
      rintro e w3 ⟨rfl, hb3⟩
      have B3 := Lib.hid (B2.out.trans (hb3.mono B2.out.size))
      have Kd_3 := Lib.hid (Kd_2.out.below hb3)
      have Kr_3 := Lib.hid (Kr_2.out.below hb3)
      have Kp_3 := Lib.hid (Kp_2.out.below hb3)
      have Kq_3 := Lib.hid (Kq_2.out.below hb3)
      clear hb3
      have vd0 : w3.cell? ⟨w.heap.size, 0, none⟩ = some (.slice Ad0 d.points.length cd0) := Kd_3.out.cell 0
      have vd1 : w3.cell? ⟨w.heap.size, 1, none⟩ = some (.slice Ad1 d.segs.length cd1) := Kd_3.out.cell 1
      have vr0 : w3.cell? ⟨w.heap.size + 1, 0, none⟩ = some (.int .i64 r.gap) := Kr_3.out.cell 0
      have vr1 : w3.cell? ⟨w.heap.size + 1, 1, none⟩ = some (.bool r.noMeet) := Kr_3.out.cell 1
      have vp0 : w3.cell? ⟨w.heap.size + 2, 0, none⟩ = some (.int .i64 p.ship) := Kp_3.out.cell 0
      have vp1 : w3.cell? ⟨w.heap.size + 2, 1, none⟩ = some (.int .i64 p.segment) := Kp_3.out.cell 1
      have vp2 : w3.cell? ⟨w.heap.size + 2, 2, none⟩ = some (.bool p.toward) := Kp_3.out.cell 2
      have vp3 : w3.cell? ⟨w.heap.size + 2, 3, none⟩ = some (.int .i64 p.start) := Kp_3.out.cell 3
      have vp4 : w3.cell? ⟨w.heap.size + 2, 4, none⟩ = some (.int .i64 p.stop) := Kp_3.out.cell 4
      have vq0 : w3.cell? ⟨w.heap.size + 3, 0, none⟩ = some (.int .i64 q.ship) := Kq_3.out.cell 0
      have vq1 : w3.cell? ⟨w.heap.size + 3, 1, none⟩ = some (.int .i64 q.segment) := Kq_3.out.cell 1
      have vq2 : w3.cell? ⟨w.heap.size + 3, 2, none⟩ = some (.bool q.toward) := Kq_3.out.cell 2
      have vq3 : w3.cell? ⟨w.heap.size + 3, 3, none⟩ = some (.int .i64 q.start) := Kq_3.out.cell 3
      have vq4 : w3.cell? ⟨w.heap.size + 3, 4, none⟩ = some (.int .i64 q.stop) := Kq_3.out.cell 4
      go_wp2
      go_ret
      exact ⟨ret_int E.out.symm, B3.out⟩
    | true =>
      obtain ⟨k, hk⟩ : ∃ k : Nat, p.segment = (k : Int) := ⟨p.segment.toNat, by omega⟩
      have HK := Lib.hid hk
      rw [hk] at hx il
      simp only [Int.toNat_natCast] at hx il
      rcases Rd.out.2.2 with ⟨he, _⟩ | ⟨g', o', c', e, dpos, dcap, dc⟩
      · rw [he] at il; simp at il
      injection e with hA' _ hcp'
      subst hA' hcp'
      obtain ⟨-, -, -, -, q4⟩ := SlSegment.cells dc k g hx
      have Y4 := Lib.hid q4
      have HOP := Lib.hid (show overB p q = true from HOV.out)
      clear q4 dc hx i0
      obtain ⟨nm, hnm⟩ : ∃ b, r.noMeet = b := ⟨_, rfl⟩
      obtain ⟨mt, hmt⟩ : ∃ b, g.meet = b := ⟨_, rfl⟩
      have E2 := Lib.hid (show confI d r p q = if (nm = true ∨ mt = false) then 2 else 0 by rw [E1.out, HOV.out, hnm, hmt]; simp)
      have HNM := Lib.hid hnm
      have HMT := Lib.hid hmt
      clear hnm hmt E1 E0 hk
      cases nm with
      | true =>
        have E := Lib.hid (E2.out.trans (if_pos (.inl rfl)))
        cases mt with
        | false =>
          go_enter Try.func27, Try.ntmps27
          have vd0 : W0.cell? ⟨w.heap.size, 0, none⟩ = some (.slice Ad0 d.points.length cd0) := Kd.out.cell 0
          have vd1 : W0.cell? ⟨w.heap.size, 1, none⟩ = some (.slice (some ⟨g', o', none⟩) d.segs.length cd1) := Kd.out.cell 1
          have vr0 : W0.cell? ⟨w.heap.size + 1, 0, none⟩ = some (.int .i64 r.gap) := Kr.out.cell 0
          have vr1 : W0.cell? ⟨w.heap.size + 1, 1, none⟩ = some (.bool r.noMeet) := Kr.out.cell 1
          have vp0 : W0.cell? ⟨w.heap.size + 2, 0, none⟩ = some (.int .i64 p.ship) := Kp.out.cell 0
          have vp1 : W0.cell? ⟨w.heap.size + 2, 1, none⟩ = some (.int .i64 p.segment) := Kp.out.cell 1
          have vp2 : W0.cell? ⟨w.heap.size + 2, 2, none⟩ = some (.bool p.toward) := Kp.out.cell 2
          have vp3 : W0.cell? ⟨w.heap.size + 2, 3, none⟩ = some (.int .i64 p.start) := Kp.out.cell 3
          have vp4 : W0.cell? ⟨w.heap.size + 2, 4, none⟩ = some (.int .i64 p.stop) := Kp.out.cell 4
          have vq0 : W0.cell? ⟨w.heap.size + 3, 0, none⟩ = some (.int .i64 q.ship) := Kq.out.cell 0
          have vq1 : W0.cell? ⟨w.heap.size + 3, 1, none⟩ = some (.int .i64 q.segment) := Kq.out.cell 1
          have vq2 : W0.cell? ⟨w.heap.size + 3, 2, none⟩ = some (.bool q.toward) := Kq.out.cell 2
          have vq3 : W0.cell? ⟨w.heap.size + 3, 3, none⟩ = some (.int .i64 q.start) := Kq.out.cell 3
          have vq4 : W0.cell? ⟨w.heap.size + 3, 4, none⟩ = some (.int .i64 q.stop) := Kq.out.cell 4
          go_wp2_with fail
          rw [← HW0.out]
          clear vd0 vd1 vr0 vr1 vp0 vp1 vp2 vp3 vp4 vq0 vq1 vq2 vq3 vq4
          refine (specChartOk _ _ d _ (Rd.out.below B.out) Nd.out).mono ?_
          rw [Hb1.out]
          rintro e w1 ⟨rfl, hb1⟩
          have B1 := Lib.hid (B.out.trans (hb1.mono B.out.size))
          have Kd_1 := Lib.hid (Kd.out.below hb1)
          have Kr_1 := Lib.hid (Kr.out.below hb1)
          have Kp_1 := Lib.hid (Kp.out.below hb1)
          have Kq_1 := Lib.hid (Kq.out.below hb1)
          clear hb1
          have vd0 : w1.cell? ⟨w.heap.size, 0, none⟩ = some (.slice Ad0 d.points.length cd0) := Kd_1.out.cell 0
          have vd1 : w1.cell? ⟨w.heap.size, 1, none⟩ = some (.slice (some ⟨g', o', none⟩) d.segs.length cd1) := Kd_1.out.cell 1
          have vr0 : w1.cell? ⟨w.heap.size + 1, 0, none⟩ = some (.int .i64 r.gap) := Kr_1.out.cell 0
          have vr1 : w1.cell? ⟨w.heap.size + 1, 1, none⟩ = some (.bool r.noMeet) := Kr_1.out.cell 1
          have vp0 : w1.cell? ⟨w.heap.size + 2, 0, none⟩ = some (.int .i64 p.ship) := Kp_1.out.cell 0
          have vp1 : w1.cell? ⟨w.heap.size + 2, 1, none⟩ = some (.int .i64 p.segment) := Kp_1.out.cell 1
          have vp2 : w1.cell? ⟨w.heap.size + 2, 2, none⟩ = some (.bool p.toward) := Kp_1.out.cell 2
          have vp3 : w1.cell? ⟨w.heap.size + 2, 3, none⟩ = some (.int .i64 p.start) := Kp_1.out.cell 3
          have vp4 : w1.cell? ⟨w.heap.size + 2, 4, none⟩ = some (.int .i64 p.stop) := Kp_1.out.cell 4
          have vq0 : w1.cell? ⟨w.heap.size + 3, 0, none⟩ = some (.int .i64 q.ship) := Kq_1.out.cell 0
          have vq1 : w1.cell? ⟨w.heap.size + 3, 1, none⟩ = some (.int .i64 q.segment) := Kq_1.out.cell 1
          have vq2 : w1.cell? ⟨w.heap.size + 3, 2, none⟩ = some (.bool q.toward) := Kq_1.out.cell 2
          have vq3 : w1.cell? ⟨w.heap.size + 3, 3, none⟩ = some (.int .i64 q.start) := Kq_1.out.cell 3
          have vq4 : w1.cell? ⟨w.heap.size + 3, 4, none⟩ = some (.int .i64 q.stop) := Kq_1.out.cell 4
          go_wp2_with fail
          clear vd0 vd1 vr0 vr1 vp0 vp1 vp2 vp3 vp4 vq0 vq1 vq2 vq3 vq4
          refine (specRegimeOk r _).mono ?_
          rw [Hb2.out]
          rintro e w2 ⟨rfl, hb2⟩
          have B2 := Lib.hid (B1.out.trans (hb2.mono B1.out.size))
          have Kd_2 := Lib.hid (Kd_1.out.below hb2)
          have Kr_2 := Lib.hid (Kr_1.out.below hb2)
          have Kp_2 := Lib.hid (Kp_1.out.below hb2)
          have Kq_2 := Lib.hid (Kq_1.out.below hb2)
          clear hb2
          have vd0 : w2.cell? ⟨w.heap.size, 0, none⟩ = some (.slice Ad0 d.points.length cd0) := Kd_2.out.cell 0
          have vd1 : w2.cell? ⟨w.heap.size, 1, none⟩ = some (.slice (some ⟨g', o', none⟩) d.segs.length cd1) := Kd_2.out.cell 1
          have vr0 : w2.cell? ⟨w.heap.size + 1, 0, none⟩ = some (.int .i64 r.gap) := Kr_2.out.cell 0
          have vr1 : w2.cell? ⟨w.heap.size + 1, 1, none⟩ = some (.bool r.noMeet) := Kr_2.out.cell 1
          have vp0 : w2.cell? ⟨w.heap.size + 2, 0, none⟩ = some (.int .i64 p.ship) := Kp_2.out.cell 0
          have vp1 : w2.cell? ⟨w.heap.size + 2, 1, none⟩ = some (.int .i64 p.segment) := Kp_2.out.cell 1
          have vp2 : w2.cell? ⟨w.heap.size + 2, 2, none⟩ = some (.bool p.toward) := Kp_2.out.cell 2
          have vp3 : w2.cell? ⟨w.heap.size + 2, 3, none⟩ = some (.int .i64 p.start) := Kp_2.out.cell 3
          have vp4 : w2.cell? ⟨w.heap.size + 2, 4, none⟩ = some (.int .i64 p.stop) := Kp_2.out.cell 4
          have vq0 : w2.cell? ⟨w.heap.size + 3, 0, none⟩ = some (.int .i64 q.ship) := Kq_2.out.cell 0
          have vq1 : w2.cell? ⟨w.heap.size + 3, 1, none⟩ = some (.int .i64 q.segment) := Kq_2.out.cell 1
          have vq2 : w2.cell? ⟨w.heap.size + 3, 2, none⟩ = some (.bool q.toward) := Kq_2.out.cell 2
          have vq3 : w2.cell? ⟨w.heap.size + 3, 3, none⟩ = some (.int .i64 q.start) := Kq_2.out.cell 3
          have vq4 : w2.cell? ⟨w.heap.size + 3, 4, none⟩ = some (.int .i64 q.stop) := Kq_2.out.cell 4
          go_wp2_with fail
          clear vd0 vd1 vr0 vr1 vp0 vp1 vp2 vp3 vp4 vq0 vq1 vq2 vq3 vq4
          refine (l01In_any _ _ _ _).mono ?_
          rw [Hb3.out]
          rintro e wz ⟨rfl, rfl⟩
          have vd0 : w2.cell? ⟨w.heap.size, 0, none⟩ = some (.slice Ad0 d.points.length cd0) := Kd_2.out.cell 0
          have vd1 : w2.cell? ⟨w.heap.size, 1, none⟩ = some (.slice (some ⟨g', o', none⟩) d.segs.length cd1) := Kd_2.out.cell 1
          have vr0 : w2.cell? ⟨w.heap.size + 1, 0, none⟩ = some (.int .i64 r.gap) := Kr_2.out.cell 0
          have vr1 : w2.cell? ⟨w.heap.size + 1, 1, none⟩ = some (.bool r.noMeet) := Kr_2.out.cell 1
          have vp0 : w2.cell? ⟨w.heap.size + 2, 0, none⟩ = some (.int .i64 p.ship) := Kp_2.out.cell 0
          have vp1 : w2.cell? ⟨w.heap.size + 2, 1, none⟩ = some (.int .i64 p.segment) := Kp_2.out.cell 1
          have vp2 : w2.cell? ⟨w.heap.size + 2, 2, none⟩ = some (.bool p.toward) := Kp_2.out.cell 2
          have vp3 : w2.cell? ⟨w.heap.size + 2, 3, none⟩ = some (.int .i64 p.start) := Kp_2.out.cell 3
          have vp4 : w2.cell? ⟨w.heap.size + 2, 4, none⟩ = some (.int .i64 p.stop) := Kp_2.out.cell 4
          have vq0 : w2.cell? ⟨w.heap.size + 3, 0, none⟩ = some (.int .i64 q.ship) := Kq_2.out.cell 0
          have vq1 : w2.cell? ⟨w.heap.size + 3, 1, none⟩ = some (.int .i64 q.segment) := Kq_2.out.cell 1
          have vq2 : w2.cell? ⟨w.heap.size + 3, 2, none⟩ = some (.bool q.toward) := Kq_2.out.cell 2
          have vq3 : w2.cell? ⟨w.heap.size + 3, 3, none⟩ = some (.int .i64 q.start) := Kq_2.out.cell 3
          have vq4 : w2.cell? ⟨w.heap.size + 3, 4, none⟩ = some (.int .i64 q.stop) := Kq_2.out.cell 4
          go_wp2_with fail
          clear vd0 vd1 vr0 vr1 vp0 vp1 vp2 vp3 vp4 vq0 vq1 vq2 vq3 vq4
          refine (specOverlaps p q _).mono ?_
          rw [HOV.out]
          rintro e w3 ⟨rfl, hb3⟩
          have B3 := Lib.hid (B2.out.trans (hb3.mono B2.out.size))
          have Kd_3 := Lib.hid (Kd_2.out.below hb3)
          have Kr_3 := Lib.hid (Kr_2.out.below hb3)
          have Kp_3 := Lib.hid (Kp_2.out.below hb3)
          have Kq_3 := Lib.hid (Kq_2.out.below hb3)
          clear hb3
          have vd0 : w3.cell? ⟨w.heap.size, 0, none⟩ = some (.slice Ad0 d.points.length cd0) := Kd_3.out.cell 0
          have vd1 : w3.cell? ⟨w.heap.size, 1, none⟩ = some (.slice (some ⟨g', o', none⟩) d.segs.length cd1) := Kd_3.out.cell 1
          have vr0 : w3.cell? ⟨w.heap.size + 1, 0, none⟩ = some (.int .i64 r.gap) := Kr_3.out.cell 0
          have vr1 : w3.cell? ⟨w.heap.size + 1, 1, none⟩ = some (.bool r.noMeet) := Kr_3.out.cell 1
          have vp0 : w3.cell? ⟨w.heap.size + 2, 0, none⟩ = some (.int .i64 p.ship) := Kp_3.out.cell 0
          have vp1 : w3.cell? ⟨w.heap.size + 2, 1, none⟩ = some (.int .i64 p.segment) := Kp_3.out.cell 1
          have vp2 : w3.cell? ⟨w.heap.size + 2, 2, none⟩ = some (.bool p.toward) := Kp_3.out.cell 2
          have vp3 : w3.cell? ⟨w.heap.size + 2, 3, none⟩ = some (.int .i64 p.start) := Kp_3.out.cell 3
          have vp4 : w3.cell? ⟨w.heap.size + 2, 4, none⟩ = some (.int .i64 p.stop) := Kp_3.out.cell 4
          have vq0 : w3.cell? ⟨w.heap.size + 3, 0, none⟩ = some (.int .i64 q.ship) := Kq_3.out.cell 0
          have vq1 : w3.cell? ⟨w.heap.size + 3, 1, none⟩ = some (.int .i64 q.segment) := Kq_3.out.cell 1
          have vq2 : w3.cell? ⟨w.heap.size + 3, 2, none⟩ = some (.bool q.toward) := Kq_3.out.cell 2
          have vq3 : w3.cell? ⟨w.heap.size + 3, 3, none⟩ = some (.int .i64 q.start) := Kq_3.out.cell 3
          have vq4 : w3.cell? ⟨w.heap.size + 3, 4, none⟩ = some (.int .i64 q.stop) := Kq_3.out.cell 4
          rw [HK.out] at vp1 hsn'
          rw [HNM.out] at vr1
          have y4 := cell_onV Y4.out B3.out
          rw [HMT.out] at y4
          go_wp2
          go_ret
          exact ⟨ret_int E.out.symm, B3.out⟩
        | true =>
          go_enter Try.func27, Try.ntmps27
          have vd0 : W0.cell? ⟨w.heap.size, 0, none⟩ = some (.slice Ad0 d.points.length cd0) := Kd.out.cell 0
          have vd1 : W0.cell? ⟨w.heap.size, 1, none⟩ = some (.slice (some ⟨g', o', none⟩) d.segs.length cd1) := Kd.out.cell 1
          have vr0 : W0.cell? ⟨w.heap.size + 1, 0, none⟩ = some (.int .i64 r.gap) := Kr.out.cell 0
          have vr1 : W0.cell? ⟨w.heap.size + 1, 1, none⟩ = some (.bool r.noMeet) := Kr.out.cell 1
          have vp0 : W0.cell? ⟨w.heap.size + 2, 0, none⟩ = some (.int .i64 p.ship) := Kp.out.cell 0
          have vp1 : W0.cell? ⟨w.heap.size + 2, 1, none⟩ = some (.int .i64 p.segment) := Kp.out.cell 1
          have vp2 : W0.cell? ⟨w.heap.size + 2, 2, none⟩ = some (.bool p.toward) := Kp.out.cell 2
          have vp3 : W0.cell? ⟨w.heap.size + 2, 3, none⟩ = some (.int .i64 p.start) := Kp.out.cell 3
          have vp4 : W0.cell? ⟨w.heap.size + 2, 4, none⟩ = some (.int .i64 p.stop) := Kp.out.cell 4
          have vq0 : W0.cell? ⟨w.heap.size + 3, 0, none⟩ = some (.int .i64 q.ship) := Kq.out.cell 0
          have vq1 : W0.cell? ⟨w.heap.size + 3, 1, none⟩ = some (.int .i64 q.segment) := Kq.out.cell 1
          have vq2 : W0.cell? ⟨w.heap.size + 3, 2, none⟩ = some (.bool q.toward) := Kq.out.cell 2
          have vq3 : W0.cell? ⟨w.heap.size + 3, 3, none⟩ = some (.int .i64 q.start) := Kq.out.cell 3
          have vq4 : W0.cell? ⟨w.heap.size + 3, 4, none⟩ = some (.int .i64 q.stop) := Kq.out.cell 4
          go_wp2_with fail
          rw [← HW0.out]
          clear vd0 vd1 vr0 vr1 vp0 vp1 vp2 vp3 vp4 vq0 vq1 vq2 vq3 vq4
          refine (specChartOk _ _ d _ (Rd.out.below B.out) Nd.out).mono ?_
          rw [Hb1.out]
          rintro e w1 ⟨rfl, hb1⟩
          have B1 := Lib.hid (B.out.trans (hb1.mono B.out.size))
          have Kd_1 := Lib.hid (Kd.out.below hb1)
          have Kr_1 := Lib.hid (Kr.out.below hb1)
          have Kp_1 := Lib.hid (Kp.out.below hb1)
          have Kq_1 := Lib.hid (Kq.out.below hb1)
          clear hb1
          have vd0 : w1.cell? ⟨w.heap.size, 0, none⟩ = some (.slice Ad0 d.points.length cd0) := Kd_1.out.cell 0
          have vd1 : w1.cell? ⟨w.heap.size, 1, none⟩ = some (.slice (some ⟨g', o', none⟩) d.segs.length cd1) := Kd_1.out.cell 1
          have vr0 : w1.cell? ⟨w.heap.size + 1, 0, none⟩ = some (.int .i64 r.gap) := Kr_1.out.cell 0
          have vr1 : w1.cell? ⟨w.heap.size + 1, 1, none⟩ = some (.bool r.noMeet) := Kr_1.out.cell 1
          have vp0 : w1.cell? ⟨w.heap.size + 2, 0, none⟩ = some (.int .i64 p.ship) := Kp_1.out.cell 0
          have vp1 : w1.cell? ⟨w.heap.size + 2, 1, none⟩ = some (.int .i64 p.segment) := Kp_1.out.cell 1
          have vp2 : w1.cell? ⟨w.heap.size + 2, 2, none⟩ = some (.bool p.toward) := Kp_1.out.cell 2
          have vp3 : w1.cell? ⟨w.heap.size + 2, 3, none⟩ = some (.int .i64 p.start) := Kp_1.out.cell 3
          have vp4 : w1.cell? ⟨w.heap.size + 2, 4, none⟩ = some (.int .i64 p.stop) := Kp_1.out.cell 4
          have vq0 : w1.cell? ⟨w.heap.size + 3, 0, none⟩ = some (.int .i64 q.ship) := Kq_1.out.cell 0
          have vq1 : w1.cell? ⟨w.heap.size + 3, 1, none⟩ = some (.int .i64 q.segment) := Kq_1.out.cell 1
          have vq2 : w1.cell? ⟨w.heap.size + 3, 2, none⟩ = some (.bool q.toward) := Kq_1.out.cell 2
          have vq3 : w1.cell? ⟨w.heap.size + 3, 3, none⟩ = some (.int .i64 q.start) := Kq_1.out.cell 3
          have vq4 : w1.cell? ⟨w.heap.size + 3, 4, none⟩ = some (.int .i64 q.stop) := Kq_1.out.cell 4
          go_wp2_with fail
          clear vd0 vd1 vr0 vr1 vp0 vp1 vp2 vp3 vp4 vq0 vq1 vq2 vq3 vq4
          refine (specRegimeOk r _).mono ?_
          rw [Hb2.out]
          rintro e w2 ⟨rfl, hb2⟩
          have B2 := Lib.hid (B1.out.trans (hb2.mono B1.out.size))
          have Kd_2 := Lib.hid (Kd_1.out.below hb2)
          have Kr_2 := Lib.hid (Kr_1.out.below hb2)
          have Kp_2 := Lib.hid (Kp_1.out.below hb2)
          have Kq_2 := Lib.hid (Kq_1.out.below hb2)
          clear hb2
          have vd0 : w2.cell? ⟨w.heap.size, 0, none⟩ = some (.slice Ad0 d.points.length cd0) := Kd_2.out.cell 0
          have vd1 : w2.cell? ⟨w.heap.size, 1, none⟩ = some (.slice (some ⟨g', o', none⟩) d.segs.length cd1) := Kd_2.out.cell 1
          have vr0 : w2.cell? ⟨w.heap.size + 1, 0, none⟩ = some (.int .i64 r.gap) := Kr_2.out.cell 0
          have vr1 : w2.cell? ⟨w.heap.size + 1, 1, none⟩ = some (.bool r.noMeet) := Kr_2.out.cell 1
          have vp0 : w2.cell? ⟨w.heap.size + 2, 0, none⟩ = some (.int .i64 p.ship) := Kp_2.out.cell 0
          have vp1 : w2.cell? ⟨w.heap.size + 2, 1, none⟩ = some (.int .i64 p.segment) := Kp_2.out.cell 1
          have vp2 : w2.cell? ⟨w.heap.size + 2, 2, none⟩ = some (.bool p.toward) := Kp_2.out.cell 2
          have vp3 : w2.cell? ⟨w.heap.size + 2, 3, none⟩ = some (.int .i64 p.start) := Kp_2.out.cell 3
          have vp4 : w2.cell? ⟨w.heap.size + 2, 4, none⟩ = some (.int .i64 p.stop) := Kp_2.out.cell 4
          have vq0 : w2.cell? ⟨w.heap.size + 3, 0, none⟩ = some (.int .i64 q.ship) := Kq_2.out.cell 0
          have vq1 : w2.cell? ⟨w.heap.size + 3, 1, none⟩ = some (.int .i64 q.segment) := Kq_2.out.cell 1
          have vq2 : w2.cell? ⟨w.heap.size + 3, 2, none⟩ = some (.bool q.toward) := Kq_2.out.cell 2
          have vq3 : w2.cell? ⟨w.heap.size + 3, 3, none⟩ = some (.int .i64 q.start) := Kq_2.out.cell 3
          have vq4 : w2.cell? ⟨w.heap.size + 3, 4, none⟩ = some (.int .i64 q.stop) := Kq_2.out.cell 4
          go_wp2_with fail
          clear vd0 vd1 vr0 vr1 vp0 vp1 vp2 vp3 vp4 vq0 vq1 vq2 vq3 vq4
          refine (l01In_any _ _ _ _).mono ?_
          rw [Hb3.out]
          rintro e wz ⟨rfl, rfl⟩
          have vd0 : w2.cell? ⟨w.heap.size, 0, none⟩ = some (.slice Ad0 d.points.length cd0) := Kd_2.out.cell 0
          have vd1 : w2.cell? ⟨w.heap.size, 1, none⟩ = some (.slice (some ⟨g', o', none⟩) d.segs.length cd1) := Kd_2.out.cell 1
          have vr0 : w2.cell? ⟨w.heap.size + 1, 0, none⟩ = some (.int .i64 r.gap) := Kr_2.out.cell 0
          have vr1 : w2.cell? ⟨w.heap.size + 1, 1, none⟩ = some (.bool r.noMeet) := Kr_2.out.cell 1
          have vp0 : w2.cell? ⟨w.heap.size + 2, 0, none⟩ = some (.int .i64 p.ship) := Kp_2.out.cell 0
          have vp1 : w2.cell? ⟨w.heap.size + 2, 1, none⟩ = some (.int .i64 p.segment) := Kp_2.out.cell 1
          have vp2 : w2.cell? ⟨w.heap.size + 2, 2, none⟩ = some (.bool p.toward) := Kp_2.out.cell 2
          have vp3 : w2.cell? ⟨w.heap.size + 2, 3, none⟩ = some (.int .i64 p.start) := Kp_2.out.cell 3
          have vp4 : w2.cell? ⟨w.heap.size + 2, 4, none⟩ = some (.int .i64 p.stop) := Kp_2.out.cell 4
          have vq0 : w2.cell? ⟨w.heap.size + 3, 0, none⟩ = some (.int .i64 q.ship) := Kq_2.out.cell 0
          have vq1 : w2.cell? ⟨w.heap.size + 3, 1, none⟩ = some (.int .i64 q.segment) := Kq_2.out.cell 1
          have vq2 : w2.cell? ⟨w.heap.size + 3, 2, none⟩ = some (.bool q.toward) := Kq_2.out.cell 2
          have vq3 : w2.cell? ⟨w.heap.size + 3, 3, none⟩ = some (.int .i64 q.start) := Kq_2.out.cell 3
          have vq4 : w2.cell? ⟨w.heap.size + 3, 4, none⟩ = some (.int .i64 q.stop) := Kq_2.out.cell 4
          go_wp2_with fail
          clear vd0 vd1 vr0 vr1 vp0 vp1 vp2 vp3 vp4 vq0 vq1 vq2 vq3 vq4
          refine (specOverlaps p q _).mono ?_
          rw [HOV.out]
          rintro e w3 ⟨rfl, hb3⟩
          have B3 := Lib.hid (B2.out.trans (hb3.mono B2.out.size))
          have Kd_3 := Lib.hid (Kd_2.out.below hb3)
          have Kr_3 := Lib.hid (Kr_2.out.below hb3)
          have Kp_3 := Lib.hid (Kp_2.out.below hb3)
          have Kq_3 := Lib.hid (Kq_2.out.below hb3)
          clear hb3
          have vd0 : w3.cell? ⟨w.heap.size, 0, none⟩ = some (.slice Ad0 d.points.length cd0) := Kd_3.out.cell 0
          have vd1 : w3.cell? ⟨w.heap.size, 1, none⟩ = some (.slice (some ⟨g', o', none⟩) d.segs.length cd1) := Kd_3.out.cell 1
          have vr0 : w3.cell? ⟨w.heap.size + 1, 0, none⟩ = some (.int .i64 r.gap) := Kr_3.out.cell 0
          have vr1 : w3.cell? ⟨w.heap.size + 1, 1, none⟩ = some (.bool r.noMeet) := Kr_3.out.cell 1
          have vp0 : w3.cell? ⟨w.heap.size + 2, 0, none⟩ = some (.int .i64 p.ship) := Kp_3.out.cell 0
          have vp1 : w3.cell? ⟨w.heap.size + 2, 1, none⟩ = some (.int .i64 p.segment) := Kp_3.out.cell 1
          have vp2 : w3.cell? ⟨w.heap.size + 2, 2, none⟩ = some (.bool p.toward) := Kp_3.out.cell 2
          have vp3 : w3.cell? ⟨w.heap.size + 2, 3, none⟩ = some (.int .i64 p.start) := Kp_3.out.cell 3
          have vp4 : w3.cell? ⟨w.heap.size + 2, 4, none⟩ = some (.int .i64 p.stop) := Kp_3.out.cell 4
          have vq0 : w3.cell? ⟨w.heap.size + 3, 0, none⟩ = some (.int .i64 q.ship) := Kq_3.out.cell 0
          have vq1 : w3.cell? ⟨w.heap.size + 3, 1, none⟩ = some (.int .i64 q.segment) := Kq_3.out.cell 1
          have vq2 : w3.cell? ⟨w.heap.size + 3, 2, none⟩ = some (.bool q.toward) := Kq_3.out.cell 2
          have vq3 : w3.cell? ⟨w.heap.size + 3, 3, none⟩ = some (.int .i64 q.start) := Kq_3.out.cell 3
          have vq4 : w3.cell? ⟨w.heap.size + 3, 4, none⟩ = some (.int .i64 q.stop) := Kq_3.out.cell 4
          rw [HK.out] at vp1 hsn'
          rw [HNM.out] at vr1
          have y4 := cell_onV Y4.out B3.out
          rw [HMT.out] at y4
          go_wp2
          go_ret
          exact ⟨ret_int E.out.symm, B3.out⟩
      | false =>
        cases mt with
        | false =>
          have E := Lib.hid (E2.out.trans (if_pos (.inr rfl)))
          go_enter Try.func27, Try.ntmps27
          have vd0 : W0.cell? ⟨w.heap.size, 0, none⟩ = some (.slice Ad0 d.points.length cd0) := Kd.out.cell 0
          have vd1 : W0.cell? ⟨w.heap.size, 1, none⟩ = some (.slice (some ⟨g', o', none⟩) d.segs.length cd1) := Kd.out.cell 1
          have vr0 : W0.cell? ⟨w.heap.size + 1, 0, none⟩ = some (.int .i64 r.gap) := Kr.out.cell 0
          have vr1 : W0.cell? ⟨w.heap.size + 1, 1, none⟩ = some (.bool r.noMeet) := Kr.out.cell 1
          have vp0 : W0.cell? ⟨w.heap.size + 2, 0, none⟩ = some (.int .i64 p.ship) := Kp.out.cell 0
          have vp1 : W0.cell? ⟨w.heap.size + 2, 1, none⟩ = some (.int .i64 p.segment) := Kp.out.cell 1
          have vp2 : W0.cell? ⟨w.heap.size + 2, 2, none⟩ = some (.bool p.toward) := Kp.out.cell 2
          have vp3 : W0.cell? ⟨w.heap.size + 2, 3, none⟩ = some (.int .i64 p.start) := Kp.out.cell 3
          have vp4 : W0.cell? ⟨w.heap.size + 2, 4, none⟩ = some (.int .i64 p.stop) := Kp.out.cell 4
          have vq0 : W0.cell? ⟨w.heap.size + 3, 0, none⟩ = some (.int .i64 q.ship) := Kq.out.cell 0
          have vq1 : W0.cell? ⟨w.heap.size + 3, 1, none⟩ = some (.int .i64 q.segment) := Kq.out.cell 1
          have vq2 : W0.cell? ⟨w.heap.size + 3, 2, none⟩ = some (.bool q.toward) := Kq.out.cell 2
          have vq3 : W0.cell? ⟨w.heap.size + 3, 3, none⟩ = some (.int .i64 q.start) := Kq.out.cell 3
          have vq4 : W0.cell? ⟨w.heap.size + 3, 4, none⟩ = some (.int .i64 q.stop) := Kq.out.cell 4
          go_wp2_with fail
          rw [← HW0.out]
          clear vd0 vd1 vr0 vr1 vp0 vp1 vp2 vp3 vp4 vq0 vq1 vq2 vq3 vq4
          refine (specChartOk _ _ d _ (Rd.out.below B.out) Nd.out).mono ?_
          rw [Hb1.out]
          rintro e w1 ⟨rfl, hb1⟩
          have B1 := Lib.hid (B.out.trans (hb1.mono B.out.size))
          have Kd_1 := Lib.hid (Kd.out.below hb1)
          have Kr_1 := Lib.hid (Kr.out.below hb1)
          have Kp_1 := Lib.hid (Kp.out.below hb1)
          have Kq_1 := Lib.hid (Kq.out.below hb1)
          clear hb1
          have vd0 : w1.cell? ⟨w.heap.size, 0, none⟩ = some (.slice Ad0 d.points.length cd0) := Kd_1.out.cell 0
          have vd1 : w1.cell? ⟨w.heap.size, 1, none⟩ = some (.slice (some ⟨g', o', none⟩) d.segs.length cd1) := Kd_1.out.cell 1
          have vr0 : w1.cell? ⟨w.heap.size + 1, 0, none⟩ = some (.int .i64 r.gap) := Kr_1.out.cell 0
          have vr1 : w1.cell? ⟨w.heap.size + 1, 1, none⟩ = some (.bool r.noMeet) := Kr_1.out.cell 1
          have vp0 : w1.cell? ⟨w.heap.size + 2, 0, none⟩ = some (.int .i64 p.ship) := Kp_1.out.cell 0
          have vp1 : w1.cell? ⟨w.heap.size + 2, 1, none⟩ = some (.int .i64 p.segment) := Kp_1.out.cell 1
          have vp2 : w1.cell? ⟨w.heap.size + 2, 2, none⟩ = some (.bool p.toward) := Kp_1.out.cell 2
          have vp3 : w1.cell? ⟨w.heap.size + 2, 3, none⟩ = some (.int .i64 p.start) := Kp_1.out.cell 3
          have vp4 : w1.cell? ⟨w.heap.size + 2, 4, none⟩ = some (.int .i64 p.stop) := Kp_1.out.cell 4
          have vq0 : w1.cell? ⟨w.heap.size + 3, 0, none⟩ = some (.int .i64 q.ship) := Kq_1.out.cell 0
          have vq1 : w1.cell? ⟨w.heap.size + 3, 1, none⟩ = some (.int .i64 q.segment) := Kq_1.out.cell 1
          have vq2 : w1.cell? ⟨w.heap.size + 3, 2, none⟩ = some (.bool q.toward) := Kq_1.out.cell 2
          have vq3 : w1.cell? ⟨w.heap.size + 3, 3, none⟩ = some (.int .i64 q.start) := Kq_1.out.cell 3
          have vq4 : w1.cell? ⟨w.heap.size + 3, 4, none⟩ = some (.int .i64 q.stop) := Kq_1.out.cell 4
          go_wp2_with fail
          clear vd0 vd1 vr0 vr1 vp0 vp1 vp2 vp3 vp4 vq0 vq1 vq2 vq3 vq4
          refine (specRegimeOk r _).mono ?_
          rw [Hb2.out]
          rintro e w2 ⟨rfl, hb2⟩
          have B2 := Lib.hid (B1.out.trans (hb2.mono B1.out.size))
          have Kd_2 := Lib.hid (Kd_1.out.below hb2)
          have Kr_2 := Lib.hid (Kr_1.out.below hb2)
          have Kp_2 := Lib.hid (Kp_1.out.below hb2)
          have Kq_2 := Lib.hid (Kq_1.out.below hb2)
          clear hb2
          have vd0 : w2.cell? ⟨w.heap.size, 0, none⟩ = some (.slice Ad0 d.points.length cd0) := Kd_2.out.cell 0
          have vd1 : w2.cell? ⟨w.heap.size, 1, none⟩ = some (.slice (some ⟨g', o', none⟩) d.segs.length cd1) := Kd_2.out.cell 1
          have vr0 : w2.cell? ⟨w.heap.size + 1, 0, none⟩ = some (.int .i64 r.gap) := Kr_2.out.cell 0
          have vr1 : w2.cell? ⟨w.heap.size + 1, 1, none⟩ = some (.bool r.noMeet) := Kr_2.out.cell 1
          have vp0 : w2.cell? ⟨w.heap.size + 2, 0, none⟩ = some (.int .i64 p.ship) := Kp_2.out.cell 0
          have vp1 : w2.cell? ⟨w.heap.size + 2, 1, none⟩ = some (.int .i64 p.segment) := Kp_2.out.cell 1
          have vp2 : w2.cell? ⟨w.heap.size + 2, 2, none⟩ = some (.bool p.toward) := Kp_2.out.cell 2
          have vp3 : w2.cell? ⟨w.heap.size + 2, 3, none⟩ = some (.int .i64 p.start) := Kp_2.out.cell 3
          have vp4 : w2.cell? ⟨w.heap.size + 2, 4, none⟩ = some (.int .i64 p.stop) := Kp_2.out.cell 4
          have vq0 : w2.cell? ⟨w.heap.size + 3, 0, none⟩ = some (.int .i64 q.ship) := Kq_2.out.cell 0
          have vq1 : w2.cell? ⟨w.heap.size + 3, 1, none⟩ = some (.int .i64 q.segment) := Kq_2.out.cell 1
          have vq2 : w2.cell? ⟨w.heap.size + 3, 2, none⟩ = some (.bool q.toward) := Kq_2.out.cell 2
          have vq3 : w2.cell? ⟨w.heap.size + 3, 3, none⟩ = some (.int .i64 q.start) := Kq_2.out.cell 3
          have vq4 : w2.cell? ⟨w.heap.size + 3, 4, none⟩ = some (.int .i64 q.stop) := Kq_2.out.cell 4
          go_wp2_with fail
          clear vd0 vd1 vr0 vr1 vp0 vp1 vp2 vp3 vp4 vq0 vq1 vq2 vq3 vq4
          refine (l01In_any _ _ _ _).mono ?_
          rw [Hb3.out]
          rintro e wz ⟨rfl, rfl⟩
          have vd0 : w2.cell? ⟨w.heap.size, 0, none⟩ = some (.slice Ad0 d.points.length cd0) := Kd_2.out.cell 0
          have vd1 : w2.cell? ⟨w.heap.size, 1, none⟩ = some (.slice (some ⟨g', o', none⟩) d.segs.length cd1) := Kd_2.out.cell 1
          have vr0 : w2.cell? ⟨w.heap.size + 1, 0, none⟩ = some (.int .i64 r.gap) := Kr_2.out.cell 0
          have vr1 : w2.cell? ⟨w.heap.size + 1, 1, none⟩ = some (.bool r.noMeet) := Kr_2.out.cell 1
          have vp0 : w2.cell? ⟨w.heap.size + 2, 0, none⟩ = some (.int .i64 p.ship) := Kp_2.out.cell 0
          have vp1 : w2.cell? ⟨w.heap.size + 2, 1, none⟩ = some (.int .i64 p.segment) := Kp_2.out.cell 1
          have vp2 : w2.cell? ⟨w.heap.size + 2, 2, none⟩ = some (.bool p.toward) := Kp_2.out.cell 2
          have vp3 : w2.cell? ⟨w.heap.size + 2, 3, none⟩ = some (.int .i64 p.start) := Kp_2.out.cell 3
          have vp4 : w2.cell? ⟨w.heap.size + 2, 4, none⟩ = some (.int .i64 p.stop) := Kp_2.out.cell 4
          have vq0 : w2.cell? ⟨w.heap.size + 3, 0, none⟩ = some (.int .i64 q.ship) := Kq_2.out.cell 0
          have vq1 : w2.cell? ⟨w.heap.size + 3, 1, none⟩ = some (.int .i64 q.segment) := Kq_2.out.cell 1
          have vq2 : w2.cell? ⟨w.heap.size + 3, 2, none⟩ = some (.bool q.toward) := Kq_2.out.cell 2
          have vq3 : w2.cell? ⟨w.heap.size + 3, 3, none⟩ = some (.int .i64 q.start) := Kq_2.out.cell 3
          have vq4 : w2.cell? ⟨w.heap.size + 3, 4, none⟩ = some (.int .i64 q.stop) := Kq_2.out.cell 4
          go_wp2_with fail
          clear vd0 vd1 vr0 vr1 vp0 vp1 vp2 vp3 vp4 vq0 vq1 vq2 vq3 vq4
          refine (specOverlaps p q _).mono ?_
          rw [HOV.out]
          rintro e w3 ⟨rfl, hb3⟩
          have B3 := Lib.hid (B2.out.trans (hb3.mono B2.out.size))
          have Kd_3 := Lib.hid (Kd_2.out.below hb3)
          have Kr_3 := Lib.hid (Kr_2.out.below hb3)
          have Kp_3 := Lib.hid (Kp_2.out.below hb3)
          have Kq_3 := Lib.hid (Kq_2.out.below hb3)
          clear hb3
          have vd0 : w3.cell? ⟨w.heap.size, 0, none⟩ = some (.slice Ad0 d.points.length cd0) := Kd_3.out.cell 0
          have vd1 : w3.cell? ⟨w.heap.size, 1, none⟩ = some (.slice (some ⟨g', o', none⟩) d.segs.length cd1) := Kd_3.out.cell 1
          have vr0 : w3.cell? ⟨w.heap.size + 1, 0, none⟩ = some (.int .i64 r.gap) := Kr_3.out.cell 0
          have vr1 : w3.cell? ⟨w.heap.size + 1, 1, none⟩ = some (.bool r.noMeet) := Kr_3.out.cell 1
          have vp0 : w3.cell? ⟨w.heap.size + 2, 0, none⟩ = some (.int .i64 p.ship) := Kp_3.out.cell 0
          have vp1 : w3.cell? ⟨w.heap.size + 2, 1, none⟩ = some (.int .i64 p.segment) := Kp_3.out.cell 1
          have vp2 : w3.cell? ⟨w.heap.size + 2, 2, none⟩ = some (.bool p.toward) := Kp_3.out.cell 2
          have vp3 : w3.cell? ⟨w.heap.size + 2, 3, none⟩ = some (.int .i64 p.start) := Kp_3.out.cell 3
          have vp4 : w3.cell? ⟨w.heap.size + 2, 4, none⟩ = some (.int .i64 p.stop) := Kp_3.out.cell 4
          have vq0 : w3.cell? ⟨w.heap.size + 3, 0, none⟩ = some (.int .i64 q.ship) := Kq_3.out.cell 0
          have vq1 : w3.cell? ⟨w.heap.size + 3, 1, none⟩ = some (.int .i64 q.segment) := Kq_3.out.cell 1
          have vq2 : w3.cell? ⟨w.heap.size + 3, 2, none⟩ = some (.bool q.toward) := Kq_3.out.cell 2
          have vq3 : w3.cell? ⟨w.heap.size + 3, 3, none⟩ = some (.int .i64 q.start) := Kq_3.out.cell 3
          have vq4 : w3.cell? ⟨w.heap.size + 3, 4, none⟩ = some (.int .i64 q.stop) := Kq_3.out.cell 4
          rw [HK.out] at vp1 hsn'
          rw [HNM.out] at vr1
          have y4 := cell_onV Y4.out B3.out
          rw [HMT.out] at y4
          go_wp2
          go_ret
          exact ⟨ret_int E.out.symm, B3.out⟩
        | true =>
          have E := Lib.hid (E2.out.trans (if_neg (by simp)))
          go_enter Try.func27, Try.ntmps27
          have vd0 : W0.cell? ⟨w.heap.size, 0, none⟩ = some (.slice Ad0 d.points.length cd0) := Kd.out.cell 0
          have vd1 : W0.cell? ⟨w.heap.size, 1, none⟩ = some (.slice (some ⟨g', o', none⟩) d.segs.length cd1) := Kd.out.cell 1
          have vr0 : W0.cell? ⟨w.heap.size + 1, 0, none⟩ = some (.int .i64 r.gap) := Kr.out.cell 0
          have vr1 : W0.cell? ⟨w.heap.size + 1, 1, none⟩ = some (.bool r.noMeet) := Kr.out.cell 1
          have vp0 : W0.cell? ⟨w.heap.size + 2, 0, none⟩ = some (.int .i64 p.ship) := Kp.out.cell 0
          have vp1 : W0.cell? ⟨w.heap.size + 2, 1, none⟩ = some (.int .i64 p.segment) := Kp.out.cell 1
          have vp2 : W0.cell? ⟨w.heap.size + 2, 2, none⟩ = some (.bool p.toward) := Kp.out.cell 2
          have vp3 : W0.cell? ⟨w.heap.size + 2, 3, none⟩ = some (.int .i64 p.start) := Kp.out.cell 3
          have vp4 : W0.cell? ⟨w.heap.size + 2, 4, none⟩ = some (.int .i64 p.stop) := Kp.out.cell 4
          have vq0 : W0.cell? ⟨w.heap.size + 3, 0, none⟩ = some (.int .i64 q.ship) := Kq.out.cell 0
          have vq1 : W0.cell? ⟨w.heap.size + 3, 1, none⟩ = some (.int .i64 q.segment) := Kq.out.cell 1
          have vq2 : W0.cell? ⟨w.heap.size + 3, 2, none⟩ = some (.bool q.toward) := Kq.out.cell 2
          have vq3 : W0.cell? ⟨w.heap.size + 3, 3, none⟩ = some (.int .i64 q.start) := Kq.out.cell 3
          have vq4 : W0.cell? ⟨w.heap.size + 3, 4, none⟩ = some (.int .i64 q.stop) := Kq.out.cell 4
          go_wp2_with fail
          rw [← HW0.out]
          clear vd0 vd1 vr0 vr1 vp0 vp1 vp2 vp3 vp4 vq0 vq1 vq2 vq3 vq4
          refine (specChartOk _ _ d _ (Rd.out.below B.out) Nd.out).mono ?_
          rw [Hb1.out]
          rintro e w1 ⟨rfl, hb1⟩
          have B1 := Lib.hid (B.out.trans (hb1.mono B.out.size))
          have Kd_1 := Lib.hid (Kd.out.below hb1)
          have Kr_1 := Lib.hid (Kr.out.below hb1)
          have Kp_1 := Lib.hid (Kp.out.below hb1)
          have Kq_1 := Lib.hid (Kq.out.below hb1)
          clear hb1
          have vd0 : w1.cell? ⟨w.heap.size, 0, none⟩ = some (.slice Ad0 d.points.length cd0) := Kd_1.out.cell 0
          have vd1 : w1.cell? ⟨w.heap.size, 1, none⟩ = some (.slice (some ⟨g', o', none⟩) d.segs.length cd1) := Kd_1.out.cell 1
          have vr0 : w1.cell? ⟨w.heap.size + 1, 0, none⟩ = some (.int .i64 r.gap) := Kr_1.out.cell 0
          have vr1 : w1.cell? ⟨w.heap.size + 1, 1, none⟩ = some (.bool r.noMeet) := Kr_1.out.cell 1
          have vp0 : w1.cell? ⟨w.heap.size + 2, 0, none⟩ = some (.int .i64 p.ship) := Kp_1.out.cell 0
          have vp1 : w1.cell? ⟨w.heap.size + 2, 1, none⟩ = some (.int .i64 p.segment) := Kp_1.out.cell 1
          have vp2 : w1.cell? ⟨w.heap.size + 2, 2, none⟩ = some (.bool p.toward) := Kp_1.out.cell 2
          have vp3 : w1.cell? ⟨w.heap.size + 2, 3, none⟩ = some (.int .i64 p.start) := Kp_1.out.cell 3
          have vp4 : w1.cell? ⟨w.heap.size + 2, 4, none⟩ = some (.int .i64 p.stop) := Kp_1.out.cell 4
          have vq0 : w1.cell? ⟨w.heap.size + 3, 0, none⟩ = some (.int .i64 q.ship) := Kq_1.out.cell 0
          have vq1 : w1.cell? ⟨w.heap.size + 3, 1, none⟩ = some (.int .i64 q.segment) := Kq_1.out.cell 1
          have vq2 : w1.cell? ⟨w.heap.size + 3, 2, none⟩ = some (.bool q.toward) := Kq_1.out.cell 2
          have vq3 : w1.cell? ⟨w.heap.size + 3, 3, none⟩ = some (.int .i64 q.start) := Kq_1.out.cell 3
          have vq4 : w1.cell? ⟨w.heap.size + 3, 4, none⟩ = some (.int .i64 q.stop) := Kq_1.out.cell 4
          go_wp2_with fail
          clear vd0 vd1 vr0 vr1 vp0 vp1 vp2 vp3 vp4 vq0 vq1 vq2 vq3 vq4
          refine (specRegimeOk r _).mono ?_
          rw [Hb2.out]
          rintro e w2 ⟨rfl, hb2⟩
          have B2 := Lib.hid (B1.out.trans (hb2.mono B1.out.size))
          have Kd_2 := Lib.hid (Kd_1.out.below hb2)
          have Kr_2 := Lib.hid (Kr_1.out.below hb2)
          have Kp_2 := Lib.hid (Kp_1.out.below hb2)
          have Kq_2 := Lib.hid (Kq_1.out.below hb2)
          clear hb2
          have vd0 : w2.cell? ⟨w.heap.size, 0, none⟩ = some (.slice Ad0 d.points.length cd0) := Kd_2.out.cell 0
          have vd1 : w2.cell? ⟨w.heap.size, 1, none⟩ = some (.slice (some ⟨g', o', none⟩) d.segs.length cd1) := Kd_2.out.cell 1
          have vr0 : w2.cell? ⟨w.heap.size + 1, 0, none⟩ = some (.int .i64 r.gap) := Kr_2.out.cell 0
          have vr1 : w2.cell? ⟨w.heap.size + 1, 1, none⟩ = some (.bool r.noMeet) := Kr_2.out.cell 1
          have vp0 : w2.cell? ⟨w.heap.size + 2, 0, none⟩ = some (.int .i64 p.ship) := Kp_2.out.cell 0
          have vp1 : w2.cell? ⟨w.heap.size + 2, 1, none⟩ = some (.int .i64 p.segment) := Kp_2.out.cell 1
          have vp2 : w2.cell? ⟨w.heap.size + 2, 2, none⟩ = some (.bool p.toward) := Kp_2.out.cell 2
          have vp3 : w2.cell? ⟨w.heap.size + 2, 3, none⟩ = some (.int .i64 p.start) := Kp_2.out.cell 3
          have vp4 : w2.cell? ⟨w.heap.size + 2, 4, none⟩ = some (.int .i64 p.stop) := Kp_2.out.cell 4
          have vq0 : w2.cell? ⟨w.heap.size + 3, 0, none⟩ = some (.int .i64 q.ship) := Kq_2.out.cell 0
          have vq1 : w2.cell? ⟨w.heap.size + 3, 1, none⟩ = some (.int .i64 q.segment) := Kq_2.out.cell 1
          have vq2 : w2.cell? ⟨w.heap.size + 3, 2, none⟩ = some (.bool q.toward) := Kq_2.out.cell 2
          have vq3 : w2.cell? ⟨w.heap.size + 3, 3, none⟩ = some (.int .i64 q.start) := Kq_2.out.cell 3
          have vq4 : w2.cell? ⟨w.heap.size + 3, 4, none⟩ = some (.int .i64 q.stop) := Kq_2.out.cell 4
          go_wp2_with fail
          clear vd0 vd1 vr0 vr1 vp0 vp1 vp2 vp3 vp4 vq0 vq1 vq2 vq3 vq4
          refine (l01In_any _ _ _ _).mono ?_
          rw [Hb3.out]
          rintro e wz ⟨rfl, rfl⟩
          have vd0 : w2.cell? ⟨w.heap.size, 0, none⟩ = some (.slice Ad0 d.points.length cd0) := Kd_2.out.cell 0
          have vd1 : w2.cell? ⟨w.heap.size, 1, none⟩ = some (.slice (some ⟨g', o', none⟩) d.segs.length cd1) := Kd_2.out.cell 1
          have vr0 : w2.cell? ⟨w.heap.size + 1, 0, none⟩ = some (.int .i64 r.gap) := Kr_2.out.cell 0
          have vr1 : w2.cell? ⟨w.heap.size + 1, 1, none⟩ = some (.bool r.noMeet) := Kr_2.out.cell 1
          have vp0 : w2.cell? ⟨w.heap.size + 2, 0, none⟩ = some (.int .i64 p.ship) := Kp_2.out.cell 0
          have vp1 : w2.cell? ⟨w.heap.size + 2, 1, none⟩ = some (.int .i64 p.segment) := Kp_2.out.cell 1
          have vp2 : w2.cell? ⟨w.heap.size + 2, 2, none⟩ = some (.bool p.toward) := Kp_2.out.cell 2
          have vp3 : w2.cell? ⟨w.heap.size + 2, 3, none⟩ = some (.int .i64 p.start) := Kp_2.out.cell 3
          have vp4 : w2.cell? ⟨w.heap.size + 2, 4, none⟩ = some (.int .i64 p.stop) := Kp_2.out.cell 4
          have vq0 : w2.cell? ⟨w.heap.size + 3, 0, none⟩ = some (.int .i64 q.ship) := Kq_2.out.cell 0
          have vq1 : w2.cell? ⟨w.heap.size + 3, 1, none⟩ = some (.int .i64 q.segment) := Kq_2.out.cell 1
          have vq2 : w2.cell? ⟨w.heap.size + 3, 2, none⟩ = some (.bool q.toward) := Kq_2.out.cell 2
          have vq3 : w2.cell? ⟨w.heap.size + 3, 3, none⟩ = some (.int .i64 q.start) := Kq_2.out.cell 3
          have vq4 : w2.cell? ⟨w.heap.size + 3, 4, none⟩ = some (.int .i64 q.stop) := Kq_2.out.cell 4
          go_wp2_with fail
          clear vd0 vd1 vr0 vr1 vp0 vp1 vp2 vp3 vp4 vq0 vq1 vq2 vq3 vq4
          refine (specOverlaps p q _).mono ?_
          rw [HOV.out]
          rintro e w3 ⟨rfl, hb3⟩
          have B3 := Lib.hid (B2.out.trans (hb3.mono B2.out.size))
          have Kd_3 := Lib.hid (Kd_2.out.below hb3)
          have Kr_3 := Lib.hid (Kr_2.out.below hb3)
          have Kp_3 := Lib.hid (Kp_2.out.below hb3)
          have Kq_3 := Lib.hid (Kq_2.out.below hb3)
          clear hb3
          have vd0 : w3.cell? ⟨w.heap.size, 0, none⟩ = some (.slice Ad0 d.points.length cd0) := Kd_3.out.cell 0
          have vd1 : w3.cell? ⟨w.heap.size, 1, none⟩ = some (.slice (some ⟨g', o', none⟩) d.segs.length cd1) := Kd_3.out.cell 1
          have vr0 : w3.cell? ⟨w.heap.size + 1, 0, none⟩ = some (.int .i64 r.gap) := Kr_3.out.cell 0
          have vr1 : w3.cell? ⟨w.heap.size + 1, 1, none⟩ = some (.bool r.noMeet) := Kr_3.out.cell 1
          have vp0 : w3.cell? ⟨w.heap.size + 2, 0, none⟩ = some (.int .i64 p.ship) := Kp_3.out.cell 0
          have vp1 : w3.cell? ⟨w.heap.size + 2, 1, none⟩ = some (.int .i64 p.segment) := Kp_3.out.cell 1
          have vp2 : w3.cell? ⟨w.heap.size + 2, 2, none⟩ = some (.bool p.toward) := Kp_3.out.cell 2
          have vp3 : w3.cell? ⟨w.heap.size + 2, 3, none⟩ = some (.int .i64 p.start) := Kp_3.out.cell 3
          have vp4 : w3.cell? ⟨w.heap.size + 2, 4, none⟩ = some (.int .i64 p.stop) := Kp_3.out.cell 4
          have vq0 : w3.cell? ⟨w.heap.size + 3, 0, none⟩ = some (.int .i64 q.ship) := Kq_3.out.cell 0
          have vq1 : w3.cell? ⟨w.heap.size + 3, 1, none⟩ = some (.int .i64 q.segment) := Kq_3.out.cell 1
          have vq2 : w3.cell? ⟨w.heap.size + 3, 2, none⟩ = some (.bool q.toward) := Kq_3.out.cell 2
          have vq3 : w3.cell? ⟨w.heap.size + 3, 3, none⟩ = some (.int .i64 q.start) := Kq_3.out.cell 3
          have vq4 : w3.cell? ⟨w.heap.size + 3, 4, none⟩ = some (.int .i64 q.stop) := Kq_3.out.cell 4
          rw [HK.out] at vp1 hsn'
          rw [HNM.out] at vr1
          have y4 := cell_onV Y4.out B3.out
          rw [HMT.out] at y4
          go_wp2
          go_ret
          exact ⟨ret_int E.out.symm, B3.out⟩
  have ht : (p.toward == q.toward) = true := by simpa using h6
  have E1 := Lib.hid (E0.out.trans (confAt_way h5 h6))
  clear h5 h6 hx i0 il E0
  have hgap : r.gap ≤ 9223372036854775807 := by have := of_decide_eq_true (show decide (0 ≤ r.gap ∧ r.gap ≤ 60) = true from Hb2.out); omega
  have HG := Lib.hid hgap
  clear hgap
  obtain ⟨n1, hn1⟩ : ∃ b, nearB p.start q.start r.gap = b := ⟨_, rfl⟩
  obtain ⟨n2, hn2⟩ : ∃ b, nearB p.stop q.stop r.gap = b := ⟨_, rfl⟩
  have HN1 := Lib.hid hn1
  have HN2 := Lib.hid hn2
  rw [hn1, hn2] at E1
  clear hn1 hn2
  cases n1 with
  | true =>
    have E := Lib.hid (E1.out.trans (if_pos (.inl rfl)))
    go_enter Try.func27, Try.ntmps27
    have vd0 : W0.cell? ⟨w.heap.size, 0, none⟩ = some (.slice Ad0 d.points.length cd0) := Kd.out.cell 0
    have vd1 : W0.cell? ⟨w.heap.size, 1, none⟩ = some (.slice Ad1 d.segs.length cd1) := Kd.out.cell 1
    have vr0 : W0.cell? ⟨w.heap.size + 1, 0, none⟩ = some (.int .i64 r.gap) := Kr.out.cell 0
    have vr1 : W0.cell? ⟨w.heap.size + 1, 1, none⟩ = some (.bool r.noMeet) := Kr.out.cell 1
    have vp0 : W0.cell? ⟨w.heap.size + 2, 0, none⟩ = some (.int .i64 p.ship) := Kp.out.cell 0
    have vp1 : W0.cell? ⟨w.heap.size + 2, 1, none⟩ = some (.int .i64 p.segment) := Kp.out.cell 1
    have vp2 : W0.cell? ⟨w.heap.size + 2, 2, none⟩ = some (.bool p.toward) := Kp.out.cell 2
    have vp3 : W0.cell? ⟨w.heap.size + 2, 3, none⟩ = some (.int .i64 p.start) := Kp.out.cell 3
    have vp4 : W0.cell? ⟨w.heap.size + 2, 4, none⟩ = some (.int .i64 p.stop) := Kp.out.cell 4
    have vq0 : W0.cell? ⟨w.heap.size + 3, 0, none⟩ = some (.int .i64 q.ship) := Kq.out.cell 0
    have vq1 : W0.cell? ⟨w.heap.size + 3, 1, none⟩ = some (.int .i64 q.segment) := Kq.out.cell 1
    have vq2 : W0.cell? ⟨w.heap.size + 3, 2, none⟩ = some (.bool q.toward) := Kq.out.cell 2
    have vq3 : W0.cell? ⟨w.heap.size + 3, 3, none⟩ = some (.int .i64 q.start) := Kq.out.cell 3
    have vq4 : W0.cell? ⟨w.heap.size + 3, 4, none⟩ = some (.int .i64 q.stop) := Kq.out.cell 4
    go_wp2_with fail
    rw [← HW0.out]
    clear vd0 vd1 vr0 vr1 vp0 vp1 vp2 vp3 vp4 vq0 vq1 vq2 vq3 vq4
    refine (specChartOk _ _ d _ (Rd.out.below B.out) Nd.out).mono ?_
    rw [Hb1.out]
    rintro e w1 ⟨rfl, hb1⟩
    have B1 := Lib.hid (B.out.trans (hb1.mono B.out.size))
    have Kd_1 := Lib.hid (Kd.out.below hb1)
    have Kr_1 := Lib.hid (Kr.out.below hb1)
    have Kp_1 := Lib.hid (Kp.out.below hb1)
    have Kq_1 := Lib.hid (Kq.out.below hb1)
    clear hb1
    have vd0 : w1.cell? ⟨w.heap.size, 0, none⟩ = some (.slice Ad0 d.points.length cd0) := Kd_1.out.cell 0
    have vd1 : w1.cell? ⟨w.heap.size, 1, none⟩ = some (.slice Ad1 d.segs.length cd1) := Kd_1.out.cell 1
    have vr0 : w1.cell? ⟨w.heap.size + 1, 0, none⟩ = some (.int .i64 r.gap) := Kr_1.out.cell 0
    have vr1 : w1.cell? ⟨w.heap.size + 1, 1, none⟩ = some (.bool r.noMeet) := Kr_1.out.cell 1
    have vp0 : w1.cell? ⟨w.heap.size + 2, 0, none⟩ = some (.int .i64 p.ship) := Kp_1.out.cell 0
    have vp1 : w1.cell? ⟨w.heap.size + 2, 1, none⟩ = some (.int .i64 p.segment) := Kp_1.out.cell 1
    have vp2 : w1.cell? ⟨w.heap.size + 2, 2, none⟩ = some (.bool p.toward) := Kp_1.out.cell 2
    have vp3 : w1.cell? ⟨w.heap.size + 2, 3, none⟩ = some (.int .i64 p.start) := Kp_1.out.cell 3
    have vp4 : w1.cell? ⟨w.heap.size + 2, 4, none⟩ = some (.int .i64 p.stop) := Kp_1.out.cell 4
    have vq0 : w1.cell? ⟨w.heap.size + 3, 0, none⟩ = some (.int .i64 q.ship) := Kq_1.out.cell 0
    have vq1 : w1.cell? ⟨w.heap.size + 3, 1, none⟩ = some (.int .i64 q.segment) := Kq_1.out.cell 1
    have vq2 : w1.cell? ⟨w.heap.size + 3, 2, none⟩ = some (.bool q.toward) := Kq_1.out.cell 2
    have vq3 : w1.cell? ⟨w.heap.size + 3, 3, none⟩ = some (.int .i64 q.start) := Kq_1.out.cell 3
    have vq4 : w1.cell? ⟨w.heap.size + 3, 4, none⟩ = some (.int .i64 q.stop) := Kq_1.out.cell 4
    go_wp2_with fail
    clear vd0 vd1 vr0 vr1 vp0 vp1 vp2 vp3 vp4 vq0 vq1 vq2 vq3 vq4
    refine (specRegimeOk r _).mono ?_
    rw [Hb2.out]
    rintro e w2 ⟨rfl, hb2⟩
    have B2 := Lib.hid (B1.out.trans (hb2.mono B1.out.size))
    have Kd_2 := Lib.hid (Kd_1.out.below hb2)
    have Kr_2 := Lib.hid (Kr_1.out.below hb2)
    have Kp_2 := Lib.hid (Kp_1.out.below hb2)
    have Kq_2 := Lib.hid (Kq_1.out.below hb2)
    clear hb2
    have vd0 : w2.cell? ⟨w.heap.size, 0, none⟩ = some (.slice Ad0 d.points.length cd0) := Kd_2.out.cell 0
    have vd1 : w2.cell? ⟨w.heap.size, 1, none⟩ = some (.slice Ad1 d.segs.length cd1) := Kd_2.out.cell 1
    have vr0 : w2.cell? ⟨w.heap.size + 1, 0, none⟩ = some (.int .i64 r.gap) := Kr_2.out.cell 0
    have vr1 : w2.cell? ⟨w.heap.size + 1, 1, none⟩ = some (.bool r.noMeet) := Kr_2.out.cell 1
    have vp0 : w2.cell? ⟨w.heap.size + 2, 0, none⟩ = some (.int .i64 p.ship) := Kp_2.out.cell 0
    have vp1 : w2.cell? ⟨w.heap.size + 2, 1, none⟩ = some (.int .i64 p.segment) := Kp_2.out.cell 1
    have vp2 : w2.cell? ⟨w.heap.size + 2, 2, none⟩ = some (.bool p.toward) := Kp_2.out.cell 2
    have vp3 : w2.cell? ⟨w.heap.size + 2, 3, none⟩ = some (.int .i64 p.start) := Kp_2.out.cell 3
    have vp4 : w2.cell? ⟨w.heap.size + 2, 4, none⟩ = some (.int .i64 p.stop) := Kp_2.out.cell 4
    have vq0 : w2.cell? ⟨w.heap.size + 3, 0, none⟩ = some (.int .i64 q.ship) := Kq_2.out.cell 0
    have vq1 : w2.cell? ⟨w.heap.size + 3, 1, none⟩ = some (.int .i64 q.segment) := Kq_2.out.cell 1
    have vq2 : w2.cell? ⟨w.heap.size + 3, 2, none⟩ = some (.bool q.toward) := Kq_2.out.cell 2
    have vq3 : w2.cell? ⟨w.heap.size + 3, 3, none⟩ = some (.int .i64 q.start) := Kq_2.out.cell 3
    have vq4 : w2.cell? ⟨w.heap.size + 3, 4, none⟩ = some (.int .i64 q.stop) := Kq_2.out.cell 4
    go_wp2_with fail
    clear vd0 vd1 vr0 vr1 vp0 vp1 vp2 vp3 vp4 vq0 vq1 vq2 vq3 vq4
    refine (l01In_any _ _ _ _).mono ?_
    rw [Hb3.out]
    rintro e wz ⟨rfl, rfl⟩
    have vd0 : w2.cell? ⟨w.heap.size, 0, none⟩ = some (.slice Ad0 d.points.length cd0) := Kd_2.out.cell 0
    have vd1 : w2.cell? ⟨w.heap.size, 1, none⟩ = some (.slice Ad1 d.segs.length cd1) := Kd_2.out.cell 1
    have vr0 : w2.cell? ⟨w.heap.size + 1, 0, none⟩ = some (.int .i64 r.gap) := Kr_2.out.cell 0
    have vr1 : w2.cell? ⟨w.heap.size + 1, 1, none⟩ = some (.bool r.noMeet) := Kr_2.out.cell 1
    have vp0 : w2.cell? ⟨w.heap.size + 2, 0, none⟩ = some (.int .i64 p.ship) := Kp_2.out.cell 0
    have vp1 : w2.cell? ⟨w.heap.size + 2, 1, none⟩ = some (.int .i64 p.segment) := Kp_2.out.cell 1
    have vp2 : w2.cell? ⟨w.heap.size + 2, 2, none⟩ = some (.bool p.toward) := Kp_2.out.cell 2
    have vp3 : w2.cell? ⟨w.heap.size + 2, 3, none⟩ = some (.int .i64 p.start) := Kp_2.out.cell 3
    have vp4 : w2.cell? ⟨w.heap.size + 2, 4, none⟩ = some (.int .i64 p.stop) := Kp_2.out.cell 4
    have vq0 : w2.cell? ⟨w.heap.size + 3, 0, none⟩ = some (.int .i64 q.ship) := Kq_2.out.cell 0
    have vq1 : w2.cell? ⟨w.heap.size + 3, 1, none⟩ = some (.int .i64 q.segment) := Kq_2.out.cell 1
    have vq2 : w2.cell? ⟨w.heap.size + 3, 2, none⟩ = some (.bool q.toward) := Kq_2.out.cell 2
    have vq3 : w2.cell? ⟨w.heap.size + 3, 3, none⟩ = some (.int .i64 q.start) := Kq_2.out.cell 3
    have vq4 : w2.cell? ⟨w.heap.size + 3, 4, none⟩ = some (.int .i64 q.stop) := Kq_2.out.cell 4
    go_wp2_with fail
    clear vd0 vd1 vr0 vr1 vp0 vp1 vp2 vp3 vp4 vq0 vq1 vq2 vq3 vq4
    refine (l09Near_any p.start q.start r.gap _ Wf3.out Wg3.out HG.out).mono ?_
    rw [HN1.out]
    rintro e wz ⟨rfl, rfl⟩
    have vd0 : w2.cell? ⟨w.heap.size, 0, none⟩ = some (.slice Ad0 d.points.length cd0) := Kd_2.out.cell 0
    have vd1 : w2.cell? ⟨w.heap.size, 1, none⟩ = some (.slice Ad1 d.segs.length cd1) := Kd_2.out.cell 1
    have vr0 : w2.cell? ⟨w.heap.size + 1, 0, none⟩ = some (.int .i64 r.gap) := Kr_2.out.cell 0
    have vr1 : w2.cell? ⟨w.heap.size + 1, 1, none⟩ = some (.bool r.noMeet) := Kr_2.out.cell 1
    have vp0 : w2.cell? ⟨w.heap.size + 2, 0, none⟩ = some (.int .i64 p.ship) := Kp_2.out.cell 0
    have vp1 : w2.cell? ⟨w.heap.size + 2, 1, none⟩ = some (.int .i64 p.segment) := Kp_2.out.cell 1
    have vp2 : w2.cell? ⟨w.heap.size + 2, 2, none⟩ = some (.bool p.toward) := Kp_2.out.cell 2
    have vp3 : w2.cell? ⟨w.heap.size + 2, 3, none⟩ = some (.int .i64 p.start) := Kp_2.out.cell 3
    have vp4 : w2.cell? ⟨w.heap.size + 2, 4, none⟩ = some (.int .i64 p.stop) := Kp_2.out.cell 4
    have vq0 : w2.cell? ⟨w.heap.size + 3, 0, none⟩ = some (.int .i64 q.ship) := Kq_2.out.cell 0
    have vq1 : w2.cell? ⟨w.heap.size + 3, 1, none⟩ = some (.int .i64 q.segment) := Kq_2.out.cell 1
    have vq2 : w2.cell? ⟨w.heap.size + 3, 2, none⟩ = some (.bool q.toward) := Kq_2.out.cell 2
    have vq3 : w2.cell? ⟨w.heap.size + 3, 3, none⟩ = some (.int .i64 q.start) := Kq_2.out.cell 3
    have vq4 : w2.cell? ⟨w.heap.size + 3, 4, none⟩ = some (.int .i64 q.stop) := Kq_2.out.cell 4
    go_wp2
    go_ret
    exact ⟨ret_int E.out.symm, B2.out⟩
  | false =>
  cases n2 with
  | true =>
    have E := Lib.hid (E1.out.trans (if_pos (.inr rfl)))
    go_enter Try.func27, Try.ntmps27
    have vd0 : W0.cell? ⟨w.heap.size, 0, none⟩ = some (.slice Ad0 d.points.length cd0) := Kd.out.cell 0
    have vd1 : W0.cell? ⟨w.heap.size, 1, none⟩ = some (.slice Ad1 d.segs.length cd1) := Kd.out.cell 1
    have vr0 : W0.cell? ⟨w.heap.size + 1, 0, none⟩ = some (.int .i64 r.gap) := Kr.out.cell 0
    have vr1 : W0.cell? ⟨w.heap.size + 1, 1, none⟩ = some (.bool r.noMeet) := Kr.out.cell 1
    have vp0 : W0.cell? ⟨w.heap.size + 2, 0, none⟩ = some (.int .i64 p.ship) := Kp.out.cell 0
    have vp1 : W0.cell? ⟨w.heap.size + 2, 1, none⟩ = some (.int .i64 p.segment) := Kp.out.cell 1
    have vp2 : W0.cell? ⟨w.heap.size + 2, 2, none⟩ = some (.bool p.toward) := Kp.out.cell 2
    have vp3 : W0.cell? ⟨w.heap.size + 2, 3, none⟩ = some (.int .i64 p.start) := Kp.out.cell 3
    have vp4 : W0.cell? ⟨w.heap.size + 2, 4, none⟩ = some (.int .i64 p.stop) := Kp.out.cell 4
    have vq0 : W0.cell? ⟨w.heap.size + 3, 0, none⟩ = some (.int .i64 q.ship) := Kq.out.cell 0
    have vq1 : W0.cell? ⟨w.heap.size + 3, 1, none⟩ = some (.int .i64 q.segment) := Kq.out.cell 1
    have vq2 : W0.cell? ⟨w.heap.size + 3, 2, none⟩ = some (.bool q.toward) := Kq.out.cell 2
    have vq3 : W0.cell? ⟨w.heap.size + 3, 3, none⟩ = some (.int .i64 q.start) := Kq.out.cell 3
    have vq4 : W0.cell? ⟨w.heap.size + 3, 4, none⟩ = some (.int .i64 q.stop) := Kq.out.cell 4
    go_wp2_with fail
    rw [← HW0.out]
    clear vd0 vd1 vr0 vr1 vp0 vp1 vp2 vp3 vp4 vq0 vq1 vq2 vq3 vq4
    refine (specChartOk _ _ d _ (Rd.out.below B.out) Nd.out).mono ?_
    rw [Hb1.out]
    rintro e w1 ⟨rfl, hb1⟩
    have B1 := Lib.hid (B.out.trans (hb1.mono B.out.size))
    have Kd_1 := Lib.hid (Kd.out.below hb1)
    have Kr_1 := Lib.hid (Kr.out.below hb1)
    have Kp_1 := Lib.hid (Kp.out.below hb1)
    have Kq_1 := Lib.hid (Kq.out.below hb1)
    clear hb1
    have vd0 : w1.cell? ⟨w.heap.size, 0, none⟩ = some (.slice Ad0 d.points.length cd0) := Kd_1.out.cell 0
    have vd1 : w1.cell? ⟨w.heap.size, 1, none⟩ = some (.slice Ad1 d.segs.length cd1) := Kd_1.out.cell 1
    have vr0 : w1.cell? ⟨w.heap.size + 1, 0, none⟩ = some (.int .i64 r.gap) := Kr_1.out.cell 0
    have vr1 : w1.cell? ⟨w.heap.size + 1, 1, none⟩ = some (.bool r.noMeet) := Kr_1.out.cell 1
    have vp0 : w1.cell? ⟨w.heap.size + 2, 0, none⟩ = some (.int .i64 p.ship) := Kp_1.out.cell 0
    have vp1 : w1.cell? ⟨w.heap.size + 2, 1, none⟩ = some (.int .i64 p.segment) := Kp_1.out.cell 1
    have vp2 : w1.cell? ⟨w.heap.size + 2, 2, none⟩ = some (.bool p.toward) := Kp_1.out.cell 2
    have vp3 : w1.cell? ⟨w.heap.size + 2, 3, none⟩ = some (.int .i64 p.start) := Kp_1.out.cell 3
    have vp4 : w1.cell? ⟨w.heap.size + 2, 4, none⟩ = some (.int .i64 p.stop) := Kp_1.out.cell 4
    have vq0 : w1.cell? ⟨w.heap.size + 3, 0, none⟩ = some (.int .i64 q.ship) := Kq_1.out.cell 0
    have vq1 : w1.cell? ⟨w.heap.size + 3, 1, none⟩ = some (.int .i64 q.segment) := Kq_1.out.cell 1
    have vq2 : w1.cell? ⟨w.heap.size + 3, 2, none⟩ = some (.bool q.toward) := Kq_1.out.cell 2
    have vq3 : w1.cell? ⟨w.heap.size + 3, 3, none⟩ = some (.int .i64 q.start) := Kq_1.out.cell 3
    have vq4 : w1.cell? ⟨w.heap.size + 3, 4, none⟩ = some (.int .i64 q.stop) := Kq_1.out.cell 4
    go_wp2_with fail
    clear vd0 vd1 vr0 vr1 vp0 vp1 vp2 vp3 vp4 vq0 vq1 vq2 vq3 vq4
    refine (specRegimeOk r _).mono ?_
    rw [Hb2.out]
    rintro e w2 ⟨rfl, hb2⟩
    have B2 := Lib.hid (B1.out.trans (hb2.mono B1.out.size))
    have Kd_2 := Lib.hid (Kd_1.out.below hb2)
    have Kr_2 := Lib.hid (Kr_1.out.below hb2)
    have Kp_2 := Lib.hid (Kp_1.out.below hb2)
    have Kq_2 := Lib.hid (Kq_1.out.below hb2)
    clear hb2
    have vd0 : w2.cell? ⟨w.heap.size, 0, none⟩ = some (.slice Ad0 d.points.length cd0) := Kd_2.out.cell 0
    have vd1 : w2.cell? ⟨w.heap.size, 1, none⟩ = some (.slice Ad1 d.segs.length cd1) := Kd_2.out.cell 1
    have vr0 : w2.cell? ⟨w.heap.size + 1, 0, none⟩ = some (.int .i64 r.gap) := Kr_2.out.cell 0
    have vr1 : w2.cell? ⟨w.heap.size + 1, 1, none⟩ = some (.bool r.noMeet) := Kr_2.out.cell 1
    have vp0 : w2.cell? ⟨w.heap.size + 2, 0, none⟩ = some (.int .i64 p.ship) := Kp_2.out.cell 0
    have vp1 : w2.cell? ⟨w.heap.size + 2, 1, none⟩ = some (.int .i64 p.segment) := Kp_2.out.cell 1
    have vp2 : w2.cell? ⟨w.heap.size + 2, 2, none⟩ = some (.bool p.toward) := Kp_2.out.cell 2
    have vp3 : w2.cell? ⟨w.heap.size + 2, 3, none⟩ = some (.int .i64 p.start) := Kp_2.out.cell 3
    have vp4 : w2.cell? ⟨w.heap.size + 2, 4, none⟩ = some (.int .i64 p.stop) := Kp_2.out.cell 4
    have vq0 : w2.cell? ⟨w.heap.size + 3, 0, none⟩ = some (.int .i64 q.ship) := Kq_2.out.cell 0
    have vq1 : w2.cell? ⟨w.heap.size + 3, 1, none⟩ = some (.int .i64 q.segment) := Kq_2.out.cell 1
    have vq2 : w2.cell? ⟨w.heap.size + 3, 2, none⟩ = some (.bool q.toward) := Kq_2.out.cell 2
    have vq3 : w2.cell? ⟨w.heap.size + 3, 3, none⟩ = some (.int .i64 q.start) := Kq_2.out.cell 3
    have vq4 : w2.cell? ⟨w.heap.size + 3, 4, none⟩ = some (.int .i64 q.stop) := Kq_2.out.cell 4
    go_wp2_with fail
    clear vd0 vd1 vr0 vr1 vp0 vp1 vp2 vp3 vp4 vq0 vq1 vq2 vq3 vq4
    refine (l01In_any _ _ _ _).mono ?_
    rw [Hb3.out]
    rintro e wz ⟨rfl, rfl⟩
    have vd0 : w2.cell? ⟨w.heap.size, 0, none⟩ = some (.slice Ad0 d.points.length cd0) := Kd_2.out.cell 0
    have vd1 : w2.cell? ⟨w.heap.size, 1, none⟩ = some (.slice Ad1 d.segs.length cd1) := Kd_2.out.cell 1
    have vr0 : w2.cell? ⟨w.heap.size + 1, 0, none⟩ = some (.int .i64 r.gap) := Kr_2.out.cell 0
    have vr1 : w2.cell? ⟨w.heap.size + 1, 1, none⟩ = some (.bool r.noMeet) := Kr_2.out.cell 1
    have vp0 : w2.cell? ⟨w.heap.size + 2, 0, none⟩ = some (.int .i64 p.ship) := Kp_2.out.cell 0
    have vp1 : w2.cell? ⟨w.heap.size + 2, 1, none⟩ = some (.int .i64 p.segment) := Kp_2.out.cell 1
    have vp2 : w2.cell? ⟨w.heap.size + 2, 2, none⟩ = some (.bool p.toward) := Kp_2.out.cell 2
    have vp3 : w2.cell? ⟨w.heap.size + 2, 3, none⟩ = some (.int .i64 p.start) := Kp_2.out.cell 3
    have vp4 : w2.cell? ⟨w.heap.size + 2, 4, none⟩ = some (.int .i64 p.stop) := Kp_2.out.cell 4
    have vq0 : w2.cell? ⟨w.heap.size + 3, 0, none⟩ = some (.int .i64 q.ship) := Kq_2.out.cell 0
    have vq1 : w2.cell? ⟨w.heap.size + 3, 1, none⟩ = some (.int .i64 q.segment) := Kq_2.out.cell 1
    have vq2 : w2.cell? ⟨w.heap.size + 3, 2, none⟩ = some (.bool q.toward) := Kq_2.out.cell 2
    have vq3 : w2.cell? ⟨w.heap.size + 3, 3, none⟩ = some (.int .i64 q.start) := Kq_2.out.cell 3
    have vq4 : w2.cell? ⟨w.heap.size + 3, 4, none⟩ = some (.int .i64 q.stop) := Kq_2.out.cell 4
    go_wp2_with fail
    clear vd0 vd1 vr0 vr1 vp0 vp1 vp2 vp3 vp4 vq0 vq1 vq2 vq3 vq4
    refine (l09Near_any p.start q.start r.gap _ Wf3.out Wg3.out HG.out).mono ?_
    rw [HN1.out]
    rintro e wz ⟨rfl, rfl⟩
    have vd0 : w2.cell? ⟨w.heap.size, 0, none⟩ = some (.slice Ad0 d.points.length cd0) := Kd_2.out.cell 0
    have vd1 : w2.cell? ⟨w.heap.size, 1, none⟩ = some (.slice Ad1 d.segs.length cd1) := Kd_2.out.cell 1
    have vr0 : w2.cell? ⟨w.heap.size + 1, 0, none⟩ = some (.int .i64 r.gap) := Kr_2.out.cell 0
    have vr1 : w2.cell? ⟨w.heap.size + 1, 1, none⟩ = some (.bool r.noMeet) := Kr_2.out.cell 1
    have vp0 : w2.cell? ⟨w.heap.size + 2, 0, none⟩ = some (.int .i64 p.ship) := Kp_2.out.cell 0
    have vp1 : w2.cell? ⟨w.heap.size + 2, 1, none⟩ = some (.int .i64 p.segment) := Kp_2.out.cell 1
    have vp2 : w2.cell? ⟨w.heap.size + 2, 2, none⟩ = some (.bool p.toward) := Kp_2.out.cell 2
    have vp3 : w2.cell? ⟨w.heap.size + 2, 3, none⟩ = some (.int .i64 p.start) := Kp_2.out.cell 3
    have vp4 : w2.cell? ⟨w.heap.size + 2, 4, none⟩ = some (.int .i64 p.stop) := Kp_2.out.cell 4
    have vq0 : w2.cell? ⟨w.heap.size + 3, 0, none⟩ = some (.int .i64 q.ship) := Kq_2.out.cell 0
    have vq1 : w2.cell? ⟨w.heap.size + 3, 1, none⟩ = some (.int .i64 q.segment) := Kq_2.out.cell 1
    have vq2 : w2.cell? ⟨w.heap.size + 3, 2, none⟩ = some (.bool q.toward) := Kq_2.out.cell 2
    have vq3 : w2.cell? ⟨w.heap.size + 3, 3, none⟩ = some (.int .i64 q.start) := Kq_2.out.cell 3
    have vq4 : w2.cell? ⟨w.heap.size + 3, 4, none⟩ = some (.int .i64 q.stop) := Kq_2.out.cell 4
    go_wp2_with fail
    clear vd0 vd1 vr0 vr1 vp0 vp1 vp2 vp3 vp4 vq0 vq1 vq2 vq3 vq4
    refine (l09Near_any p.stop q.stop r.gap _ Wf4.out Wg4.out HG.out).mono ?_
    rw [HN2.out]
    rintro e wz ⟨rfl, rfl⟩
    have vd0 : w2.cell? ⟨w.heap.size, 0, none⟩ = some (.slice Ad0 d.points.length cd0) := Kd_2.out.cell 0
    have vd1 : w2.cell? ⟨w.heap.size, 1, none⟩ = some (.slice Ad1 d.segs.length cd1) := Kd_2.out.cell 1
    have vr0 : w2.cell? ⟨w.heap.size + 1, 0, none⟩ = some (.int .i64 r.gap) := Kr_2.out.cell 0
    have vr1 : w2.cell? ⟨w.heap.size + 1, 1, none⟩ = some (.bool r.noMeet) := Kr_2.out.cell 1
    have vp0 : w2.cell? ⟨w.heap.size + 2, 0, none⟩ = some (.int .i64 p.ship) := Kp_2.out.cell 0
    have vp1 : w2.cell? ⟨w.heap.size + 2, 1, none⟩ = some (.int .i64 p.segment) := Kp_2.out.cell 1
    have vp2 : w2.cell? ⟨w.heap.size + 2, 2, none⟩ = some (.bool p.toward) := Kp_2.out.cell 2
    have vp3 : w2.cell? ⟨w.heap.size + 2, 3, none⟩ = some (.int .i64 p.start) := Kp_2.out.cell 3
    have vp4 : w2.cell? ⟨w.heap.size + 2, 4, none⟩ = some (.int .i64 p.stop) := Kp_2.out.cell 4
    have vq0 : w2.cell? ⟨w.heap.size + 3, 0, none⟩ = some (.int .i64 q.ship) := Kq_2.out.cell 0
    have vq1 : w2.cell? ⟨w.heap.size + 3, 1, none⟩ = some (.int .i64 q.segment) := Kq_2.out.cell 1
    have vq2 : w2.cell? ⟨w.heap.size + 3, 2, none⟩ = some (.bool q.toward) := Kq_2.out.cell 2
    have vq3 : w2.cell? ⟨w.heap.size + 3, 3, none⟩ = some (.int .i64 q.start) := Kq_2.out.cell 3
    have vq4 : w2.cell? ⟨w.heap.size + 3, 4, none⟩ = some (.int .i64 q.stop) := Kq_2.out.cell 4
    go_wp2
    go_ret
    exact ⟨ret_int E.out.symm, B2.out⟩
  | false =>
  have E2 := Lib.hid (E1.out.trans (if_neg (by simp)))
  clear E1
  by_cases s1 : p.start < q.start
  · have s2 : ¬ q.start < p.start := by omega
    by_cases t1 : q.stop < p.stop
    · have t1' : decide (p.stop > q.stop) = true := decide_eq_true t1
      have E := Lib.hid (show confI d r p q = 4 by rw [E2.out]; unfold passedB; simp <;> omega)
      go_enter Try.func27, Try.ntmps27
      have vd0 : W0.cell? ⟨w.heap.size, 0, none⟩ = some (.slice Ad0 d.points.length cd0) := Kd.out.cell 0
      have vd1 : W0.cell? ⟨w.heap.size, 1, none⟩ = some (.slice Ad1 d.segs.length cd1) := Kd.out.cell 1
      have vr0 : W0.cell? ⟨w.heap.size + 1, 0, none⟩ = some (.int .i64 r.gap) := Kr.out.cell 0
      have vr1 : W0.cell? ⟨w.heap.size + 1, 1, none⟩ = some (.bool r.noMeet) := Kr.out.cell 1
      have vp0 : W0.cell? ⟨w.heap.size + 2, 0, none⟩ = some (.int .i64 p.ship) := Kp.out.cell 0
      have vp1 : W0.cell? ⟨w.heap.size + 2, 1, none⟩ = some (.int .i64 p.segment) := Kp.out.cell 1
      have vp2 : W0.cell? ⟨w.heap.size + 2, 2, none⟩ = some (.bool p.toward) := Kp.out.cell 2
      have vp3 : W0.cell? ⟨w.heap.size + 2, 3, none⟩ = some (.int .i64 p.start) := Kp.out.cell 3
      have vp4 : W0.cell? ⟨w.heap.size + 2, 4, none⟩ = some (.int .i64 p.stop) := Kp.out.cell 4
      have vq0 : W0.cell? ⟨w.heap.size + 3, 0, none⟩ = some (.int .i64 q.ship) := Kq.out.cell 0
      have vq1 : W0.cell? ⟨w.heap.size + 3, 1, none⟩ = some (.int .i64 q.segment) := Kq.out.cell 1
      have vq2 : W0.cell? ⟨w.heap.size + 3, 2, none⟩ = some (.bool q.toward) := Kq.out.cell 2
      have vq3 : W0.cell? ⟨w.heap.size + 3, 3, none⟩ = some (.int .i64 q.start) := Kq.out.cell 3
      have vq4 : W0.cell? ⟨w.heap.size + 3, 4, none⟩ = some (.int .i64 q.stop) := Kq.out.cell 4
      go_wp2_with fail
      rw [← HW0.out]
      clear vd0 vd1 vr0 vr1 vp0 vp1 vp2 vp3 vp4 vq0 vq1 vq2 vq3 vq4
      refine (specChartOk _ _ d _ (Rd.out.below B.out) Nd.out).mono ?_
      rw [Hb1.out]
      rintro e w1 ⟨rfl, hb1⟩
      have B1 := Lib.hid (B.out.trans (hb1.mono B.out.size))
      have Kd_1 := Lib.hid (Kd.out.below hb1)
      have Kr_1 := Lib.hid (Kr.out.below hb1)
      have Kp_1 := Lib.hid (Kp.out.below hb1)
      have Kq_1 := Lib.hid (Kq.out.below hb1)
      clear hb1
      have vd0 : w1.cell? ⟨w.heap.size, 0, none⟩ = some (.slice Ad0 d.points.length cd0) := Kd_1.out.cell 0
      have vd1 : w1.cell? ⟨w.heap.size, 1, none⟩ = some (.slice Ad1 d.segs.length cd1) := Kd_1.out.cell 1
      have vr0 : w1.cell? ⟨w.heap.size + 1, 0, none⟩ = some (.int .i64 r.gap) := Kr_1.out.cell 0
      have vr1 : w1.cell? ⟨w.heap.size + 1, 1, none⟩ = some (.bool r.noMeet) := Kr_1.out.cell 1
      have vp0 : w1.cell? ⟨w.heap.size + 2, 0, none⟩ = some (.int .i64 p.ship) := Kp_1.out.cell 0
      have vp1 : w1.cell? ⟨w.heap.size + 2, 1, none⟩ = some (.int .i64 p.segment) := Kp_1.out.cell 1
      have vp2 : w1.cell? ⟨w.heap.size + 2, 2, none⟩ = some (.bool p.toward) := Kp_1.out.cell 2
      have vp3 : w1.cell? ⟨w.heap.size + 2, 3, none⟩ = some (.int .i64 p.start) := Kp_1.out.cell 3
      have vp4 : w1.cell? ⟨w.heap.size + 2, 4, none⟩ = some (.int .i64 p.stop) := Kp_1.out.cell 4
      have vq0 : w1.cell? ⟨w.heap.size + 3, 0, none⟩ = some (.int .i64 q.ship) := Kq_1.out.cell 0
      have vq1 : w1.cell? ⟨w.heap.size + 3, 1, none⟩ = some (.int .i64 q.segment) := Kq_1.out.cell 1
      have vq2 : w1.cell? ⟨w.heap.size + 3, 2, none⟩ = some (.bool q.toward) := Kq_1.out.cell 2
      have vq3 : w1.cell? ⟨w.heap.size + 3, 3, none⟩ = some (.int .i64 q.start) := Kq_1.out.cell 3
      have vq4 : w1.cell? ⟨w.heap.size + 3, 4, none⟩ = some (.int .i64 q.stop) := Kq_1.out.cell 4
      go_wp2_with fail
      clear vd0 vd1 vr0 vr1 vp0 vp1 vp2 vp3 vp4 vq0 vq1 vq2 vq3 vq4
      refine (specRegimeOk r _).mono ?_
      rw [Hb2.out]
      rintro e w2 ⟨rfl, hb2⟩
      have B2 := Lib.hid (B1.out.trans (hb2.mono B1.out.size))
      have Kd_2 := Lib.hid (Kd_1.out.below hb2)
      have Kr_2 := Lib.hid (Kr_1.out.below hb2)
      have Kp_2 := Lib.hid (Kp_1.out.below hb2)
      have Kq_2 := Lib.hid (Kq_1.out.below hb2)
      clear hb2
      have vd0 : w2.cell? ⟨w.heap.size, 0, none⟩ = some (.slice Ad0 d.points.length cd0) := Kd_2.out.cell 0
      have vd1 : w2.cell? ⟨w.heap.size, 1, none⟩ = some (.slice Ad1 d.segs.length cd1) := Kd_2.out.cell 1
      have vr0 : w2.cell? ⟨w.heap.size + 1, 0, none⟩ = some (.int .i64 r.gap) := Kr_2.out.cell 0
      have vr1 : w2.cell? ⟨w.heap.size + 1, 1, none⟩ = some (.bool r.noMeet) := Kr_2.out.cell 1
      have vp0 : w2.cell? ⟨w.heap.size + 2, 0, none⟩ = some (.int .i64 p.ship) := Kp_2.out.cell 0
      have vp1 : w2.cell? ⟨w.heap.size + 2, 1, none⟩ = some (.int .i64 p.segment) := Kp_2.out.cell 1
      have vp2 : w2.cell? ⟨w.heap.size + 2, 2, none⟩ = some (.bool p.toward) := Kp_2.out.cell 2
      have vp3 : w2.cell? ⟨w.heap.size + 2, 3, none⟩ = some (.int .i64 p.start) := Kp_2.out.cell 3
      have vp4 : w2.cell? ⟨w.heap.size + 2, 4, none⟩ = some (.int .i64 p.stop) := Kp_2.out.cell 4
      have vq0 : w2.cell? ⟨w.heap.size + 3, 0, none⟩ = some (.int .i64 q.ship) := Kq_2.out.cell 0
      have vq1 : w2.cell? ⟨w.heap.size + 3, 1, none⟩ = some (.int .i64 q.segment) := Kq_2.out.cell 1
      have vq2 : w2.cell? ⟨w.heap.size + 3, 2, none⟩ = some (.bool q.toward) := Kq_2.out.cell 2
      have vq3 : w2.cell? ⟨w.heap.size + 3, 3, none⟩ = some (.int .i64 q.start) := Kq_2.out.cell 3
      have vq4 : w2.cell? ⟨w.heap.size + 3, 4, none⟩ = some (.int .i64 q.stop) := Kq_2.out.cell 4
      go_wp2_with fail
      clear vd0 vd1 vr0 vr1 vp0 vp1 vp2 vp3 vp4 vq0 vq1 vq2 vq3 vq4
      refine (l01In_any _ _ _ _).mono ?_
      rw [Hb3.out]
      rintro e wz ⟨rfl, rfl⟩
      have vd0 : w2.cell? ⟨w.heap.size, 0, none⟩ = some (.slice Ad0 d.points.length cd0) := Kd_2.out.cell 0
      have vd1 : w2.cell? ⟨w.heap.size, 1, none⟩ = some (.slice Ad1 d.segs.length cd1) := Kd_2.out.cell 1
      have vr0 : w2.cell? ⟨w.heap.size + 1, 0, none⟩ = some (.int .i64 r.gap) := Kr_2.out.cell 0
      have vr1 : w2.cell? ⟨w.heap.size + 1, 1, none⟩ = some (.bool r.noMeet) := Kr_2.out.cell 1
      have vp0 : w2.cell? ⟨w.heap.size + 2, 0, none⟩ = some (.int .i64 p.ship) := Kp_2.out.cell 0
      have vp1 : w2.cell? ⟨w.heap.size + 2, 1, none⟩ = some (.int .i64 p.segment) := Kp_2.out.cell 1
      have vp2 : w2.cell? ⟨w.heap.size + 2, 2, none⟩ = some (.bool p.toward) := Kp_2.out.cell 2
      have vp3 : w2.cell? ⟨w.heap.size + 2, 3, none⟩ = some (.int .i64 p.start) := Kp_2.out.cell 3
      have vp4 : w2.cell? ⟨w.heap.size + 2, 4, none⟩ = some (.int .i64 p.stop) := Kp_2.out.cell 4
      have vq0 : w2.cell? ⟨w.heap.size + 3, 0, none⟩ = some (.int .i64 q.ship) := Kq_2.out.cell 0
      have vq1 : w2.cell? ⟨w.heap.size + 3, 1, none⟩ = some (.int .i64 q.segment) := Kq_2.out.cell 1
      have vq2 : w2.cell? ⟨w.heap.size + 3, 2, none⟩ = some (.bool q.toward) := Kq_2.out.cell 2
      have vq3 : w2.cell? ⟨w.heap.size + 3, 3, none⟩ = some (.int .i64 q.start) := Kq_2.out.cell 3
      have vq4 : w2.cell? ⟨w.heap.size + 3, 4, none⟩ = some (.int .i64 q.stop) := Kq_2.out.cell 4
      go_wp2_with fail
      clear vd0 vd1 vr0 vr1 vp0 vp1 vp2 vp3 vp4 vq0 vq1 vq2 vq3 vq4
      refine (l09Near_any p.start q.start r.gap _ Wf3.out Wg3.out HG.out).mono ?_
      rw [HN1.out]
      rintro e wz ⟨rfl, rfl⟩
      have vd0 : w2.cell? ⟨w.heap.size, 0, none⟩ = some (.slice Ad0 d.points.length cd0) := Kd_2.out.cell 0
      have vd1 : w2.cell? ⟨w.heap.size, 1, none⟩ = some (.slice Ad1 d.segs.length cd1) := Kd_2.out.cell 1
      have vr0 : w2.cell? ⟨w.heap.size + 1, 0, none⟩ = some (.int .i64 r.gap) := Kr_2.out.cell 0
      have vr1 : w2.cell? ⟨w.heap.size + 1, 1, none⟩ = some (.bool r.noMeet) := Kr_2.out.cell 1
      have vp0 : w2.cell? ⟨w.heap.size + 2, 0, none⟩ = some (.int .i64 p.ship) := Kp_2.out.cell 0
      have vp1 : w2.cell? ⟨w.heap.size + 2, 1, none⟩ = some (.int .i64 p.segment) := Kp_2.out.cell 1
      have vp2 : w2.cell? ⟨w.heap.size + 2, 2, none⟩ = some (.bool p.toward) := Kp_2.out.cell 2
      have vp3 : w2.cell? ⟨w.heap.size + 2, 3, none⟩ = some (.int .i64 p.start) := Kp_2.out.cell 3
      have vp4 : w2.cell? ⟨w.heap.size + 2, 4, none⟩ = some (.int .i64 p.stop) := Kp_2.out.cell 4
      have vq0 : w2.cell? ⟨w.heap.size + 3, 0, none⟩ = some (.int .i64 q.ship) := Kq_2.out.cell 0
      have vq1 : w2.cell? ⟨w.heap.size + 3, 1, none⟩ = some (.int .i64 q.segment) := Kq_2.out.cell 1
      have vq2 : w2.cell? ⟨w.heap.size + 3, 2, none⟩ = some (.bool q.toward) := Kq_2.out.cell 2
      have vq3 : w2.cell? ⟨w.heap.size + 3, 3, none⟩ = some (.int .i64 q.start) := Kq_2.out.cell 3
      have vq4 : w2.cell? ⟨w.heap.size + 3, 4, none⟩ = some (.int .i64 q.stop) := Kq_2.out.cell 4
      go_wp2_with fail
      clear vd0 vd1 vr0 vr1 vp0 vp1 vp2 vp3 vp4 vq0 vq1 vq2 vq3 vq4
      refine (l09Near_any p.stop q.stop r.gap _ Wf4.out Wg4.out HG.out).mono ?_
      rw [HN2.out]
      rintro e wz ⟨rfl, rfl⟩
      have vd0 : w2.cell? ⟨w.heap.size, 0, none⟩ = some (.slice Ad0 d.points.length cd0) := Kd_2.out.cell 0
      have vd1 : w2.cell? ⟨w.heap.size, 1, none⟩ = some (.slice Ad1 d.segs.length cd1) := Kd_2.out.cell 1
      have vr0 : w2.cell? ⟨w.heap.size + 1, 0, none⟩ = some (.int .i64 r.gap) := Kr_2.out.cell 0
      have vr1 : w2.cell? ⟨w.heap.size + 1, 1, none⟩ = some (.bool r.noMeet) := Kr_2.out.cell 1
      have vp0 : w2.cell? ⟨w.heap.size + 2, 0, none⟩ = some (.int .i64 p.ship) := Kp_2.out.cell 0
      have vp1 : w2.cell? ⟨w.heap.size + 2, 1, none⟩ = some (.int .i64 p.segment) := Kp_2.out.cell 1
      have vp2 : w2.cell? ⟨w.heap.size + 2, 2, none⟩ = some (.bool p.toward) := Kp_2.out.cell 2
      have vp3 : w2.cell? ⟨w.heap.size + 2, 3, none⟩ = some (.int .i64 p.start) := Kp_2.out.cell 3
      have vp4 : w2.cell? ⟨w.heap.size + 2, 4, none⟩ = some (.int .i64 p.stop) := Kp_2.out.cell 4
      have vq0 : w2.cell? ⟨w.heap.size + 3, 0, none⟩ = some (.int .i64 q.ship) := Kq_2.out.cell 0
      have vq1 : w2.cell? ⟨w.heap.size + 3, 1, none⟩ = some (.int .i64 q.segment) := Kq_2.out.cell 1
      have vq2 : w2.cell? ⟨w.heap.size + 3, 2, none⟩ = some (.bool q.toward) := Kq_2.out.cell 2
      have vq3 : w2.cell? ⟨w.heap.size + 3, 3, none⟩ = some (.int .i64 q.start) := Kq_2.out.cell 3
      have vq4 : w2.cell? ⟨w.heap.size + 3, 4, none⟩ = some (.int .i64 q.stop) := Kq_2.out.cell 4
      go_wp2
      go_ret
      exact ⟨ret_int E.out.symm, B2.out⟩
    · have t1' : decide (p.stop > q.stop) = false := decide_eq_false t1
      have t1'' : decide (q.stop < p.stop) = false := decide_eq_false t1
      have s2' : decide (q.start < p.start) = false := decide_eq_false s2
      have E := Lib.hid (show confI d r p q = 0 by rw [E2.out]; unfold passedB; simp <;> omega)
      go_enter Try.func27, Try.ntmps27
      have vd0 : W0.cell? ⟨w.heap.size, 0, none⟩ = some (.slice Ad0 d.points.length cd0) := Kd.out.cell 0
      have vd1 : W0.cell? ⟨w.heap.size, 1, none⟩ = some (.slice Ad1 d.segs.length cd1) := Kd.out.cell 1
      have vr0 : W0.cell? ⟨w.heap.size + 1, 0, none⟩ = some (.int .i64 r.gap) := Kr.out.cell 0
      have vr1 : W0.cell? ⟨w.heap.size + 1, 1, none⟩ = some (.bool r.noMeet) := Kr.out.cell 1
      have vp0 : W0.cell? ⟨w.heap.size + 2, 0, none⟩ = some (.int .i64 p.ship) := Kp.out.cell 0
      have vp1 : W0.cell? ⟨w.heap.size + 2, 1, none⟩ = some (.int .i64 p.segment) := Kp.out.cell 1
      have vp2 : W0.cell? ⟨w.heap.size + 2, 2, none⟩ = some (.bool p.toward) := Kp.out.cell 2
      have vp3 : W0.cell? ⟨w.heap.size + 2, 3, none⟩ = some (.int .i64 p.start) := Kp.out.cell 3
      have vp4 : W0.cell? ⟨w.heap.size + 2, 4, none⟩ = some (.int .i64 p.stop) := Kp.out.cell 4
      have vq0 : W0.cell? ⟨w.heap.size + 3, 0, none⟩ = some (.int .i64 q.ship) := Kq.out.cell 0
      have vq1 : W0.cell? ⟨w.heap.size + 3, 1, none⟩ = some (.int .i64 q.segment) := Kq.out.cell 1
      have vq2 : W0.cell? ⟨w.heap.size + 3, 2, none⟩ = some (.bool q.toward) := Kq.out.cell 2
      have vq3 : W0.cell? ⟨w.heap.size + 3, 3, none⟩ = some (.int .i64 q.start) := Kq.out.cell 3
      have vq4 : W0.cell? ⟨w.heap.size + 3, 4, none⟩ = some (.int .i64 q.stop) := Kq.out.cell 4
      go_wp2_with fail
      rw [← HW0.out]
      clear vd0 vd1 vr0 vr1 vp0 vp1 vp2 vp3 vp4 vq0 vq1 vq2 vq3 vq4
      refine (specChartOk _ _ d _ (Rd.out.below B.out) Nd.out).mono ?_
      rw [Hb1.out]
      rintro e w1 ⟨rfl, hb1⟩
      have B1 := Lib.hid (B.out.trans (hb1.mono B.out.size))
      have Kd_1 := Lib.hid (Kd.out.below hb1)
      have Kr_1 := Lib.hid (Kr.out.below hb1)
      have Kp_1 := Lib.hid (Kp.out.below hb1)
      have Kq_1 := Lib.hid (Kq.out.below hb1)
      clear hb1
      have vd0 : w1.cell? ⟨w.heap.size, 0, none⟩ = some (.slice Ad0 d.points.length cd0) := Kd_1.out.cell 0
      have vd1 : w1.cell? ⟨w.heap.size, 1, none⟩ = some (.slice Ad1 d.segs.length cd1) := Kd_1.out.cell 1
      have vr0 : w1.cell? ⟨w.heap.size + 1, 0, none⟩ = some (.int .i64 r.gap) := Kr_1.out.cell 0
      have vr1 : w1.cell? ⟨w.heap.size + 1, 1, none⟩ = some (.bool r.noMeet) := Kr_1.out.cell 1
      have vp0 : w1.cell? ⟨w.heap.size + 2, 0, none⟩ = some (.int .i64 p.ship) := Kp_1.out.cell 0
      have vp1 : w1.cell? ⟨w.heap.size + 2, 1, none⟩ = some (.int .i64 p.segment) := Kp_1.out.cell 1
      have vp2 : w1.cell? ⟨w.heap.size + 2, 2, none⟩ = some (.bool p.toward) := Kp_1.out.cell 2
      have vp3 : w1.cell? ⟨w.heap.size + 2, 3, none⟩ = some (.int .i64 p.start) := Kp_1.out.cell 3
      have vp4 : w1.cell? ⟨w.heap.size + 2, 4, none⟩ = some (.int .i64 p.stop) := Kp_1.out.cell 4
      have vq0 : w1.cell? ⟨w.heap.size + 3, 0, none⟩ = some (.int .i64 q.ship) := Kq_1.out.cell 0
      have vq1 : w1.cell? ⟨w.heap.size + 3, 1, none⟩ = some (.int .i64 q.segment) := Kq_1.out.cell 1
      have vq2 : w1.cell? ⟨w.heap.size + 3, 2, none⟩ = some (.bool q.toward) := Kq_1.out.cell 2
      have vq3 : w1.cell? ⟨w.heap.size + 3, 3, none⟩ = some (.int .i64 q.start) := Kq_1.out.cell 3
      have vq4 : w1.cell? ⟨w.heap.size + 3, 4, none⟩ = some (.int .i64 q.stop) := Kq_1.out.cell 4
      go_wp2_with fail
      clear vd0 vd1 vr0 vr1 vp0 vp1 vp2 vp3 vp4 vq0 vq1 vq2 vq3 vq4
      refine (specRegimeOk r _).mono ?_
      rw [Hb2.out]
      rintro e w2 ⟨rfl, hb2⟩
      have B2 := Lib.hid (B1.out.trans (hb2.mono B1.out.size))
      have Kd_2 := Lib.hid (Kd_1.out.below hb2)
      have Kr_2 := Lib.hid (Kr_1.out.below hb2)
      have Kp_2 := Lib.hid (Kp_1.out.below hb2)
      have Kq_2 := Lib.hid (Kq_1.out.below hb2)
      clear hb2
      have vd0 : w2.cell? ⟨w.heap.size, 0, none⟩ = some (.slice Ad0 d.points.length cd0) := Kd_2.out.cell 0
      have vd1 : w2.cell? ⟨w.heap.size, 1, none⟩ = some (.slice Ad1 d.segs.length cd1) := Kd_2.out.cell 1
      have vr0 : w2.cell? ⟨w.heap.size + 1, 0, none⟩ = some (.int .i64 r.gap) := Kr_2.out.cell 0
      have vr1 : w2.cell? ⟨w.heap.size + 1, 1, none⟩ = some (.bool r.noMeet) := Kr_2.out.cell 1
      have vp0 : w2.cell? ⟨w.heap.size + 2, 0, none⟩ = some (.int .i64 p.ship) := Kp_2.out.cell 0
      have vp1 : w2.cell? ⟨w.heap.size + 2, 1, none⟩ = some (.int .i64 p.segment) := Kp_2.out.cell 1
      have vp2 : w2.cell? ⟨w.heap.size + 2, 2, none⟩ = some (.bool p.toward) := Kp_2.out.cell 2
      have vp3 : w2.cell? ⟨w.heap.size + 2, 3, none⟩ = some (.int .i64 p.start) := Kp_2.out.cell 3
      have vp4 : w2.cell? ⟨w.heap.size + 2, 4, none⟩ = some (.int .i64 p.stop) := Kp_2.out.cell 4
      have vq0 : w2.cell? ⟨w.heap.size + 3, 0, none⟩ = some (.int .i64 q.ship) := Kq_2.out.cell 0
      have vq1 : w2.cell? ⟨w.heap.size + 3, 1, none⟩ = some (.int .i64 q.segment) := Kq_2.out.cell 1
      have vq2 : w2.cell? ⟨w.heap.size + 3, 2, none⟩ = some (.bool q.toward) := Kq_2.out.cell 2
      have vq3 : w2.cell? ⟨w.heap.size + 3, 3, none⟩ = some (.int .i64 q.start) := Kq_2.out.cell 3
      have vq4 : w2.cell? ⟨w.heap.size + 3, 4, none⟩ = some (.int .i64 q.stop) := Kq_2.out.cell 4
      go_wp2_with fail
      clear vd0 vd1 vr0 vr1 vp0 vp1 vp2 vp3 vp4 vq0 vq1 vq2 vq3 vq4
      refine (l01In_any _ _ _ _).mono ?_
      rw [Hb3.out]
      rintro e wz ⟨rfl, rfl⟩
      have vd0 : w2.cell? ⟨w.heap.size, 0, none⟩ = some (.slice Ad0 d.points.length cd0) := Kd_2.out.cell 0
      have vd1 : w2.cell? ⟨w.heap.size, 1, none⟩ = some (.slice Ad1 d.segs.length cd1) := Kd_2.out.cell 1
      have vr0 : w2.cell? ⟨w.heap.size + 1, 0, none⟩ = some (.int .i64 r.gap) := Kr_2.out.cell 0
      have vr1 : w2.cell? ⟨w.heap.size + 1, 1, none⟩ = some (.bool r.noMeet) := Kr_2.out.cell 1
      have vp0 : w2.cell? ⟨w.heap.size + 2, 0, none⟩ = some (.int .i64 p.ship) := Kp_2.out.cell 0
      have vp1 : w2.cell? ⟨w.heap.size + 2, 1, none⟩ = some (.int .i64 p.segment) := Kp_2.out.cell 1
      have vp2 : w2.cell? ⟨w.heap.size + 2, 2, none⟩ = some (.bool p.toward) := Kp_2.out.cell 2
      have vp3 : w2.cell? ⟨w.heap.size + 2, 3, none⟩ = some (.int .i64 p.start) := Kp_2.out.cell 3
      have vp4 : w2.cell? ⟨w.heap.size + 2, 4, none⟩ = some (.int .i64 p.stop) := Kp_2.out.cell 4
      have vq0 : w2.cell? ⟨w.heap.size + 3, 0, none⟩ = some (.int .i64 q.ship) := Kq_2.out.cell 0
      have vq1 : w2.cell? ⟨w.heap.size + 3, 1, none⟩ = some (.int .i64 q.segment) := Kq_2.out.cell 1
      have vq2 : w2.cell? ⟨w.heap.size + 3, 2, none⟩ = some (.bool q.toward) := Kq_2.out.cell 2
      have vq3 : w2.cell? ⟨w.heap.size + 3, 3, none⟩ = some (.int .i64 q.start) := Kq_2.out.cell 3
      have vq4 : w2.cell? ⟨w.heap.size + 3, 4, none⟩ = some (.int .i64 q.stop) := Kq_2.out.cell 4
      go_wp2_with fail
      clear vd0 vd1 vr0 vr1 vp0 vp1 vp2 vp3 vp4 vq0 vq1 vq2 vq3 vq4
      refine (l09Near_any p.start q.start r.gap _ Wf3.out Wg3.out HG.out).mono ?_
      rw [HN1.out]
      rintro e wz ⟨rfl, rfl⟩
      have vd0 : w2.cell? ⟨w.heap.size, 0, none⟩ = some (.slice Ad0 d.points.length cd0) := Kd_2.out.cell 0
      have vd1 : w2.cell? ⟨w.heap.size, 1, none⟩ = some (.slice Ad1 d.segs.length cd1) := Kd_2.out.cell 1
      have vr0 : w2.cell? ⟨w.heap.size + 1, 0, none⟩ = some (.int .i64 r.gap) := Kr_2.out.cell 0
      have vr1 : w2.cell? ⟨w.heap.size + 1, 1, none⟩ = some (.bool r.noMeet) := Kr_2.out.cell 1
      have vp0 : w2.cell? ⟨w.heap.size + 2, 0, none⟩ = some (.int .i64 p.ship) := Kp_2.out.cell 0
      have vp1 : w2.cell? ⟨w.heap.size + 2, 1, none⟩ = some (.int .i64 p.segment) := Kp_2.out.cell 1
      have vp2 : w2.cell? ⟨w.heap.size + 2, 2, none⟩ = some (.bool p.toward) := Kp_2.out.cell 2
      have vp3 : w2.cell? ⟨w.heap.size + 2, 3, none⟩ = some (.int .i64 p.start) := Kp_2.out.cell 3
      have vp4 : w2.cell? ⟨w.heap.size + 2, 4, none⟩ = some (.int .i64 p.stop) := Kp_2.out.cell 4
      have vq0 : w2.cell? ⟨w.heap.size + 3, 0, none⟩ = some (.int .i64 q.ship) := Kq_2.out.cell 0
      have vq1 : w2.cell? ⟨w.heap.size + 3, 1, none⟩ = some (.int .i64 q.segment) := Kq_2.out.cell 1
      have vq2 : w2.cell? ⟨w.heap.size + 3, 2, none⟩ = some (.bool q.toward) := Kq_2.out.cell 2
      have vq3 : w2.cell? ⟨w.heap.size + 3, 3, none⟩ = some (.int .i64 q.start) := Kq_2.out.cell 3
      have vq4 : w2.cell? ⟨w.heap.size + 3, 4, none⟩ = some (.int .i64 q.stop) := Kq_2.out.cell 4
      go_wp2_with fail
      clear vd0 vd1 vr0 vr1 vp0 vp1 vp2 vp3 vp4 vq0 vq1 vq2 vq3 vq4
      refine (l09Near_any p.stop q.stop r.gap _ Wf4.out Wg4.out HG.out).mono ?_
      rw [HN2.out]
      rintro e wz ⟨rfl, rfl⟩
      have vd0 : w2.cell? ⟨w.heap.size, 0, none⟩ = some (.slice Ad0 d.points.length cd0) := Kd_2.out.cell 0
      have vd1 : w2.cell? ⟨w.heap.size, 1, none⟩ = some (.slice Ad1 d.segs.length cd1) := Kd_2.out.cell 1
      have vr0 : w2.cell? ⟨w.heap.size + 1, 0, none⟩ = some (.int .i64 r.gap) := Kr_2.out.cell 0
      have vr1 : w2.cell? ⟨w.heap.size + 1, 1, none⟩ = some (.bool r.noMeet) := Kr_2.out.cell 1
      have vp0 : w2.cell? ⟨w.heap.size + 2, 0, none⟩ = some (.int .i64 p.ship) := Kp_2.out.cell 0
      have vp1 : w2.cell? ⟨w.heap.size + 2, 1, none⟩ = some (.int .i64 p.segment) := Kp_2.out.cell 1
      have vp2 : w2.cell? ⟨w.heap.size + 2, 2, none⟩ = some (.bool p.toward) := Kp_2.out.cell 2
      have vp3 : w2.cell? ⟨w.heap.size + 2, 3, none⟩ = some (.int .i64 p.start) := Kp_2.out.cell 3
      have vp4 : w2.cell? ⟨w.heap.size + 2, 4, none⟩ = some (.int .i64 p.stop) := Kp_2.out.cell 4
      have vq0 : w2.cell? ⟨w.heap.size + 3, 0, none⟩ = some (.int .i64 q.ship) := Kq_2.out.cell 0
      have vq1 : w2.cell? ⟨w.heap.size + 3, 1, none⟩ = some (.int .i64 q.segment) := Kq_2.out.cell 1
      have vq2 : w2.cell? ⟨w.heap.size + 3, 2, none⟩ = some (.bool q.toward) := Kq_2.out.cell 2
      have vq3 : w2.cell? ⟨w.heap.size + 3, 3, none⟩ = some (.int .i64 q.start) := Kq_2.out.cell 3
      have vq4 : w2.cell? ⟨w.heap.size + 3, 4, none⟩ = some (.int .i64 q.stop) := Kq_2.out.cell 4
      go_wp2
      go_ret
      exact ⟨ret_int E.out.symm, B2.out⟩
  have s1' : decide (p.start < q.start) = false := decide_eq_false s1
  by_cases s2 : q.start < p.start
  · by_cases t1 : p.stop < q.stop
    · have t1' : decide (q.stop > p.stop) = true := decide_eq_true t1
      have E := Lib.hid (show confI d r p q = 4 by rw [E2.out]; unfold passedB; simp <;> omega)
      go_enter Try.func27, Try.ntmps27
      have vd0 : W0.cell? ⟨w.heap.size, 0, none⟩ = some (.slice Ad0 d.points.length cd0) := Kd.out.cell 0
      have vd1 : W0.cell? ⟨w.heap.size, 1, none⟩ = some (.slice Ad1 d.segs.length cd1) := Kd.out.cell 1
      have vr0 : W0.cell? ⟨w.heap.size + 1, 0, none⟩ = some (.int .i64 r.gap) := Kr.out.cell 0
      have vr1 : W0.cell? ⟨w.heap.size + 1, 1, none⟩ = some (.bool r.noMeet) := Kr.out.cell 1
      have vp0 : W0.cell? ⟨w.heap.size + 2, 0, none⟩ = some (.int .i64 p.ship) := Kp.out.cell 0
      have vp1 : W0.cell? ⟨w.heap.size + 2, 1, none⟩ = some (.int .i64 p.segment) := Kp.out.cell 1
      have vp2 : W0.cell? ⟨w.heap.size + 2, 2, none⟩ = some (.bool p.toward) := Kp.out.cell 2
      have vp3 : W0.cell? ⟨w.heap.size + 2, 3, none⟩ = some (.int .i64 p.start) := Kp.out.cell 3
      have vp4 : W0.cell? ⟨w.heap.size + 2, 4, none⟩ = some (.int .i64 p.stop) := Kp.out.cell 4
      have vq0 : W0.cell? ⟨w.heap.size + 3, 0, none⟩ = some (.int .i64 q.ship) := Kq.out.cell 0
      have vq1 : W0.cell? ⟨w.heap.size + 3, 1, none⟩ = some (.int .i64 q.segment) := Kq.out.cell 1
      have vq2 : W0.cell? ⟨w.heap.size + 3, 2, none⟩ = some (.bool q.toward) := Kq.out.cell 2
      have vq3 : W0.cell? ⟨w.heap.size + 3, 3, none⟩ = some (.int .i64 q.start) := Kq.out.cell 3
      have vq4 : W0.cell? ⟨w.heap.size + 3, 4, none⟩ = some (.int .i64 q.stop) := Kq.out.cell 4
      go_wp2_with fail
      rw [← HW0.out]
      clear vd0 vd1 vr0 vr1 vp0 vp1 vp2 vp3 vp4 vq0 vq1 vq2 vq3 vq4
      refine (specChartOk _ _ d _ (Rd.out.below B.out) Nd.out).mono ?_
      rw [Hb1.out]
      rintro e w1 ⟨rfl, hb1⟩
      have B1 := Lib.hid (B.out.trans (hb1.mono B.out.size))
      have Kd_1 := Lib.hid (Kd.out.below hb1)
      have Kr_1 := Lib.hid (Kr.out.below hb1)
      have Kp_1 := Lib.hid (Kp.out.below hb1)
      have Kq_1 := Lib.hid (Kq.out.below hb1)
      clear hb1
      have vd0 : w1.cell? ⟨w.heap.size, 0, none⟩ = some (.slice Ad0 d.points.length cd0) := Kd_1.out.cell 0
      have vd1 : w1.cell? ⟨w.heap.size, 1, none⟩ = some (.slice Ad1 d.segs.length cd1) := Kd_1.out.cell 1
      have vr0 : w1.cell? ⟨w.heap.size + 1, 0, none⟩ = some (.int .i64 r.gap) := Kr_1.out.cell 0
      have vr1 : w1.cell? ⟨w.heap.size + 1, 1, none⟩ = some (.bool r.noMeet) := Kr_1.out.cell 1
      have vp0 : w1.cell? ⟨w.heap.size + 2, 0, none⟩ = some (.int .i64 p.ship) := Kp_1.out.cell 0
      have vp1 : w1.cell? ⟨w.heap.size + 2, 1, none⟩ = some (.int .i64 p.segment) := Kp_1.out.cell 1
      have vp2 : w1.cell? ⟨w.heap.size + 2, 2, none⟩ = some (.bool p.toward) := Kp_1.out.cell 2
      have vp3 : w1.cell? ⟨w.heap.size + 2, 3, none⟩ = some (.int .i64 p.start) := Kp_1.out.cell 3
      have vp4 : w1.cell? ⟨w.heap.size + 2, 4, none⟩ = some (.int .i64 p.stop) := Kp_1.out.cell 4
      have vq0 : w1.cell? ⟨w.heap.size + 3, 0, none⟩ = some (.int .i64 q.ship) := Kq_1.out.cell 0
      have vq1 : w1.cell? ⟨w.heap.size + 3, 1, none⟩ = some (.int .i64 q.segment) := Kq_1.out.cell 1
      have vq2 : w1.cell? ⟨w.heap.size + 3, 2, none⟩ = some (.bool q.toward) := Kq_1.out.cell 2
      have vq3 : w1.cell? ⟨w.heap.size + 3, 3, none⟩ = some (.int .i64 q.start) := Kq_1.out.cell 3
      have vq4 : w1.cell? ⟨w.heap.size + 3, 4, none⟩ = some (.int .i64 q.stop) := Kq_1.out.cell 4
      go_wp2_with fail
      clear vd0 vd1 vr0 vr1 vp0 vp1 vp2 vp3 vp4 vq0 vq1 vq2 vq3 vq4
      refine (specRegimeOk r _).mono ?_
      rw [Hb2.out]
      rintro e w2 ⟨rfl, hb2⟩
      have B2 := Lib.hid (B1.out.trans (hb2.mono B1.out.size))
      have Kd_2 := Lib.hid (Kd_1.out.below hb2)
      have Kr_2 := Lib.hid (Kr_1.out.below hb2)
      have Kp_2 := Lib.hid (Kp_1.out.below hb2)
      have Kq_2 := Lib.hid (Kq_1.out.below hb2)
      clear hb2
      have vd0 : w2.cell? ⟨w.heap.size, 0, none⟩ = some (.slice Ad0 d.points.length cd0) := Kd_2.out.cell 0
      have vd1 : w2.cell? ⟨w.heap.size, 1, none⟩ = some (.slice Ad1 d.segs.length cd1) := Kd_2.out.cell 1
      have vr0 : w2.cell? ⟨w.heap.size + 1, 0, none⟩ = some (.int .i64 r.gap) := Kr_2.out.cell 0
      have vr1 : w2.cell? ⟨w.heap.size + 1, 1, none⟩ = some (.bool r.noMeet) := Kr_2.out.cell 1
      have vp0 : w2.cell? ⟨w.heap.size + 2, 0, none⟩ = some (.int .i64 p.ship) := Kp_2.out.cell 0
      have vp1 : w2.cell? ⟨w.heap.size + 2, 1, none⟩ = some (.int .i64 p.segment) := Kp_2.out.cell 1
      have vp2 : w2.cell? ⟨w.heap.size + 2, 2, none⟩ = some (.bool p.toward) := Kp_2.out.cell 2
      have vp3 : w2.cell? ⟨w.heap.size + 2, 3, none⟩ = some (.int .i64 p.start) := Kp_2.out.cell 3
      have vp4 : w2.cell? ⟨w.heap.size + 2, 4, none⟩ = some (.int .i64 p.stop) := Kp_2.out.cell 4
      have vq0 : w2.cell? ⟨w.heap.size + 3, 0, none⟩ = some (.int .i64 q.ship) := Kq_2.out.cell 0
      have vq1 : w2.cell? ⟨w.heap.size + 3, 1, none⟩ = some (.int .i64 q.segment) := Kq_2.out.cell 1
      have vq2 : w2.cell? ⟨w.heap.size + 3, 2, none⟩ = some (.bool q.toward) := Kq_2.out.cell 2
      have vq3 : w2.cell? ⟨w.heap.size + 3, 3, none⟩ = some (.int .i64 q.start) := Kq_2.out.cell 3
      have vq4 : w2.cell? ⟨w.heap.size + 3, 4, none⟩ = some (.int .i64 q.stop) := Kq_2.out.cell 4
      go_wp2_with fail
      clear vd0 vd1 vr0 vr1 vp0 vp1 vp2 vp3 vp4 vq0 vq1 vq2 vq3 vq4
      refine (l01In_any _ _ _ _).mono ?_
      rw [Hb3.out]
      rintro e wz ⟨rfl, rfl⟩
      have vd0 : w2.cell? ⟨w.heap.size, 0, none⟩ = some (.slice Ad0 d.points.length cd0) := Kd_2.out.cell 0
      have vd1 : w2.cell? ⟨w.heap.size, 1, none⟩ = some (.slice Ad1 d.segs.length cd1) := Kd_2.out.cell 1
      have vr0 : w2.cell? ⟨w.heap.size + 1, 0, none⟩ = some (.int .i64 r.gap) := Kr_2.out.cell 0
      have vr1 : w2.cell? ⟨w.heap.size + 1, 1, none⟩ = some (.bool r.noMeet) := Kr_2.out.cell 1
      have vp0 : w2.cell? ⟨w.heap.size + 2, 0, none⟩ = some (.int .i64 p.ship) := Kp_2.out.cell 0
      have vp1 : w2.cell? ⟨w.heap.size + 2, 1, none⟩ = some (.int .i64 p.segment) := Kp_2.out.cell 1
      have vp2 : w2.cell? ⟨w.heap.size + 2, 2, none⟩ = some (.bool p.toward) := Kp_2.out.cell 2
      have vp3 : w2.cell? ⟨w.heap.size + 2, 3, none⟩ = some (.int .i64 p.start) := Kp_2.out.cell 3
      have vp4 : w2.cell? ⟨w.heap.size + 2, 4, none⟩ = some (.int .i64 p.stop) := Kp_2.out.cell 4
      have vq0 : w2.cell? ⟨w.heap.size + 3, 0, none⟩ = some (.int .i64 q.ship) := Kq_2.out.cell 0
      have vq1 : w2.cell? ⟨w.heap.size + 3, 1, none⟩ = some (.int .i64 q.segment) := Kq_2.out.cell 1
      have vq2 : w2.cell? ⟨w.heap.size + 3, 2, none⟩ = some (.bool q.toward) := Kq_2.out.cell 2
      have vq3 : w2.cell? ⟨w.heap.size + 3, 3, none⟩ = some (.int .i64 q.start) := Kq_2.out.cell 3
      have vq4 : w2.cell? ⟨w.heap.size + 3, 4, none⟩ = some (.int .i64 q.stop) := Kq_2.out.cell 4
      go_wp2_with fail
      clear vd0 vd1 vr0 vr1 vp0 vp1 vp2 vp3 vp4 vq0 vq1 vq2 vq3 vq4
      refine (l09Near_any p.start q.start r.gap _ Wf3.out Wg3.out HG.out).mono ?_
      rw [HN1.out]
      rintro e wz ⟨rfl, rfl⟩
      have vd0 : w2.cell? ⟨w.heap.size, 0, none⟩ = some (.slice Ad0 d.points.length cd0) := Kd_2.out.cell 0
      have vd1 : w2.cell? ⟨w.heap.size, 1, none⟩ = some (.slice Ad1 d.segs.length cd1) := Kd_2.out.cell 1
      have vr0 : w2.cell? ⟨w.heap.size + 1, 0, none⟩ = some (.int .i64 r.gap) := Kr_2.out.cell 0
      have vr1 : w2.cell? ⟨w.heap.size + 1, 1, none⟩ = some (.bool r.noMeet) := Kr_2.out.cell 1
      have vp0 : w2.cell? ⟨w.heap.size + 2, 0, none⟩ = some (.int .i64 p.ship) := Kp_2.out.cell 0
      have vp1 : w2.cell? ⟨w.heap.size + 2, 1, none⟩ = some (.int .i64 p.segment) := Kp_2.out.cell 1
      have vp2 : w2.cell? ⟨w.heap.size + 2, 2, none⟩ = some (.bool p.toward) := Kp_2.out.cell 2
      have vp3 : w2.cell? ⟨w.heap.size + 2, 3, none⟩ = some (.int .i64 p.start) := Kp_2.out.cell 3
      have vp4 : w2.cell? ⟨w.heap.size + 2, 4, none⟩ = some (.int .i64 p.stop) := Kp_2.out.cell 4
      have vq0 : w2.cell? ⟨w.heap.size + 3, 0, none⟩ = some (.int .i64 q.ship) := Kq_2.out.cell 0
      have vq1 : w2.cell? ⟨w.heap.size + 3, 1, none⟩ = some (.int .i64 q.segment) := Kq_2.out.cell 1
      have vq2 : w2.cell? ⟨w.heap.size + 3, 2, none⟩ = some (.bool q.toward) := Kq_2.out.cell 2
      have vq3 : w2.cell? ⟨w.heap.size + 3, 3, none⟩ = some (.int .i64 q.start) := Kq_2.out.cell 3
      have vq4 : w2.cell? ⟨w.heap.size + 3, 4, none⟩ = some (.int .i64 q.stop) := Kq_2.out.cell 4
      go_wp2_with fail
      clear vd0 vd1 vr0 vr1 vp0 vp1 vp2 vp3 vp4 vq0 vq1 vq2 vq3 vq4
      refine (l09Near_any p.stop q.stop r.gap _ Wf4.out Wg4.out HG.out).mono ?_
      rw [HN2.out]
      rintro e wz ⟨rfl, rfl⟩
      have vd0 : w2.cell? ⟨w.heap.size, 0, none⟩ = some (.slice Ad0 d.points.length cd0) := Kd_2.out.cell 0
      have vd1 : w2.cell? ⟨w.heap.size, 1, none⟩ = some (.slice Ad1 d.segs.length cd1) := Kd_2.out.cell 1
      have vr0 : w2.cell? ⟨w.heap.size + 1, 0, none⟩ = some (.int .i64 r.gap) := Kr_2.out.cell 0
      have vr1 : w2.cell? ⟨w.heap.size + 1, 1, none⟩ = some (.bool r.noMeet) := Kr_2.out.cell 1
      have vp0 : w2.cell? ⟨w.heap.size + 2, 0, none⟩ = some (.int .i64 p.ship) := Kp_2.out.cell 0
      have vp1 : w2.cell? ⟨w.heap.size + 2, 1, none⟩ = some (.int .i64 p.segment) := Kp_2.out.cell 1
      have vp2 : w2.cell? ⟨w.heap.size + 2, 2, none⟩ = some (.bool p.toward) := Kp_2.out.cell 2
      have vp3 : w2.cell? ⟨w.heap.size + 2, 3, none⟩ = some (.int .i64 p.start) := Kp_2.out.cell 3
      have vp4 : w2.cell? ⟨w.heap.size + 2, 4, none⟩ = some (.int .i64 p.stop) := Kp_2.out.cell 4
      have vq0 : w2.cell? ⟨w.heap.size + 3, 0, none⟩ = some (.int .i64 q.ship) := Kq_2.out.cell 0
      have vq1 : w2.cell? ⟨w.heap.size + 3, 1, none⟩ = some (.int .i64 q.segment) := Kq_2.out.cell 1
      have vq2 : w2.cell? ⟨w.heap.size + 3, 2, none⟩ = some (.bool q.toward) := Kq_2.out.cell 2
      have vq3 : w2.cell? ⟨w.heap.size + 3, 3, none⟩ = some (.int .i64 q.start) := Kq_2.out.cell 3
      have vq4 : w2.cell? ⟨w.heap.size + 3, 4, none⟩ = some (.int .i64 q.stop) := Kq_2.out.cell 4
      go_wp2
      go_ret
      exact ⟨ret_int E.out.symm, B2.out⟩
    · have t1' : decide (q.stop > p.stop) = false := decide_eq_false t1
      have t1'' : decide (p.stop < q.stop) = false := decide_eq_false t1
      have E := Lib.hid (show confI d r p q = 0 by rw [E2.out]; unfold passedB; simp <;> omega)
      go_enter Try.func27, Try.ntmps27
      have vd0 : W0.cell? ⟨w.heap.size, 0, none⟩ = some (.slice Ad0 d.points.length cd0) := Kd.out.cell 0
      have vd1 : W0.cell? ⟨w.heap.size, 1, none⟩ = some (.slice Ad1 d.segs.length cd1) := Kd.out.cell 1
      have vr0 : W0.cell? ⟨w.heap.size + 1, 0, none⟩ = some (.int .i64 r.gap) := Kr.out.cell 0
      have vr1 : W0.cell? ⟨w.heap.size + 1, 1, none⟩ = some (.bool r.noMeet) := Kr.out.cell 1
      have vp0 : W0.cell? ⟨w.heap.size + 2, 0, none⟩ = some (.int .i64 p.ship) := Kp.out.cell 0
      have vp1 : W0.cell? ⟨w.heap.size + 2, 1, none⟩ = some (.int .i64 p.segment) := Kp.out.cell 1
      have vp2 : W0.cell? ⟨w.heap.size + 2, 2, none⟩ = some (.bool p.toward) := Kp.out.cell 2
      have vp3 : W0.cell? ⟨w.heap.size + 2, 3, none⟩ = some (.int .i64 p.start) := Kp.out.cell 3
      have vp4 : W0.cell? ⟨w.heap.size + 2, 4, none⟩ = some (.int .i64 p.stop) := Kp.out.cell 4
      have vq0 : W0.cell? ⟨w.heap.size + 3, 0, none⟩ = some (.int .i64 q.ship) := Kq.out.cell 0
      have vq1 : W0.cell? ⟨w.heap.size + 3, 1, none⟩ = some (.int .i64 q.segment) := Kq.out.cell 1
      have vq2 : W0.cell? ⟨w.heap.size + 3, 2, none⟩ = some (.bool q.toward) := Kq.out.cell 2
      have vq3 : W0.cell? ⟨w.heap.size + 3, 3, none⟩ = some (.int .i64 q.start) := Kq.out.cell 3
      have vq4 : W0.cell? ⟨w.heap.size + 3, 4, none⟩ = some (.int .i64 q.stop) := Kq.out.cell 4
      go_wp2_with fail
      rw [← HW0.out]
      clear vd0 vd1 vr0 vr1 vp0 vp1 vp2 vp3 vp4 vq0 vq1 vq2 vq3 vq4
      refine (specChartOk _ _ d _ (Rd.out.below B.out) Nd.out).mono ?_
      rw [Hb1.out]
      rintro e w1 ⟨rfl, hb1⟩
      have B1 := Lib.hid (B.out.trans (hb1.mono B.out.size))
      have Kd_1 := Lib.hid (Kd.out.below hb1)
      have Kr_1 := Lib.hid (Kr.out.below hb1)
      have Kp_1 := Lib.hid (Kp.out.below hb1)
      have Kq_1 := Lib.hid (Kq.out.below hb1)
      clear hb1
      have vd0 : w1.cell? ⟨w.heap.size, 0, none⟩ = some (.slice Ad0 d.points.length cd0) := Kd_1.out.cell 0
      have vd1 : w1.cell? ⟨w.heap.size, 1, none⟩ = some (.slice Ad1 d.segs.length cd1) := Kd_1.out.cell 1
      have vr0 : w1.cell? ⟨w.heap.size + 1, 0, none⟩ = some (.int .i64 r.gap) := Kr_1.out.cell 0
      have vr1 : w1.cell? ⟨w.heap.size + 1, 1, none⟩ = some (.bool r.noMeet) := Kr_1.out.cell 1
      have vp0 : w1.cell? ⟨w.heap.size + 2, 0, none⟩ = some (.int .i64 p.ship) := Kp_1.out.cell 0
      have vp1 : w1.cell? ⟨w.heap.size + 2, 1, none⟩ = some (.int .i64 p.segment) := Kp_1.out.cell 1
      have vp2 : w1.cell? ⟨w.heap.size + 2, 2, none⟩ = some (.bool p.toward) := Kp_1.out.cell 2
      have vp3 : w1.cell? ⟨w.heap.size + 2, 3, none⟩ = some (.int .i64 p.start) := Kp_1.out.cell 3
      have vp4 : w1.cell? ⟨w.heap.size + 2, 4, none⟩ = some (.int .i64 p.stop) := Kp_1.out.cell 4
      have vq0 : w1.cell? ⟨w.heap.size + 3, 0, none⟩ = some (.int .i64 q.ship) := Kq_1.out.cell 0
      have vq1 : w1.cell? ⟨w.heap.size + 3, 1, none⟩ = some (.int .i64 q.segment) := Kq_1.out.cell 1
      have vq2 : w1.cell? ⟨w.heap.size + 3, 2, none⟩ = some (.bool q.toward) := Kq_1.out.cell 2
      have vq3 : w1.cell? ⟨w.heap.size + 3, 3, none⟩ = some (.int .i64 q.start) := Kq_1.out.cell 3
      have vq4 : w1.cell? ⟨w.heap.size + 3, 4, none⟩ = some (.int .i64 q.stop) := Kq_1.out.cell 4
      go_wp2_with fail
      clear vd0 vd1 vr0 vr1 vp0 vp1 vp2 vp3 vp4 vq0 vq1 vq2 vq3 vq4
      refine (specRegimeOk r _).mono ?_
      rw [Hb2.out]
      rintro e w2 ⟨rfl, hb2⟩
      have B2 := Lib.hid (B1.out.trans (hb2.mono B1.out.size))
      have Kd_2 := Lib.hid (Kd_1.out.below hb2)
      have Kr_2 := Lib.hid (Kr_1.out.below hb2)
      have Kp_2 := Lib.hid (Kp_1.out.below hb2)
      have Kq_2 := Lib.hid (Kq_1.out.below hb2)
      clear hb2
      have vd0 : w2.cell? ⟨w.heap.size, 0, none⟩ = some (.slice Ad0 d.points.length cd0) := Kd_2.out.cell 0
      have vd1 : w2.cell? ⟨w.heap.size, 1, none⟩ = some (.slice Ad1 d.segs.length cd1) := Kd_2.out.cell 1
      have vr0 : w2.cell? ⟨w.heap.size + 1, 0, none⟩ = some (.int .i64 r.gap) := Kr_2.out.cell 0
      have vr1 : w2.cell? ⟨w.heap.size + 1, 1, none⟩ = some (.bool r.noMeet) := Kr_2.out.cell 1
      have vp0 : w2.cell? ⟨w.heap.size + 2, 0, none⟩ = some (.int .i64 p.ship) := Kp_2.out.cell 0
      have vp1 : w2.cell? ⟨w.heap.size + 2, 1, none⟩ = some (.int .i64 p.segment) := Kp_2.out.cell 1
      have vp2 : w2.cell? ⟨w.heap.size + 2, 2, none⟩ = some (.bool p.toward) := Kp_2.out.cell 2
      have vp3 : w2.cell? ⟨w.heap.size + 2, 3, none⟩ = some (.int .i64 p.start) := Kp_2.out.cell 3
      have vp4 : w2.cell? ⟨w.heap.size + 2, 4, none⟩ = some (.int .i64 p.stop) := Kp_2.out.cell 4
      have vq0 : w2.cell? ⟨w.heap.size + 3, 0, none⟩ = some (.int .i64 q.ship) := Kq_2.out.cell 0
      have vq1 : w2.cell? ⟨w.heap.size + 3, 1, none⟩ = some (.int .i64 q.segment) := Kq_2.out.cell 1
      have vq2 : w2.cell? ⟨w.heap.size + 3, 2, none⟩ = some (.bool q.toward) := Kq_2.out.cell 2
      have vq3 : w2.cell? ⟨w.heap.size + 3, 3, none⟩ = some (.int .i64 q.start) := Kq_2.out.cell 3
      have vq4 : w2.cell? ⟨w.heap.size + 3, 4, none⟩ = some (.int .i64 q.stop) := Kq_2.out.cell 4
      go_wp2_with fail
      clear vd0 vd1 vr0 vr1 vp0 vp1 vp2 vp3 vp4 vq0 vq1 vq2 vq3 vq4
      refine (l01In_any _ _ _ _).mono ?_
      rw [Hb3.out]
      rintro e wz ⟨rfl, rfl⟩
      have vd0 : w2.cell? ⟨w.heap.size, 0, none⟩ = some (.slice Ad0 d.points.length cd0) := Kd_2.out.cell 0
      have vd1 : w2.cell? ⟨w.heap.size, 1, none⟩ = some (.slice Ad1 d.segs.length cd1) := Kd_2.out.cell 1
      have vr0 : w2.cell? ⟨w.heap.size + 1, 0, none⟩ = some (.int .i64 r.gap) := Kr_2.out.cell 0
      have vr1 : w2.cell? ⟨w.heap.size + 1, 1, none⟩ = some (.bool r.noMeet) := Kr_2.out.cell 1
      have vp0 : w2.cell? ⟨w.heap.size + 2, 0, none⟩ = some (.int .i64 p.ship) := Kp_2.out.cell 0
      have vp1 : w2.cell? ⟨w.heap.size + 2, 1, none⟩ = some (.int .i64 p.segment) := Kp_2.out.cell 1
      have vp2 : w2.cell? ⟨w.heap.size + 2, 2, none⟩ = some (.bool p.toward) := Kp_2.out.cell 2
      have vp3 : w2.cell? ⟨w.heap.size + 2, 3, none⟩ = some (.int .i64 p.start) := Kp_2.out.cell 3
      have vp4 : w2.cell? ⟨w.heap.size + 2, 4, none⟩ = some (.int .i64 p.stop) := Kp_2.out.cell 4
      have vq0 : w2.cell? ⟨w.heap.size + 3, 0, none⟩ = some (.int .i64 q.ship) := Kq_2.out.cell 0
      have vq1 : w2.cell? ⟨w.heap.size + 3, 1, none⟩ = some (.int .i64 q.segment) := Kq_2.out.cell 1
      have vq2 : w2.cell? ⟨w.heap.size + 3, 2, none⟩ = some (.bool q.toward) := Kq_2.out.cell 2
      have vq3 : w2.cell? ⟨w.heap.size + 3, 3, none⟩ = some (.int .i64 q.start) := Kq_2.out.cell 3
      have vq4 : w2.cell? ⟨w.heap.size + 3, 4, none⟩ = some (.int .i64 q.stop) := Kq_2.out.cell 4
      go_wp2_with fail
      clear vd0 vd1 vr0 vr1 vp0 vp1 vp2 vp3 vp4 vq0 vq1 vq2 vq3 vq4
      refine (l09Near_any p.start q.start r.gap _ Wf3.out Wg3.out HG.out).mono ?_
      rw [HN1.out]
      rintro e wz ⟨rfl, rfl⟩
      have vd0 : w2.cell? ⟨w.heap.size, 0, none⟩ = some (.slice Ad0 d.points.length cd0) := Kd_2.out.cell 0
      have vd1 : w2.cell? ⟨w.heap.size, 1, none⟩ = some (.slice Ad1 d.segs.length cd1) := Kd_2.out.cell 1
      have vr0 : w2.cell? ⟨w.heap.size + 1, 0, none⟩ = some (.int .i64 r.gap) := Kr_2.out.cell 0
      have vr1 : w2.cell? ⟨w.heap.size + 1, 1, none⟩ = some (.bool r.noMeet) := Kr_2.out.cell 1
      have vp0 : w2.cell? ⟨w.heap.size + 2, 0, none⟩ = some (.int .i64 p.ship) := Kp_2.out.cell 0
      have vp1 : w2.cell? ⟨w.heap.size + 2, 1, none⟩ = some (.int .i64 p.segment) := Kp_2.out.cell 1
      have vp2 : w2.cell? ⟨w.heap.size + 2, 2, none⟩ = some (.bool p.toward) := Kp_2.out.cell 2
      have vp3 : w2.cell? ⟨w.heap.size + 2, 3, none⟩ = some (.int .i64 p.start) := Kp_2.out.cell 3
      have vp4 : w2.cell? ⟨w.heap.size + 2, 4, none⟩ = some (.int .i64 p.stop) := Kp_2.out.cell 4
      have vq0 : w2.cell? ⟨w.heap.size + 3, 0, none⟩ = some (.int .i64 q.ship) := Kq_2.out.cell 0
      have vq1 : w2.cell? ⟨w.heap.size + 3, 1, none⟩ = some (.int .i64 q.segment) := Kq_2.out.cell 1
      have vq2 : w2.cell? ⟨w.heap.size + 3, 2, none⟩ = some (.bool q.toward) := Kq_2.out.cell 2
      have vq3 : w2.cell? ⟨w.heap.size + 3, 3, none⟩ = some (.int .i64 q.start) := Kq_2.out.cell 3
      have vq4 : w2.cell? ⟨w.heap.size + 3, 4, none⟩ = some (.int .i64 q.stop) := Kq_2.out.cell 4
      go_wp2_with fail
      clear vd0 vd1 vr0 vr1 vp0 vp1 vp2 vp3 vp4 vq0 vq1 vq2 vq3 vq4
      refine (l09Near_any p.stop q.stop r.gap _ Wf4.out Wg4.out HG.out).mono ?_
      rw [HN2.out]
      rintro e wz ⟨rfl, rfl⟩
      have vd0 : w2.cell? ⟨w.heap.size, 0, none⟩ = some (.slice Ad0 d.points.length cd0) := Kd_2.out.cell 0
      have vd1 : w2.cell? ⟨w.heap.size, 1, none⟩ = some (.slice Ad1 d.segs.length cd1) := Kd_2.out.cell 1
      have vr0 : w2.cell? ⟨w.heap.size + 1, 0, none⟩ = some (.int .i64 r.gap) := Kr_2.out.cell 0
      have vr1 : w2.cell? ⟨w.heap.size + 1, 1, none⟩ = some (.bool r.noMeet) := Kr_2.out.cell 1
      have vp0 : w2.cell? ⟨w.heap.size + 2, 0, none⟩ = some (.int .i64 p.ship) := Kp_2.out.cell 0
      have vp1 : w2.cell? ⟨w.heap.size + 2, 1, none⟩ = some (.int .i64 p.segment) := Kp_2.out.cell 1
      have vp2 : w2.cell? ⟨w.heap.size + 2, 2, none⟩ = some (.bool p.toward) := Kp_2.out.cell 2
      have vp3 : w2.cell? ⟨w.heap.size + 2, 3, none⟩ = some (.int .i64 p.start) := Kp_2.out.cell 3
      have vp4 : w2.cell? ⟨w.heap.size + 2, 4, none⟩ = some (.int .i64 p.stop) := Kp_2.out.cell 4
      have vq0 : w2.cell? ⟨w.heap.size + 3, 0, none⟩ = some (.int .i64 q.ship) := Kq_2.out.cell 0
      have vq1 : w2.cell? ⟨w.heap.size + 3, 1, none⟩ = some (.int .i64 q.segment) := Kq_2.out.cell 1
      have vq2 : w2.cell? ⟨w.heap.size + 3, 2, none⟩ = some (.bool q.toward) := Kq_2.out.cell 2
      have vq3 : w2.cell? ⟨w.heap.size + 3, 3, none⟩ = some (.int .i64 q.start) := Kq_2.out.cell 3
      have vq4 : w2.cell? ⟨w.heap.size + 3, 4, none⟩ = some (.int .i64 q.stop) := Kq_2.out.cell 4
      go_wp2
      go_ret
      exact ⟨ret_int E.out.symm, B2.out⟩
  have s2' : decide (q.start < p.start) = false := decide_eq_false s2
  have E := Lib.hid (show confI d r p q = 0 by rw [E2.out]; unfold passedB; simp <;> omega)
  go_enter Try.func27, Try.ntmps27
  have vd0 : W0.cell? ⟨w.heap.size, 0, none⟩ = some (.slice Ad0 d.points.length cd0) := Kd.out.cell 0
  have vd1 : W0.cell? ⟨w.heap.size, 1, none⟩ = some (.slice Ad1 d.segs.length cd1) := Kd.out.cell 1
  have vr0 : W0.cell? ⟨w.heap.size + 1, 0, none⟩ = some (.int .i64 r.gap) := Kr.out.cell 0
  have vr1 : W0.cell? ⟨w.heap.size + 1, 1, none⟩ = some (.bool r.noMeet) := Kr.out.cell 1
  have vp0 : W0.cell? ⟨w.heap.size + 2, 0, none⟩ = some (.int .i64 p.ship) := Kp.out.cell 0
  have vp1 : W0.cell? ⟨w.heap.size + 2, 1, none⟩ = some (.int .i64 p.segment) := Kp.out.cell 1
  have vp2 : W0.cell? ⟨w.heap.size + 2, 2, none⟩ = some (.bool p.toward) := Kp.out.cell 2
  have vp3 : W0.cell? ⟨w.heap.size + 2, 3, none⟩ = some (.int .i64 p.start) := Kp.out.cell 3
  have vp4 : W0.cell? ⟨w.heap.size + 2, 4, none⟩ = some (.int .i64 p.stop) := Kp.out.cell 4
  have vq0 : W0.cell? ⟨w.heap.size + 3, 0, none⟩ = some (.int .i64 q.ship) := Kq.out.cell 0
  have vq1 : W0.cell? ⟨w.heap.size + 3, 1, none⟩ = some (.int .i64 q.segment) := Kq.out.cell 1
  have vq2 : W0.cell? ⟨w.heap.size + 3, 2, none⟩ = some (.bool q.toward) := Kq.out.cell 2
  have vq3 : W0.cell? ⟨w.heap.size + 3, 3, none⟩ = some (.int .i64 q.start) := Kq.out.cell 3
  have vq4 : W0.cell? ⟨w.heap.size + 3, 4, none⟩ = some (.int .i64 q.stop) := Kq.out.cell 4
  go_wp2_with fail
  rw [← HW0.out]
  clear vd0 vd1 vr0 vr1 vp0 vp1 vp2 vp3 vp4 vq0 vq1 vq2 vq3 vq4
  refine (specChartOk _ _ d _ (Rd.out.below B.out) Nd.out).mono ?_
  rw [Hb1.out]
  rintro e w1 ⟨rfl, hb1⟩
  have B1 := Lib.hid (B.out.trans (hb1.mono B.out.size))
  have Kd_1 := Lib.hid (Kd.out.below hb1)
  have Kr_1 := Lib.hid (Kr.out.below hb1)
  have Kp_1 := Lib.hid (Kp.out.below hb1)
  have Kq_1 := Lib.hid (Kq.out.below hb1)
  clear hb1
  have vd0 : w1.cell? ⟨w.heap.size, 0, none⟩ = some (.slice Ad0 d.points.length cd0) := Kd_1.out.cell 0
  have vd1 : w1.cell? ⟨w.heap.size, 1, none⟩ = some (.slice Ad1 d.segs.length cd1) := Kd_1.out.cell 1
  have vr0 : w1.cell? ⟨w.heap.size + 1, 0, none⟩ = some (.int .i64 r.gap) := Kr_1.out.cell 0
  have vr1 : w1.cell? ⟨w.heap.size + 1, 1, none⟩ = some (.bool r.noMeet) := Kr_1.out.cell 1
  have vp0 : w1.cell? ⟨w.heap.size + 2, 0, none⟩ = some (.int .i64 p.ship) := Kp_1.out.cell 0
  have vp1 : w1.cell? ⟨w.heap.size + 2, 1, none⟩ = some (.int .i64 p.segment) := Kp_1.out.cell 1
  have vp2 : w1.cell? ⟨w.heap.size + 2, 2, none⟩ = some (.bool p.toward) := Kp_1.out.cell 2
  have vp3 : w1.cell? ⟨w.heap.size + 2, 3, none⟩ = some (.int .i64 p.start) := Kp_1.out.cell 3
  have vp4 : w1.cell? ⟨w.heap.size + 2, 4, none⟩ = some (.int .i64 p.stop) := Kp_1.out.cell 4
  have vq0 : w1.cell? ⟨w.heap.size + 3, 0, none⟩ = some (.int .i64 q.ship) := Kq_1.out.cell 0
  have vq1 : w1.cell? ⟨w.heap.size + 3, 1, none⟩ = some (.int .i64 q.segment) := Kq_1.out.cell 1
  have vq2 : w1.cell? ⟨w.heap.size + 3, 2, none⟩ = some (.bool q.toward) := Kq_1.out.cell 2
  have vq3 : w1.cell? ⟨w.heap.size + 3, 3, none⟩ = some (.int .i64 q.start) := Kq_1.out.cell 3
  have vq4 : w1.cell? ⟨w.heap.size + 3, 4, none⟩ = some (.int .i64 q.stop) := Kq_1.out.cell 4
  go_wp2_with fail
  clear vd0 vd1 vr0 vr1 vp0 vp1 vp2 vp3 vp4 vq0 vq1 vq2 vq3 vq4
  refine (specRegimeOk r _).mono ?_
  rw [Hb2.out]
  rintro e w2 ⟨rfl, hb2⟩
  have B2 := Lib.hid (B1.out.trans (hb2.mono B1.out.size))
  have Kd_2 := Lib.hid (Kd_1.out.below hb2)
  have Kr_2 := Lib.hid (Kr_1.out.below hb2)
  have Kp_2 := Lib.hid (Kp_1.out.below hb2)
  have Kq_2 := Lib.hid (Kq_1.out.below hb2)
  clear hb2
  have vd0 : w2.cell? ⟨w.heap.size, 0, none⟩ = some (.slice Ad0 d.points.length cd0) := Kd_2.out.cell 0
  have vd1 : w2.cell? ⟨w.heap.size, 1, none⟩ = some (.slice Ad1 d.segs.length cd1) := Kd_2.out.cell 1
  have vr0 : w2.cell? ⟨w.heap.size + 1, 0, none⟩ = some (.int .i64 r.gap) := Kr_2.out.cell 0
  have vr1 : w2.cell? ⟨w.heap.size + 1, 1, none⟩ = some (.bool r.noMeet) := Kr_2.out.cell 1
  have vp0 : w2.cell? ⟨w.heap.size + 2, 0, none⟩ = some (.int .i64 p.ship) := Kp_2.out.cell 0
  have vp1 : w2.cell? ⟨w.heap.size + 2, 1, none⟩ = some (.int .i64 p.segment) := Kp_2.out.cell 1
  have vp2 : w2.cell? ⟨w.heap.size + 2, 2, none⟩ = some (.bool p.toward) := Kp_2.out.cell 2
  have vp3 : w2.cell? ⟨w.heap.size + 2, 3, none⟩ = some (.int .i64 p.start) := Kp_2.out.cell 3
  have vp4 : w2.cell? ⟨w.heap.size + 2, 4, none⟩ = some (.int .i64 p.stop) := Kp_2.out.cell 4
  have vq0 : w2.cell? ⟨w.heap.size + 3, 0, none⟩ = some (.int .i64 q.ship) := Kq_2.out.cell 0
  have vq1 : w2.cell? ⟨w.heap.size + 3, 1, none⟩ = some (.int .i64 q.segment) := Kq_2.out.cell 1
  have vq2 : w2.cell? ⟨w.heap.size + 3, 2, none⟩ = some (.bool q.toward) := Kq_2.out.cell 2
  have vq3 : w2.cell? ⟨w.heap.size + 3, 3, none⟩ = some (.int .i64 q.start) := Kq_2.out.cell 3
  have vq4 : w2.cell? ⟨w.heap.size + 3, 4, none⟩ = some (.int .i64 q.stop) := Kq_2.out.cell 4
  go_wp2_with fail
  clear vd0 vd1 vr0 vr1 vp0 vp1 vp2 vp3 vp4 vq0 vq1 vq2 vq3 vq4
  refine (l01In_any _ _ _ _).mono ?_
  rw [Hb3.out]
  rintro e wz ⟨rfl, rfl⟩
  have vd0 : w2.cell? ⟨w.heap.size, 0, none⟩ = some (.slice Ad0 d.points.length cd0) := Kd_2.out.cell 0
  have vd1 : w2.cell? ⟨w.heap.size, 1, none⟩ = some (.slice Ad1 d.segs.length cd1) := Kd_2.out.cell 1
  have vr0 : w2.cell? ⟨w.heap.size + 1, 0, none⟩ = some (.int .i64 r.gap) := Kr_2.out.cell 0
  have vr1 : w2.cell? ⟨w.heap.size + 1, 1, none⟩ = some (.bool r.noMeet) := Kr_2.out.cell 1
  have vp0 : w2.cell? ⟨w.heap.size + 2, 0, none⟩ = some (.int .i64 p.ship) := Kp_2.out.cell 0
  have vp1 : w2.cell? ⟨w.heap.size + 2, 1, none⟩ = some (.int .i64 p.segment) := Kp_2.out.cell 1
  have vp2 : w2.cell? ⟨w.heap.size + 2, 2, none⟩ = some (.bool p.toward) := Kp_2.out.cell 2
  have vp3 : w2.cell? ⟨w.heap.size + 2, 3, none⟩ = some (.int .i64 p.start) := Kp_2.out.cell 3
  have vp4 : w2.cell? ⟨w.heap.size + 2, 4, none⟩ = some (.int .i64 p.stop) := Kp_2.out.cell 4
  have vq0 : w2.cell? ⟨w.heap.size + 3, 0, none⟩ = some (.int .i64 q.ship) := Kq_2.out.cell 0
  have vq1 : w2.cell? ⟨w.heap.size + 3, 1, none⟩ = some (.int .i64 q.segment) := Kq_2.out.cell 1
  have vq2 : w2.cell? ⟨w.heap.size + 3, 2, none⟩ = some (.bool q.toward) := Kq_2.out.cell 2
  have vq3 : w2.cell? ⟨w.heap.size + 3, 3, none⟩ = some (.int .i64 q.start) := Kq_2.out.cell 3
  have vq4 : w2.cell? ⟨w.heap.size + 3, 4, none⟩ = some (.int .i64 q.stop) := Kq_2.out.cell 4
  go_wp2_with fail
  clear vd0 vd1 vr0 vr1 vp0 vp1 vp2 vp3 vp4 vq0 vq1 vq2 vq3 vq4
  refine (l09Near_any p.start q.start r.gap _ Wf3.out Wg3.out HG.out).mono ?_
  rw [HN1.out]
  rintro e wz ⟨rfl, rfl⟩
  have vd0 : w2.cell? ⟨w.heap.size, 0, none⟩ = some (.slice Ad0 d.points.length cd0) := Kd_2.out.cell 0
  have vd1 : w2.cell? ⟨w.heap.size, 1, none⟩ = some (.slice Ad1 d.segs.length cd1) := Kd_2.out.cell 1
  have vr0 : w2.cell? ⟨w.heap.size + 1, 0, none⟩ = some (.int .i64 r.gap) := Kr_2.out.cell 0
  have vr1 : w2.cell? ⟨w.heap.size + 1, 1, none⟩ = some (.bool r.noMeet) := Kr_2.out.cell 1
  have vp0 : w2.cell? ⟨w.heap.size + 2, 0, none⟩ = some (.int .i64 p.ship) := Kp_2.out.cell 0
  have vp1 : w2.cell? ⟨w.heap.size + 2, 1, none⟩ = some (.int .i64 p.segment) := Kp_2.out.cell 1
  have vp2 : w2.cell? ⟨w.heap.size + 2, 2, none⟩ = some (.bool p.toward) := Kp_2.out.cell 2
  have vp3 : w2.cell? ⟨w.heap.size + 2, 3, none⟩ = some (.int .i64 p.start) := Kp_2.out.cell 3
  have vp4 : w2.cell? ⟨w.heap.size + 2, 4, none⟩ = some (.int .i64 p.stop) := Kp_2.out.cell 4
  have vq0 : w2.cell? ⟨w.heap.size + 3, 0, none⟩ = some (.int .i64 q.ship) := Kq_2.out.cell 0
  have vq1 : w2.cell? ⟨w.heap.size + 3, 1, none⟩ = some (.int .i64 q.segment) := Kq_2.out.cell 1
  have vq2 : w2.cell? ⟨w.heap.size + 3, 2, none⟩ = some (.bool q.toward) := Kq_2.out.cell 2
  have vq3 : w2.cell? ⟨w.heap.size + 3, 3, none⟩ = some (.int .i64 q.start) := Kq_2.out.cell 3
  have vq4 : w2.cell? ⟨w.heap.size + 3, 4, none⟩ = some (.int .i64 q.stop) := Kq_2.out.cell 4
  go_wp2_with fail
  clear vd0 vd1 vr0 vr1 vp0 vp1 vp2 vp3 vp4 vq0 vq1 vq2 vq3 vq4
  refine (l09Near_any p.stop q.stop r.gap _ Wf4.out Wg4.out HG.out).mono ?_
  rw [HN2.out]
  rintro e wz ⟨rfl, rfl⟩
  have vd0 : w2.cell? ⟨w.heap.size, 0, none⟩ = some (.slice Ad0 d.points.length cd0) := Kd_2.out.cell 0
  have vd1 : w2.cell? ⟨w.heap.size, 1, none⟩ = some (.slice Ad1 d.segs.length cd1) := Kd_2.out.cell 1
  have vr0 : w2.cell? ⟨w.heap.size + 1, 0, none⟩ = some (.int .i64 r.gap) := Kr_2.out.cell 0
  have vr1 : w2.cell? ⟨w.heap.size + 1, 1, none⟩ = some (.bool r.noMeet) := Kr_2.out.cell 1
  have vp0 : w2.cell? ⟨w.heap.size + 2, 0, none⟩ = some (.int .i64 p.ship) := Kp_2.out.cell 0
  have vp1 : w2.cell? ⟨w.heap.size + 2, 1, none⟩ = some (.int .i64 p.segment) := Kp_2.out.cell 1
  have vp2 : w2.cell? ⟨w.heap.size + 2, 2, none⟩ = some (.bool p.toward) := Kp_2.out.cell 2
  have vp3 : w2.cell? ⟨w.heap.size + 2, 3, none⟩ = some (.int .i64 p.start) := Kp_2.out.cell 3
  have vp4 : w2.cell? ⟨w.heap.size + 2, 4, none⟩ = some (.int .i64 p.stop) := Kp_2.out.cell 4
  have vq0 : w2.cell? ⟨w.heap.size + 3, 0, none⟩ = some (.int .i64 q.ship) := Kq_2.out.cell 0
  have vq1 : w2.cell? ⟨w.heap.size + 3, 1, none⟩ = some (.int .i64 q.segment) := Kq_2.out.cell 1
  have vq2 : w2.cell? ⟨w.heap.size + 3, 2, none⟩ = some (.bool q.toward) := Kq_2.out.cell 2
  have vq3 : w2.cell? ⟨w.heap.size + 3, 3, none⟩ = some (.int .i64 q.start) := Kq_2.out.cell 3
  have vq4 : w2.cell? ⟨w.heap.size + 3, 4, none⟩ = some (.int .i64 q.stop) := Kq_2.out.cell 4
  go_wp2
  go_ret
  exact ⟨ret_int E.out.symm, B2.out⟩
end Go.Proofs.Ytpglaffmmddcdaa
