
/- What ExactPassageOk and ExactArrivalOf and ExactPassagesOf and ExactIsChain rests on, part 23: contracts and mathematics. -/
import Derived.Test.YtooeikimoheecaaPa19
import Derived.Test.YtooeikimoheecaaPa14
import Derived.Test.YtooeikimoheecaaPa9
import Derived.StillTailTactics
import Derived.Deep.DeepCutAuto
namespace Go.Proofs.Ytooeikimoheecaa
open Go.RowKit
set_option maxRecDepth 100000
set_option maxHeartbeats 4000000 in
theorem endsOf_any (v0 v1 : Value) (d : ChartD) (ps pg pa po : Int) (pt : Bool) (g : SegmentD) (w : World) (h : RdChart w v0 v1 d) (hg : segAt d pg = some g) :
    Calls Try.prog 113 #[.agg #[v0, v1], .agg #[.int .i64 ps, .int .i64 pg, .bool pt, .int .i64 pa, .int .i64 po]] w fun e w' => e = .returned (.tuple #[.int .i64 (headOf g pt), .int .i64 (tailOf g pt)]) ∧ Below w.heap.size w w' := by
  have hin : inB pg 0 ((d.segs.length : Int) - 1) = true := by
    cases hb : inB pg 0 ((d.segs.length : Int) - 1) with
    | true => rfl
    | false => rw [segAt_out hb] at hg; cases hg
  obtain ⟨g2, hg2, hx, i0, il⟩ := segAt_in hin
  obtain rfl : g2 = g := by rw [hg] at hg2; injection hg2 with e; exact e.symm
  obtain ⟨k, rfl⟩ : ∃ k : Nat, pg = (k : Int) := ⟨pg.toNat, by omega⟩
  simp only [Int.toNat_natCast] at hx il
  obtain ⟨h0, h1⟩ := h
  obtain ⟨A0, c0, rfl⟩ := h0.at
  have hdl := h1.1
  rcases h1.2 with ⟨he, _⟩ | ⟨g', o', c', rfl, hpos, hcap, hc⟩
  · rw [he] at il; simp at il
  obtain ⟨q0, q1, q2, q3, q4⟩ := SlSegment.cells hc k g2 hx
  obtain ⟨W0, hW0⟩ : ∃ W0, W0 = ((w.alloc (.cells #[.slice A0 d.points.length c0, .slice (some ⟨g', o', none⟩) d.segs.length c'] 32)).alloc (.cells #[.int .i64 ps, .int .i64 (k : Int), .bool pt, .int .i64 pa, .int .i64 po] 67)) := ⟨_, rfl⟩
  have HW0 := Lib.hid hW0
  have B := Lib.hid (Joins.below_alloc2 w (.cells #[.slice A0 d.points.length c0, .slice (some ⟨g', o', none⟩) d.segs.length c'] 32) (.cells #[.int .i64 ps, .int .i64 (k : Int), .bool pt, .int .i64 pa, .int .i64 po] 67))
  have KC := Lib.hid ((Blk.new w #[.slice A0 d.points.length c0, .slice (some ⟨g', o', none⟩) d.segs.length c'] 32).below (Joins.below_alloc1 _ (.cells #[.int .i64 ps, .int .i64 (k : Int), .bool pt, .int .i64 pa, .int .i64 po] 67)))
  have KP := Lib.hid (Blk.new (w.alloc (.cells #[.slice A0 d.points.length c0, .slice (some ⟨g', o', none⟩) d.segs.length c'] 32)) #[.int .i64 ps, .int .i64 (k : Int), .bool pt, .int .i64 pa, .int .i64 po] 67)
  rw [World.size_alloc] at KP
  rw [← hW0] at B KC KP
  have y0 := cell_onV q0 B.out
  have y1 := cell_onV q1 B.out
  have y2 := cell_onV q2 B.out
  have y3 := cell_onV q3 B.out
  have y4 := cell_onV q4 B.out
  clear hW0 q0 q1 q2 q3 q4 hc hx hg hg2 hin i0 h0 h1
  obtain ⟨ga, gb, gd, gm, ge⟩ := g2
  dsimp only at y0 y1 y2 y3 y4
  have BA := Lib.hid (B.out.alloc B.out.size (.cells #[.int .i64 ga, .int .i64 gb, .int .i64 gd, .int .i64 gm, .bool ge] 123))
  have p0 : W0.cell? ⟨w.heap.size, 0, none⟩ = some (.slice A0 d.points.length c0) := KC.out.cell 0
  have p1 : W0.cell? ⟨w.heap.size, 1, none⟩ = some (.slice (some ⟨g', o', none⟩) d.segs.length c') := KC.out.cell 1
  have s0 : W0.cell? ⟨w.heap.size + 1, 0, none⟩ = some (.int .i64 ps) := KP.out.cell 0
  have s1 : W0.cell? ⟨w.heap.size + 1, 1, none⟩ = some (.int .i64 (k : Int)) := KP.out.cell 1
  have s2 : W0.cell? ⟨w.heap.size + 1, 2, none⟩ = some (.bool pt) := KP.out.cell 2
  have s3 : W0.cell? ⟨w.heap.size + 1, 3, none⟩ = some (.int .i64 pa) := KP.out.cell 3
  have s4 : W0.cell? ⟨w.heap.size + 1, 4, none⟩ = some (.int .i64 po) := KP.out.cell 4
  obtain ⟨W1, hW1⟩ : ∃ W1, W1 = W0.alloc (.cells #[.int .i64 ga, .int .i64 gb, .int .i64 gd, .int .i64 gm, .bool ge] 123) := ⟨_, rfl⟩
  have HW1 := Lib.hid hW1
  rw [← hW1] at BA
  have KS := Blk.new W0 #[.int .i64 ga, .int .i64 gb, .int .i64 gd, .int .i64 gm, .bool ge] 123
  rw [← hW1] at KS
  have t2 : W1.cell? ⟨w.heap.size + 1, 2, none⟩ = some (.bool pt) := by rw [hW1]; exact (KP.out.below (Joins.below_alloc1 _ _)).cell 2
  have u0 : W1.cell? ⟨W0.heap.size, 0, none⟩ = some (.int .i64 ga) := KS.cell 0
  have u1 : W1.cell? ⟨W0.heap.size, 1, none⟩ = some (.int .i64 gb) := KS.cell 1
  have u2 : W1.cell? ⟨W0.heap.size, 2, none⟩ = some (.int .i64 gd) := KS.cell 2
  have u3 : W1.cell? ⟨W0.heap.size, 3, none⟩ = some (.int .i64 gm) := KS.cell 3
  have u4 : W1.cell? ⟨W0.heap.size, 4, none⟩ = some (.bool ge) := KS.cell 4
  clear hW1 KS
  cases pt with
  | true =>
    go_enter Try.func113, Try.ntmps113
    go_upto_region 1 with fail
    rw [← HW0.out]
    go_upto_region 2 with fail
    rw [← HW1.out]
    clear y0 y1 y2 y3 y4 p0 p1 s0 s1 s2 s3 s4
    go_upto_region 3 with fail
    go_quiet (fail)
    go_wp2
    refine bodyPost_ret (v := .tuple #[.int .i64 ga, .int .i64 gb]) (by simp [results, Try.results113, go_sem, *]) rfl ⟨rfl, ?_⟩
    repeat (first | exact BA.out | refine below_drewN ?_ _ | refine Below.setCell ?_ (by first | omega | (simp <;> omega)) _)
  | false =>
    go_enter Try.func113, Try.ntmps113
    go_upto_region 1 with fail
    rw [← HW0.out]
    go_upto_region 2 with fail
    rw [← HW1.out]
    clear y0 y1 y2 y3 y4 p0 p1 s0 s1 s2 s3 s4
    go_upto_region 4 with fail
    go_quiet (fail)
    go_wp2
    refine bodyPost_ret (v := .tuple #[.int .i64 gb, .int .i64 ga]) (by simp [results, Try.results113, go_sem, *]) rfl ⟨rfl, ?_⟩
    repeat (first | exact BA.out | refine below_drewN ?_ _ | refine Below.setCell ?_ (by first | omega | (simp <;> omega)) _)
set_option maxHeartbeats 8000000 in
theorem goesOn_any (yd0 yd1 : Value) (d : ChartD) (q : PassageD) (p : PassageD) (g h : SegmentD) (w : World) (rd : RdChart w yd0 yd1 d) (fd : ∀ x ∈ d.points, PointD.wf x) (hg : segAt d p.segment = some g) (hh : segAt d q.segment = some h) :
    Calls Try.prog 82 #[.agg #[yd0, yd1], q.val, p.val] w (fun e w' => e = .returned (.bool (((p.ship == q.ship) && (headOf g p.toward == tailOf h q.toward) && decide (q.stop ≤ p.start)))) ∧ Below w.heap.size w w') := by
  have Rd := Lib.hid rd
  obtain ⟨rd0, rd1⟩ := rd
  obtain ⟨Ad0, cd0, rfl⟩ := SlOf.form rd0
  obtain ⟨Ad1, cd1, rfl⟩ := SlOf.form rd1
  have Nd := Lib.hid fd
  clear fd
  clear rd0 rd1
  obtain ⟨W0, hW0⟩ : ∃ W0, W0 = (((w.alloc (.cells #[.slice Ad0 d.points.length cd0, .slice Ad1 d.segs.length cd1] 32)).alloc (.cells #[.int .i64 q.ship, .int .i64 q.segment, .bool q.toward, .int .i64 q.start, .int .i64 q.stop] 67)).alloc (.cells #[.int .i64 p.ship, .int .i64 p.segment, .bool p.toward, .int .i64 p.start, .int .i64 p.stop] 67)) := ⟨_, rfl⟩
  have B := Lib.hid (((Joins.below_alloc1 w (.cells #[.slice Ad0 d.points.length cd0, .slice Ad1 d.segs.length cd1] 32)).trans ((Joins.below_alloc1 (w.alloc (.cells #[.slice Ad0 d.points.length cd0, .slice Ad1 d.segs.length cd1] 32)) (.cells #[.int .i64 q.ship, .int .i64 q.segment, .bool q.toward, .int .i64 q.start, .int .i64 q.stop] 67)).mono (by simp; try omega))).trans ((Joins.below_alloc1 ((w.alloc (.cells #[.slice Ad0 d.points.length cd0, .slice Ad1 d.segs.length cd1] 32)).alloc (.cells #[.int .i64 q.ship, .int .i64 q.segment, .bool q.toward, .int .i64 q.start, .int .i64 q.stop] 67)) (.cells #[.int .i64 p.ship, .int .i64 p.segment, .bool p.toward, .int .i64 p.start, .int .i64 p.stop] 67)).mono (by simp; try omega)))
  have Kd := Lib.hid (((Blk.new w #[.slice Ad0 d.points.length cd0, .slice Ad1 d.segs.length cd1] 32).below (Joins.below_alloc1 _ (.cells #[.int .i64 q.ship, .int .i64 q.segment, .bool q.toward, .int .i64 q.start, .int .i64 q.stop] 67))).below (Joins.below_alloc1 _ (.cells #[.int .i64 p.ship, .int .i64 p.segment, .bool p.toward, .int .i64 p.start, .int .i64 p.stop] 67)))
  have Kq := Lib.hid ((Blk.new (w.alloc (.cells #[.slice Ad0 d.points.length cd0, .slice Ad1 d.segs.length cd1] 32)) #[.int .i64 q.ship, .int .i64 q.segment, .bool q.toward, .int .i64 q.start, .int .i64 q.stop] 67).below (Joins.below_alloc1 _ (.cells #[.int .i64 p.ship, .int .i64 p.segment, .bool p.toward, .int .i64 p.start, .int .i64 p.stop] 67)))
  rw [World.size_alloc] at Kq
  have Kp := Lib.hid (Blk.new ((w.alloc (.cells #[.slice Ad0 d.points.length cd0, .slice Ad1 d.segs.length cd1] 32)).alloc (.cells #[.int .i64 q.ship, .int .i64 q.segment, .bool q.toward, .int .i64 q.start, .int .i64 q.stop] 67)) #[.int .i64 p.ship, .int .i64 p.segment, .bool p.toward, .int .i64 p.start, .int .i64 p.stop] 67)
  rw [World.size_alloc, World.size_alloc] at Kp
  have HW0 := Lib.hid hW0
  rw [← hW0] at B Kd Kq Kp
  clear hW0
  have HG := Lib.hid hg
  have HH := Lib.hid hh
  clear hg hh
  obtain ⟨b1, hb1⟩ : ∃ b, (p.ship == q.ship) = b := ⟨_, rfl⟩
  rw [hb1]
  obtain ⟨b2, hb2⟩ : ∃ b, (headOf g p.toward == tailOf h q.toward) = b := ⟨_, rfl⟩
  rw [hb2]
  obtain ⟨b3, hb3⟩ : ∃ b, decide (q.stop ≤ p.start) = b := ⟨_, rfl⟩
  rw [hb3]
  have hb3' : decide (p.start ≥ q.stop) = b3 := hb3
  cases b1 with
  | false =>
    go_enter Try.func82, Try.ntmps82
    have vd0 : W0.cell? ⟨w.heap.size, 0, none⟩ = some (.slice Ad0 d.points.length cd0) := Kd.out.cell 0
    have vd1 : W0.cell? ⟨w.heap.size, 1, none⟩ = some (.slice Ad1 d.segs.length cd1) := Kd.out.cell 1
    have vq0 : W0.cell? ⟨w.heap.size + 1, 0, none⟩ = some (.int .i64 q.ship) := Kq.out.cell 0
    have vq1 : W0.cell? ⟨w.heap.size + 1, 1, none⟩ = some (.int .i64 q.segment) := Kq.out.cell 1
    have vq2 : W0.cell? ⟨w.heap.size + 1, 2, none⟩ = some (.bool q.toward) := Kq.out.cell 2
    have vq3 : W0.cell? ⟨w.heap.size + 1, 3, none⟩ = some (.int .i64 q.start) := Kq.out.cell 3
    have vq4 : W0.cell? ⟨w.heap.size + 1, 4, none⟩ = some (.int .i64 q.stop) := Kq.out.cell 4
    have vp0 : W0.cell? ⟨w.heap.size + 2, 0, none⟩ = some (.int .i64 p.ship) := Kp.out.cell 0
    have vp1 : W0.cell? ⟨w.heap.size + 2, 1, none⟩ = some (.int .i64 p.segment) := Kp.out.cell 1
    have vp2 : W0.cell? ⟨w.heap.size + 2, 2, none⟩ = some (.bool p.toward) := Kp.out.cell 2
    have vp3 : W0.cell? ⟨w.heap.size + 2, 3, none⟩ = some (.int .i64 p.start) := Kp.out.cell 3
    have vp4 : W0.cell? ⟨w.heap.size + 2, 4, none⟩ = some (.int .i64 p.stop) := Kp.out.cell 4
    go_wp2_with fail
    rw [← HW0.out]
    clear vd0 vd1 vq0 vq1 vq2 vq3 vq4 vp0 vp1 vp2 vp3 vp4
    refine (endsOf_any _ _ d q.ship q.segment q.start q.stop q.toward h _ (Rd.out.below B.out) HH.out).mono ?_
    rintro e w1 ⟨rfl, hb1⟩
    have B1 := Lib.hid (B.out.trans (hb1.mono B.out.size))
    have Kd_1 := Lib.hid (Kd.out.below hb1)
    have Kq_1 := Lib.hid (Kq.out.below hb1)
    have Kp_1 := Lib.hid (Kp.out.below hb1)
    clear hb1
    have vd0 : w1.cell? ⟨w.heap.size, 0, none⟩ = some (.slice Ad0 d.points.length cd0) := Kd_1.out.cell 0
    have vd1 : w1.cell? ⟨w.heap.size, 1, none⟩ = some (.slice Ad1 d.segs.length cd1) := Kd_1.out.cell 1
    have vq0 : w1.cell? ⟨w.heap.size + 1, 0, none⟩ = some (.int .i64 q.ship) := Kq_1.out.cell 0
    have vq1 : w1.cell? ⟨w.heap.size + 1, 1, none⟩ = some (.int .i64 q.segment) := Kq_1.out.cell 1
    have vq2 : w1.cell? ⟨w.heap.size + 1, 2, none⟩ = some (.bool q.toward) := Kq_1.out.cell 2
    have vq3 : w1.cell? ⟨w.heap.size + 1, 3, none⟩ = some (.int .i64 q.start) := Kq_1.out.cell 3
    have vq4 : w1.cell? ⟨w.heap.size + 1, 4, none⟩ = some (.int .i64 q.stop) := Kq_1.out.cell 4
    have vp0 : w1.cell? ⟨w.heap.size + 2, 0, none⟩ = some (.int .i64 p.ship) := Kp_1.out.cell 0
    have vp1 : w1.cell? ⟨w.heap.size + 2, 1, none⟩ = some (.int .i64 p.segment) := Kp_1.out.cell 1
    have vp2 : w1.cell? ⟨w.heap.size + 2, 2, none⟩ = some (.bool p.toward) := Kp_1.out.cell 2
    have vp3 : w1.cell? ⟨w.heap.size + 2, 3, none⟩ = some (.int .i64 p.start) := Kp_1.out.cell 3
    have vp4 : w1.cell? ⟨w.heap.size + 2, 4, none⟩ = some (.int .i64 p.stop) := Kp_1.out.cell 4
    go_wp2_with fail
    clear vd0 vd1 vq0 vq1 vq2 vq3 vq4 vp0 vp1 vp2 vp3 vp4
    refine (endsOf_any _ _ d p.ship p.segment p.start p.stop p.toward g _ (Rd.out.below B1.out) HG.out).mono ?_
    rintro e w2 ⟨rfl, hb2⟩
    have B2 := Lib.hid (B1.out.trans (hb2.mono B1.out.size))
    have Kd_2 := Lib.hid (Kd_1.out.below hb2)
    have Kq_2 := Lib.hid (Kq_1.out.below hb2)
    have Kp_2 := Lib.hid (Kp_1.out.below hb2)
    clear hb2
    have vd0 : w2.cell? ⟨w.heap.size, 0, none⟩ = some (.slice Ad0 d.points.length cd0) := Kd_2.out.cell 0
    have vd1 : w2.cell? ⟨w.heap.size, 1, none⟩ = some (.slice Ad1 d.segs.length cd1) := Kd_2.out.cell 1
    have vq0 : w2.cell? ⟨w.heap.size + 1, 0, none⟩ = some (.int .i64 q.ship) := Kq_2.out.cell 0
    have vq1 : w2.cell? ⟨w.heap.size + 1, 1, none⟩ = some (.int .i64 q.segment) := Kq_2.out.cell 1
    have vq2 : w2.cell? ⟨w.heap.size + 1, 2, none⟩ = some (.bool q.toward) := Kq_2.out.cell 2
    have vq3 : w2.cell? ⟨w.heap.size + 1, 3, none⟩ = some (.int .i64 q.start) := Kq_2.out.cell 3
    have vq4 : w2.cell? ⟨w.heap.size + 1, 4, none⟩ = some (.int .i64 q.stop) := Kq_2.out.cell 4
    have vp0 : w2.cell? ⟨w.heap.size + 2, 0, none⟩ = some (.int .i64 p.ship) := Kp_2.out.cell 0
    have vp1 : w2.cell? ⟨w.heap.size + 2, 1, none⟩ = some (.int .i64 p.segment) := Kp_2.out.cell 1
    have vp2 : w2.cell? ⟨w.heap.size + 2, 2, none⟩ = some (.bool p.toward) := Kp_2.out.cell 2
    have vp3 : w2.cell? ⟨w.heap.size + 2, 3, none⟩ = some (.int .i64 p.start) := Kp_2.out.cell 3
    have vp4 : w2.cell? ⟨w.heap.size + 2, 4, none⟩ = some (.int .i64 p.stop) := Kp_2.out.cell 4
    go_wp2
    go_ret
    exact ⟨ret_bool (by simp), B2.out⟩
  | true =>
  cases b2 with
  | false =>
    go_enter Try.func82, Try.ntmps82
    have vd0 : W0.cell? ⟨w.heap.size, 0, none⟩ = some (.slice Ad0 d.points.length cd0) := Kd.out.cell 0
    have vd1 : W0.cell? ⟨w.heap.size, 1, none⟩ = some (.slice Ad1 d.segs.length cd1) := Kd.out.cell 1
    have vq0 : W0.cell? ⟨w.heap.size + 1, 0, none⟩ = some (.int .i64 q.ship) := Kq.out.cell 0
    have vq1 : W0.cell? ⟨w.heap.size + 1, 1, none⟩ = some (.int .i64 q.segment) := Kq.out.cell 1
    have vq2 : W0.cell? ⟨w.heap.size + 1, 2, none⟩ = some (.bool q.toward) := Kq.out.cell 2
    have vq3 : W0.cell? ⟨w.heap.size + 1, 3, none⟩ = some (.int .i64 q.start) := Kq.out.cell 3
    have vq4 : W0.cell? ⟨w.heap.size + 1, 4, none⟩ = some (.int .i64 q.stop) := Kq.out.cell 4
    have vp0 : W0.cell? ⟨w.heap.size + 2, 0, none⟩ = some (.int .i64 p.ship) := Kp.out.cell 0
    have vp1 : W0.cell? ⟨w.heap.size + 2, 1, none⟩ = some (.int .i64 p.segment) := Kp.out.cell 1
    have vp2 : W0.cell? ⟨w.heap.size + 2, 2, none⟩ = some (.bool p.toward) := Kp.out.cell 2
    have vp3 : W0.cell? ⟨w.heap.size + 2, 3, none⟩ = some (.int .i64 p.start) := Kp.out.cell 3
    have vp4 : W0.cell? ⟨w.heap.size + 2, 4, none⟩ = some (.int .i64 p.stop) := Kp.out.cell 4
    go_wp2_with fail
    rw [← HW0.out]
    clear vd0 vd1 vq0 vq1 vq2 vq3 vq4 vp0 vp1 vp2 vp3 vp4
    refine (endsOf_any _ _ d q.ship q.segment q.start q.stop q.toward h _ (Rd.out.below B.out) HH.out).mono ?_
    rintro e w1 ⟨rfl, hb1⟩
    have B1 := Lib.hid (B.out.trans (hb1.mono B.out.size))
    have Kd_1 := Lib.hid (Kd.out.below hb1)
    have Kq_1 := Lib.hid (Kq.out.below hb1)
    have Kp_1 := Lib.hid (Kp.out.below hb1)
    clear hb1
    have vd0 : w1.cell? ⟨w.heap.size, 0, none⟩ = some (.slice Ad0 d.points.length cd0) := Kd_1.out.cell 0
    have vd1 : w1.cell? ⟨w.heap.size, 1, none⟩ = some (.slice Ad1 d.segs.length cd1) := Kd_1.out.cell 1
    have vq0 : w1.cell? ⟨w.heap.size + 1, 0, none⟩ = some (.int .i64 q.ship) := Kq_1.out.cell 0
    have vq1 : w1.cell? ⟨w.heap.size + 1, 1, none⟩ = some (.int .i64 q.segment) := Kq_1.out.cell 1
    have vq2 : w1.cell? ⟨w.heap.size + 1, 2, none⟩ = some (.bool q.toward) := Kq_1.out.cell 2
    have vq3 : w1.cell? ⟨w.heap.size + 1, 3, none⟩ = some (.int .i64 q.start) := Kq_1.out.cell 3
    have vq4 : w1.cell? ⟨w.heap.size + 1, 4, none⟩ = some (.int .i64 q.stop) := Kq_1.out.cell 4
    have vp0 : w1.cell? ⟨w.heap.size + 2, 0, none⟩ = some (.int .i64 p.ship) := Kp_1.out.cell 0
    have vp1 : w1.cell? ⟨w.heap.size + 2, 1, none⟩ = some (.int .i64 p.segment) := Kp_1.out.cell 1
    have vp2 : w1.cell? ⟨w.heap.size + 2, 2, none⟩ = some (.bool p.toward) := Kp_1.out.cell 2
    have vp3 : w1.cell? ⟨w.heap.size + 2, 3, none⟩ = some (.int .i64 p.start) := Kp_1.out.cell 3
    have vp4 : w1.cell? ⟨w.heap.size + 2, 4, none⟩ = some (.int .i64 p.stop) := Kp_1.out.cell 4
    go_wp2_with fail
    clear vd0 vd1 vq0 vq1 vq2 vq3 vq4 vp0 vp1 vp2 vp3 vp4
    refine (endsOf_any _ _ d p.ship p.segment p.start p.stop p.toward g _ (Rd.out.below B1.out) HG.out).mono ?_
    rintro e w2 ⟨rfl, hb2⟩
    have B2 := Lib.hid (B1.out.trans (hb2.mono B1.out.size))
    have Kd_2 := Lib.hid (Kd_1.out.below hb2)
    have Kq_2 := Lib.hid (Kq_1.out.below hb2)
    have Kp_2 := Lib.hid (Kp_1.out.below hb2)
    clear hb2
    have vd0 : w2.cell? ⟨w.heap.size, 0, none⟩ = some (.slice Ad0 d.points.length cd0) := Kd_2.out.cell 0
    have vd1 : w2.cell? ⟨w.heap.size, 1, none⟩ = some (.slice Ad1 d.segs.length cd1) := Kd_2.out.cell 1
    have vq0 : w2.cell? ⟨w.heap.size + 1, 0, none⟩ = some (.int .i64 q.ship) := Kq_2.out.cell 0
    have vq1 : w2.cell? ⟨w.heap.size + 1, 1, none⟩ = some (.int .i64 q.segment) := Kq_2.out.cell 1
    have vq2 : w2.cell? ⟨w.heap.size + 1, 2, none⟩ = some (.bool q.toward) := Kq_2.out.cell 2
    have vq3 : w2.cell? ⟨w.heap.size + 1, 3, none⟩ = some (.int .i64 q.start) := Kq_2.out.cell 3
    have vq4 : w2.cell? ⟨w.heap.size + 1, 4, none⟩ = some (.int .i64 q.stop) := Kq_2.out.cell 4
    have vp0 : w2.cell? ⟨w.heap.size + 2, 0, none⟩ = some (.int .i64 p.ship) := Kp_2.out.cell 0
    have vp1 : w2.cell? ⟨w.heap.size + 2, 1, none⟩ = some (.int .i64 p.segment) := Kp_2.out.cell 1
    have vp2 : w2.cell? ⟨w.heap.size + 2, 2, none⟩ = some (.bool p.toward) := Kp_2.out.cell 2
    have vp3 : w2.cell? ⟨w.heap.size + 2, 3, none⟩ = some (.int .i64 p.start) := Kp_2.out.cell 3
    have vp4 : w2.cell? ⟨w.heap.size + 2, 4, none⟩ = some (.int .i64 p.stop) := Kp_2.out.cell 4
    go_wp2
    go_ret
    exact ⟨ret_bool (by simp), B2.out⟩
  | true =>
  go_enter Try.func82, Try.ntmps82
  have vd0 : W0.cell? ⟨w.heap.size, 0, none⟩ = some (.slice Ad0 d.points.length cd0) := Kd.out.cell 0
  have vd1 : W0.cell? ⟨w.heap.size, 1, none⟩ = some (.slice Ad1 d.segs.length cd1) := Kd.out.cell 1
  have vq0 : W0.cell? ⟨w.heap.size + 1, 0, none⟩ = some (.int .i64 q.ship) := Kq.out.cell 0
  have vq1 : W0.cell? ⟨w.heap.size + 1, 1, none⟩ = some (.int .i64 q.segment) := Kq.out.cell 1
  have vq2 : W0.cell? ⟨w.heap.size + 1, 2, none⟩ = some (.bool q.toward) := Kq.out.cell 2
  have vq3 : W0.cell? ⟨w.heap.size + 1, 3, none⟩ = some (.int .i64 q.start) := Kq.out.cell 3
  have vq4 : W0.cell? ⟨w.heap.size + 1, 4, none⟩ = some (.int .i64 q.stop) := Kq.out.cell 4
  have vp0 : W0.cell? ⟨w.heap.size + 2, 0, none⟩ = some (.int .i64 p.ship) := Kp.out.cell 0
  have vp1 : W0.cell? ⟨w.heap.size + 2, 1, none⟩ = some (.int .i64 p.segment) := Kp.out.cell 1
  have vp2 : W0.cell? ⟨w.heap.size + 2, 2, none⟩ = some (.bool p.toward) := Kp.out.cell 2
  have vp3 : W0.cell? ⟨w.heap.size + 2, 3, none⟩ = some (.int .i64 p.start) := Kp.out.cell 3
  have vp4 : W0.cell? ⟨w.heap.size + 2, 4, none⟩ = some (.int .i64 p.stop) := Kp.out.cell 4
  go_wp2_with fail
  rw [← HW0.out]
  clear vd0 vd1 vq0 vq1 vq2 vq3 vq4 vp0 vp1 vp2 vp3 vp4
  refine (endsOf_any _ _ d q.ship q.segment q.start q.stop q.toward h _ (Rd.out.below B.out) HH.out).mono ?_
  rintro e w1 ⟨rfl, hb1⟩
  have B1 := Lib.hid (B.out.trans (hb1.mono B.out.size))
  have Kd_1 := Lib.hid (Kd.out.below hb1)
  have Kq_1 := Lib.hid (Kq.out.below hb1)
  have Kp_1 := Lib.hid (Kp.out.below hb1)
  clear hb1
  have vd0 : w1.cell? ⟨w.heap.size, 0, none⟩ = some (.slice Ad0 d.points.length cd0) := Kd_1.out.cell 0
  have vd1 : w1.cell? ⟨w.heap.size, 1, none⟩ = some (.slice Ad1 d.segs.length cd1) := Kd_1.out.cell 1
  have vq0 : w1.cell? ⟨w.heap.size + 1, 0, none⟩ = some (.int .i64 q.ship) := Kq_1.out.cell 0
  have vq1 : w1.cell? ⟨w.heap.size + 1, 1, none⟩ = some (.int .i64 q.segment) := Kq_1.out.cell 1
  have vq2 : w1.cell? ⟨w.heap.size + 1, 2, none⟩ = some (.bool q.toward) := Kq_1.out.cell 2
  have vq3 : w1.cell? ⟨w.heap.size + 1, 3, none⟩ = some (.int .i64 q.start) := Kq_1.out.cell 3
  have vq4 : w1.cell? ⟨w.heap.size + 1, 4, none⟩ = some (.int .i64 q.stop) := Kq_1.out.cell 4
  have vp0 : w1.cell? ⟨w.heap.size + 2, 0, none⟩ = some (.int .i64 p.ship) := Kp_1.out.cell 0
  have vp1 : w1.cell? ⟨w.heap.size + 2, 1, none⟩ = some (.int .i64 p.segment) := Kp_1.out.cell 1
  have vp2 : w1.cell? ⟨w.heap.size + 2, 2, none⟩ = some (.bool p.toward) := Kp_1.out.cell 2
  have vp3 : w1.cell? ⟨w.heap.size + 2, 3, none⟩ = some (.int .i64 p.start) := Kp_1.out.cell 3
  have vp4 : w1.cell? ⟨w.heap.size + 2, 4, none⟩ = some (.int .i64 p.stop) := Kp_1.out.cell 4
  go_wp2_with fail
  clear vd0 vd1 vq0 vq1 vq2 vq3 vq4 vp0 vp1 vp2 vp3 vp4
  refine (endsOf_any _ _ d p.ship p.segment p.start p.stop p.toward g _ (Rd.out.below B1.out) HG.out).mono ?_
  rintro e w2 ⟨rfl, hb2⟩
  have B2 := Lib.hid (B1.out.trans (hb2.mono B1.out.size))
  have Kd_2 := Lib.hid (Kd_1.out.below hb2)
  have Kq_2 := Lib.hid (Kq_1.out.below hb2)
  have Kp_2 := Lib.hid (Kp_1.out.below hb2)
  clear hb2
  have vd0 : w2.cell? ⟨w.heap.size, 0, none⟩ = some (.slice Ad0 d.points.length cd0) := Kd_2.out.cell 0
  have vd1 : w2.cell? ⟨w.heap.size, 1, none⟩ = some (.slice Ad1 d.segs.length cd1) := Kd_2.out.cell 1
  have vq0 : w2.cell? ⟨w.heap.size + 1, 0, none⟩ = some (.int .i64 q.ship) := Kq_2.out.cell 0
  have vq1 : w2.cell? ⟨w.heap.size + 1, 1, none⟩ = some (.int .i64 q.segment) := Kq_2.out.cell 1
  have vq2 : w2.cell? ⟨w.heap.size + 1, 2, none⟩ = some (.bool q.toward) := Kq_2.out.cell 2
  have vq3 : w2.cell? ⟨w.heap.size + 1, 3, none⟩ = some (.int .i64 q.start) := Kq_2.out.cell 3
  have vq4 : w2.cell? ⟨w.heap.size + 1, 4, none⟩ = some (.int .i64 q.stop) := Kq_2.out.cell 4
  have vp0 : w2.cell? ⟨w.heap.size + 2, 0, none⟩ = some (.int .i64 p.ship) := Kp_2.out.cell 0
  have vp1 : w2.cell? ⟨w.heap.size + 2, 1, none⟩ = some (.int .i64 p.segment) := Kp_2.out.cell 1
  have vp2 : w2.cell? ⟨w.heap.size + 2, 2, none⟩ = some (.bool p.toward) := Kp_2.out.cell 2
  have vp3 : w2.cell? ⟨w.heap.size + 2, 3, none⟩ = some (.int .i64 p.start) := Kp_2.out.cell 3
  have vp4 : w2.cell? ⟨w.heap.size + 2, 4, none⟩ = some (.int .i64 p.stop) := Kp_2.out.cell 4
  go_wp2
  go_ret
  exact ⟨ret_bool (by simp), B2.out⟩
theorem link_ship {d : ChartD} {l : List PassageD} {k : Nat} {q z : PassageD} (h : LinkTo d l (k + 1)) (hq : l[k]? = some q) (hz : l[0]? = some z) : q.ship = z.ship := by
  have hk : k < l.length := (List.getElem?_eq_some_iff.1 hq).1
  have h1 := h k (by omega)
  obtain ⟨y, hy⟩ : ∃ y, l[k - 1]? = some y := ⟨_, List.getElem?_eq_getElem (by omega)⟩
  rw [link_eq hq hy hz] at h1
  simp only [Bool.and_eq_true, beq_iff_eq] at h1
  exact h1.1.1
set_option maxHeartbeats 8000000 in
theorem implIsChain (yd0 yd1 : Value) (d : ChartD) (yl : Value) (l : List PassageD) (w : World) (rd : RdChart w yd0 yd1 d) (rl : SlPassage w yl l) (fd : ∀ x ∈ d.points, PointD.wf x) :
    Calls Try.prog 39 #[.agg #[yd0, yd1], yl] w (fun e w' => e = .returned (.bool (chainB d l)) ∧ Below w.heap.size w w') := by
  have Rd := Lib.hid rd
  obtain ⟨rd0, rd1⟩ := rd
  obtain ⟨Ad0, cd0, rfl⟩ := SlOf.form rd0
  obtain ⟨Ad1, cd1, rfl⟩ := SlOf.form rd1
  have Nd := Lib.hid fd
  clear fd
  clear rd0 rd1
  have Rl := Lib.hid rl
  obtain ⟨Al, cl, rfl⟩ := SlOf.form rl
  clear rl
  obtain ⟨W0, hW0⟩ : ∃ W0, W0 = (w.alloc (.cells #[.slice Ad0 d.points.length cd0, .slice Ad1 d.segs.length cd1] 32)) := ⟨_, rfl⟩
  have B := Lib.hid (Joins.below_alloc1 w (.cells #[.slice Ad0 d.points.length cd0, .slice Ad1 d.segs.length cd1] 32))
  have Kd := Lib.hid (Blk.new w #[.slice Ad0 d.points.length cd0, .slice Ad1 d.segs.length cd1] 32)
  have HW0 := Lib.hid hW0
  rw [← hW0] at B Kd
  clear hW0
  have hdl := Rd.out.2.1
  have hll := Rl.out.1
  obtain ⟨b1, hb1⟩ : ∃ b, chartB d = b := ⟨_, rfl⟩
  have H1 := Lib.hid hb1
  cases b1 with
  | false =>
    have E := Lib.hid (chainB_bad (l := l) hb1)
    clear hb1
    go_enter Try.func39, Try.ntmps39
    have vd0 : W0.cell? ⟨w.heap.size, 0, none⟩ = some (.slice Ad0 d.points.length cd0) := Kd.out.cell 0
    have vd1 : W0.cell? ⟨w.heap.size, 1, none⟩ = some (.slice Ad1 d.segs.length cd1) := Kd.out.cell 1
    go_wp2_with fail
    rw [← HW0.out]
    clear vd0 vd1
    refine (implChartOk _ _ d _ (Rd.out.below B.out) Nd.out).mono ?_
    rw [H1.out]
    rintro e w1 ⟨rfl, hb1⟩
    have B1 := Lib.hid (B.out.trans (hb1.mono B.out.size))
    have Kd_1 := Lib.hid (Kd.out.below hb1)
    clear hb1
    go_wp2
    go_ret
    exact ⟨ret_bool E.out.symm, B1.out⟩
  | true =>
  clear hb1
  go_enter Try.func39, Try.ntmps39
  have vd0 : W0.cell? ⟨w.heap.size, 0, none⟩ = some (.slice Ad0 d.points.length cd0) := Kd.out.cell 0
  have vd1 : W0.cell? ⟨w.heap.size, 1, none⟩ = some (.slice Ad1 d.segs.length cd1) := Kd.out.cell 1
  go_wp2_with fail
  rw [← HW0.out]
  clear vd0 vd1
  refine (implChartOk _ _ d _ (Rd.out.below B.out) Nd.out).mono ?_
  rw [H1.out]
  rintro e w1 ⟨rfl, hb1⟩
  have B1 := Lib.hid (B.out.trans (hb1.mono B.out.size))
  have Kd_1 := Lib.hid (Kd.out.below hb1)
  clear hb1
  go_wp2
  go_loopw [12] (fun i wr => ∃ k : Nat, k ≤ l.length ∧ i = .int .i64 (k : Int) ∧ Hid (LinkTo d l k) ∧ Hid (Below w1.heap.size w1 wr)) (fun i _ => l.length - (intOf i).toNat)
  case atStart => exact ⟨0, Nat.zero_le _, rfl, Lib.hid (LinkTo.zero d l), Lib.hid (Below.refl _ _)⟩
  case round =>
    obtain ⟨k, hk, rfl, hL, hb⟩ := hrel
    have BR := Lib.hid (B1.out.trans (hb.out.mono B1.out.size))
    have hzs := hb.out.size
    by_cases hlt : k < l.length
    rotate_left
    · obtain rfl : k = l.length := by omega
      have E := Lib.hid (chainB_yes H1.out hL.out)
      go_wp2
      go_ret
      exact ⟨ret_bool E.out.symm, BR.out⟩
    obtain ⟨p, hp⟩ : ∃ x, l[k]? = some x := ⟨_, List.getElem?_eq_getElem hlt⟩
    obtain ⟨z, hz⟩ : ∃ x, l[0]? = some x := ⟨_, List.getElem?_eq_getElem (by omega)⟩
    obtain ⟨q, hq⟩ : ∃ x, l[k - 1]? = some x := ⟨_, List.getElem?_eq_getElem (by omega)⟩
    have HLK := Lib.hid (link_eq (d := d) hp hq hz)
    have HNO := Lib.hid (fun h : linkB d l k = false => chainB_no hlt h)
    have HNX := Lib.hid (fun h : linkB d l k = true => hL.out.next h)
    have HQI := Lib.hid (fun (j : Nat) (hj : k = j + 1) => link_in (k := j) (p := q) (by rw [← hj]; exact hL.out) (by rw [← hq, hj]; rfl))
    have HQS := Lib.hid (fun (j : Nat) (hj : k = j + 1) => link_ship (k := j) (q := q) (by rw [← hj]; exact hL.out) (by rw [← hq, hj]; rfl) hz)
    have HPZ := Lib.hid (fun hk0 : k = 0 => show p = z by rw [hk0] at hp; rw [hp] at hz; injection hz)
    rcases Rl.out.2 with ⟨he, _⟩ | ⟨gl, ol, cl', e, lpos, lcap, lc⟩
    · rw [he] at hlt; simp at hlt
    injection e with hA' _ hcp'
    subst hA' hcp'
    obtain ⟨p0, p1, p2, p3, p4⟩ := SlPassage.cells lc k p hp
    obtain ⟨q0, q1, q2, q3, q4⟩ := SlPassage.cells lc (k - 1) q hq
    have y0 := cell_onV p0 BR.out
    have y1 := cell_onV p1 BR.out
    have y2 := cell_onV p2 BR.out
    have y3 := cell_onV p3 BR.out
    have y4 := cell_onV p4 BR.out
    have ZQ0 := Lib.hid q0
    have ZQ1 := Lib.hid q1
    have ZQ2 := Lib.hid q2
    have ZQ3 := Lib.hid q3
    have ZQ4 := Lib.hid q4
    clear p0 p1 p2 p3 p4 q0 q1 q2 q3 q4 lc hp hq hz hL
    go_upto_region 6 with fail
    have BL := Joins.below_alloc1 wr (.cells #[.int .i64 p.ship, .int .i64 p.segment, .bool p.toward, .int .i64 p.start, .int .i64 p.stop] 67)
    have KN := Blk.new wr #[.int .i64 p.ship, .int .i64 p.segment, .bool p.toward, .int .i64 p.start, .int .i64 p.stop] 67
    obtain ⟨w6, hw6⟩ : ∃ w6, w6 = wr.alloc (.cells #[.int .i64 p.ship, .int .i64 p.segment, .bool p.toward, .int .i64 p.start, .int .i64 p.stop] 67) := ⟨_, rfl⟩
    rw [← hw6] at BL KN ⊢
    have B6 := Lib.hid (BR.out.trans (BL.mono BR.out.size))
    have Kd_6 := Lib.hid ((Kd_1.out.below hb.out).below BL)
    have KP := Lib.hid KN
    have hb6 := Lib.hid (hb.out.trans (BL.mono hb.out.size))
    clear hw6 BL KN y0 y1 y2 y3 y4 hb hzs
    have FP0 := Lib.hid (show w6.cell? ⟨wr.heap.size, 0, none⟩ = some (.int .i64 p.ship) from KP.out.cell 0)
    have FP1 := Lib.hid (show w6.cell? ⟨wr.heap.size, 1, none⟩ = some (.int .i64 p.segment) from KP.out.cell 1)
    have FP2 := Lib.hid (show w6.cell? ⟨wr.heap.size, 2, none⟩ = some (.bool p.toward) from KP.out.cell 2)
    have FP3 := Lib.hid (show w6.cell? ⟨wr.heap.size, 3, none⟩ = some (.int .i64 p.start) from KP.out.cell 3)
    have FP4 := Lib.hid (show w6.cell? ⟨wr.heap.size, 4, none⟩ = some (.int .i64 p.stop) from KP.out.cell 4)
    obtain ⟨bi, hbi⟩ : ∃ b, inB p.segment 0 ((d.segs.length : Int) - 1) = b := ⟨_, rfl⟩
    have HBI := Lib.hid hbi
    clear hbi
    cases bi with
    | false =>
      have E := Lib.hid (HNO.out (by rw [HLK.out, HBI.out]; simp))
      have Fd0 := Lib.hid (show w6.cell? ⟨w.heap.size, 0, none⟩ = some (.slice Ad0 d.points.length cd0) from Kd_6.out.cell 0)
      have Fd1 := Lib.hid (show w6.cell? ⟨w.heap.size, 1, none⟩ = some (.slice Ad1 d.segs.length cd1) from Kd_6.out.cell 1)
      have DD := Lib.hid ((Below.refl w6.heap.size w6).drew)
      have vFd0 := Fd0.out
      have vFd1 := Fd1.out
      have vFP0 := FP0.out
      have vFP1 := FP1.out
      have vFP2 := FP2.out
      have vFP3 := FP3.out
      have vFP4 := FP4.out
      refine wp_region_held_drew (S := (fun w' => w'.cell? ⟨w.heap.size, 0, none⟩ = some (.slice Ad0 d.points.length cd0) ∧ w'.cell? ⟨w.heap.size, 1, none⟩ = some (.slice Ad1 d.segs.length cd1) ∧ w'.cell? ⟨wr.heap.size, 0, none⟩ = some (.int .i64 p.ship) ∧ w'.cell? ⟨wr.heap.size, 1, none⟩ = some (.int .i64 p.segment) ∧ w'.cell? ⟨wr.heap.size, 2, none⟩ = some (.bool p.toward) ∧ w'.cell? ⟨wr.heap.size, 3, none⟩ = some (.int .i64 p.start) ∧ w'.cell? ⟨wr.heap.size, 4, none⟩ = some (.int .i64 p.stop) ∧ Hid (Below w6.heap.size w6 w'))) (by kernel_rfl) ?_ (fun hHeld => ?_)
      · (try dsimp only); go_keep
      refine wpAnyH_take (i := 0) (v := ?_) (by simp only [List.getElem?_toArray, List.getElem?_cons_zero]; rfl) (by kernel_rfl) (by kernel_rfl) (by kernel_rfl) (by exact fun _ _ _ h => h) (Or.inl ⟨by rfl, ?_⟩) (by assumption) ?_; rotate_left; focus (intro w hSw; (try dsimp only at hSw); first | (go_simp; done) | (go_simp; with_reducible rfl))
      try simp only [Act.put, List.setIfInBounds_toArray, List.set_cons_zero, List.set_cons_succ]
      refine wpAnyH_take (i := 1) (v := ?_) (by simp only [List.getElem?_toArray, List.getElem?_cons_succ, List.getElem?_cons_zero]; rfl) (by kernel_rfl) (by kernel_rfl) (by kernel_rfl) (by exact fun _ _ _ h => h) (Or.inl ⟨by rfl, ?_⟩) (by assumption) ?_; rotate_left; focus (intro w hSw; (try dsimp only at hSw); first | (go_simp; done) | (go_simp; with_reducible rfl))
      try simp only [Act.put, List.setIfInBounds_toArray, List.set_cons_zero, List.set_cons_succ]
      refine wpAnyH_take (i := 2) (v := ?_) (by simp only [List.getElem?_toArray, List.getElem?_cons_succ, List.getElem?_cons_zero]; rfl) (by kernel_rfl) (by kernel_rfl) (by kernel_rfl) (by exact fun _ _ _ h => h) (Or.inl ⟨by rfl, ?_⟩) (by assumption) ?_; rotate_left; focus (intro w hSw; (try dsimp only at hSw); first | (go_simp; done) | (go_simp; with_reducible rfl))
      try simp only [Act.put, List.setIfInBounds_toArray, List.set_cons_zero, List.set_cons_succ]
      refine wpAnyH_take (i := 3) (v := ?_) (by simp only [List.getElem?_toArray, List.getElem?_cons_succ, List.getElem?_cons_zero]; rfl) (by kernel_rfl) (by kernel_rfl) (by kernel_rfl) (by exact fun _ _ _ h => h) (Or.inl ⟨by rfl, ?_⟩) (by assumption) ?_; rotate_left; focus (intro w hSw; (try dsimp only at hSw); first | (go_simp; done) | (go_simp; with_reducible rfl))
      try simp only [Act.put, List.setIfInBounds_toArray, List.set_cons_zero, List.set_cons_succ]
      refine wpAnyH_take (i := 4) (v := ?_) (by simp only [List.getElem?_toArray, List.getElem?_cons_succ, List.getElem?_cons_zero]; rfl) (by kernel_rfl) (by kernel_rfl) (by kernel_rfl) (by exact fun _ _ _ h => h) (Or.inl ⟨by rfl, ?_⟩) (by assumption) ?_; rotate_left; focus (intro w hSw; (try dsimp only at hSw); first | (go_simp; done) | (go_simp; with_reducible rfl))
      try simp only [Act.put, List.setIfInBounds_toArray, List.set_cons_zero, List.set_cons_succ]
      refine wpAnyH_ready (rs := [5]) (by kernel_rfl) (by simp) ?_
      refine AllReadyH.cons rfl (fun K hK => ?_) AllReadyH.nil
      rw [if_pos (by rfl)]
      go_simp
      go_at_call 54
      have kB := hHeld.2.2.2.2.2.2.2
      refine ((isIndex_any _ _ _)).mono ?_
      rw [HBI.out]
      rintro e wq6_5 ⟨rfl, hbk1⟩
      have hbk := below_same hbk1
      have HBK := kB.out.trans (hbk.mono kB.out.size)
      have QS := Lib.hid (show wq6_5.cell? ⟨w.heap.size, 0, none⟩ = some (.slice Ad0 d.points.length cd0) ∧ wq6_5.cell? ⟨w.heap.size, 1, none⟩ = some (.slice Ad1 d.segs.length cd1) ∧ wq6_5.cell? ⟨wr.heap.size, 0, none⟩ = some (.int .i64 p.ship) ∧ wq6_5.cell? ⟨wr.heap.size, 1, none⟩ = some (.int .i64 p.segment) ∧ wq6_5.cell? ⟨wr.heap.size, 2, none⟩ = some (.bool p.toward) ∧ wq6_5.cell? ⟨wr.heap.size, 3, none⟩ = some (.int .i64 p.start) ∧ wq6_5.cell? ⟨wr.heap.size, 4, none⟩ = some (.int .i64 p.stop) ∧ Hid (Below w6.heap.size w6 wq6_5) from ⟨cell_onV Fd0.out HBK, cell_onV Fd1.out HBK, cell_onV FP0.out HBK, cell_onV FP1.out HBK, cell_onV FP2.out HBK, cell_onV FP3.out HBK, cell_onV FP4.out HBK, Lib.hid HBK⟩)
      clear hbk kB hHeld HBK
      go_simp
      refine hK.out _ _ ?_ (fun hHeld => ?_)
      · (try dsimp only); exact QS.out
      clear hK K
      try simp only [Act.put, List.setIfInBounds_toArray, List.set_cons_zero, List.set_cons_succ]
      refine wpAnyH_take (i := 6) (v := ?_) (by simp only [List.getElem?_toArray, List.getElem?_cons_succ, List.getElem?_cons_zero]; rfl) (by kernel_rfl) (by kernel_rfl) (by kernel_rfl) (by exact fun _ _ _ h => h) (Or.inl ⟨by rfl, ?_⟩) (by assumption) ?_; rotate_left; focus (intro w hSw; (try dsimp only at hSw); first | (go_simp; done) | (go_simp; with_reducible rfl))
      try simp only [Act.put, List.setIfInBounds_toArray, List.set_cons_zero, List.set_cons_succ]
      refine wpAnyH_take (i := 7) (v := ?_) (by simp only [List.getElem?_toArray, List.getElem?_cons_succ, List.getElem?_cons_zero]; rfl) (by kernel_rfl) (by kernel_rfl) (by kernel_rfl) (by exact fun _ _ _ h => h) (Or.inl ⟨by rfl, ?_⟩) (by assumption) ?_; rotate_left; focus (intro w hSw; (try dsimp only at hSw); first | (go_simp; done) | (go_simp; with_reducible rfl))
      try simp only [Act.put, List.setIfInBounds_toArray, List.set_cons_zero, List.set_cons_succ]
      refine wpAnyH_take (i := 8) (v := undef) (by simp only [List.getElem?_toArray, List.getElem?_cons_succ, List.getElem?_cons_zero]; rfl) (by kernel_rfl) (by kernel_rfl) (by kernel_rfl) (by exact fun _ _ _ h => h) (Or.inr ⟨by rfl, rfl⟩) (by assumption) ?_
      try simp only [Act.put, List.setIfInBounds_toArray, List.set_cons_zero, List.set_cons_succ]
      refine wpAnyH_take (i := 9) (v := undef) (by simp only [List.getElem?_toArray, List.getElem?_cons_succ, List.getElem?_cons_zero]; rfl) (by kernel_rfl) (by kernel_rfl) (by kernel_rfl) (by exact fun _ _ _ h => h) (Or.inr ⟨by rfl, rfl⟩) (by assumption) ?_
      try simp only [Act.put, List.setIfInBounds_toArray, List.set_cons_zero, List.set_cons_succ]
      refine wpAnyH_take (i := 10) (v := undef) (by simp only [List.getElem?_toArray, List.getElem?_cons_succ, List.getElem?_cons_zero]; rfl) (by kernel_rfl) (by kernel_rfl) (by kernel_rfl) (by exact fun _ _ _ h => h) (Or.inr ⟨by rfl, rfl⟩) (by assumption) ?_
      try simp only [Act.put, List.setIfInBounds_toArray, List.set_cons_zero, List.set_cons_succ]
      refine wpAnyH_take (i := 11) (v := undef) (by simp only [List.getElem?_toArray, List.getElem?_cons_succ, List.getElem?_cons_zero]; rfl) (by kernel_rfl) (by kernel_rfl) (by kernel_rfl) (by exact fun _ _ _ h => h) (Or.inr ⟨by rfl, rfl⟩) (by assumption) ?_
      try simp only [Act.put, List.setIfInBounds_toArray, List.set_cons_zero, List.set_cons_succ]
      refine wpAnyH_take (i := 12) (v := undef) (by simp only [List.getElem?_toArray, List.getElem?_cons_succ, List.getElem?_cons_zero]; rfl) (by kernel_rfl) (by kernel_rfl) (by kernel_rfl) (by exact fun _ _ _ h => h) (Or.inr ⟨by rfl, rfl⟩) (by assumption) ?_
      try simp only [Act.put, List.setIfInBounds_toArray, List.set_cons_zero, List.set_cons_succ]
      refine wpAnyH_take (i := 13) (v := undef) (by simp only [List.getElem?_toArray, List.getElem?_cons_succ, List.getElem?_cons_zero]; rfl) (by kernel_rfl) (by kernel_rfl) (by kernel_rfl) (by exact fun _ _ _ h => h) (Or.inr ⟨by rfl, rfl⟩) (by assumption) ?_
      try simp only [Act.put, List.setIfInBounds_toArray, List.set_cons_zero, List.set_cons_succ]
      refine wpAnyH_take (i := 14) (v := undef) (by simp only [List.getElem?_toArray, List.getElem?_cons_succ, List.getElem?_cons_zero]; rfl) (by kernel_rfl) (by kernel_rfl) (by kernel_rfl) (by exact fun _ _ _ h => h) (Or.inr ⟨by rfl, rfl⟩) (by assumption) ?_
      try simp only [Act.put, List.setIfInBounds_toArray, List.set_cons_zero, List.set_cons_succ]
      refine wpAnyH_take (i := 15) (v := undef) (by simp only [List.getElem?_toArray, List.getElem?_cons_succ, List.getElem?_cons_zero]; rfl) (by kernel_rfl) (by kernel_rfl) (by kernel_rfl) (by exact fun _ _ _ h => h) (Or.inr ⟨by rfl, rfl⟩) (by assumption) ?_
      try simp only [Act.put, List.setIfInBounds_toArray, List.set_cons_zero, List.set_cons_succ]
      refine wpAnyH_take (i := 16) (v := undef) (by simp only [List.getElem?_toArray, List.getElem?_cons_succ, List.getElem?_cons_zero]; rfl) (by kernel_rfl) (by kernel_rfl) (by kernel_rfl) (by exact fun _ _ _ h => h) (Or.inr ⟨by rfl, rfl⟩) (by assumption) ?_
      try simp only [Act.put, List.setIfInBounds_toArray, List.set_cons_zero, List.set_cons_succ]
      refine wpAnyH_take (i := 17) (v := undef) (by simp only [List.getElem?_toArray, List.getElem?_cons_succ, List.getElem?_cons_zero]; rfl) (by kernel_rfl) (by kernel_rfl) (by kernel_rfl) (by exact fun _ _ _ h => h) (Or.inr ⟨by rfl, rfl⟩) (by assumption) ?_
      try simp only [Act.put, List.setIfInBounds_toArray, List.set_cons_zero, List.set_cons_succ]
      refine wpAnyH_take (i := 18) (v := undef) (by simp only [List.getElem?_toArray, List.getElem?_cons_succ, List.getElem?_cons_zero]; rfl) (by kernel_rfl) (by kernel_rfl) (by kernel_rfl) (by exact fun _ _ _ h => h) (Or.inr ⟨by rfl, rfl⟩) (by assumption) ?_
      try simp only [Act.put, List.setIfInBounds_toArray, List.set_cons_zero, List.set_cons_succ]
      refine wpAnyH_take (i := 19) (v := undef) (by simp only [List.getElem?_toArray, List.getElem?_cons_succ, List.getElem?_cons_zero]; rfl) (by kernel_rfl) (by kernel_rfl) (by kernel_rfl) (by exact fun _ _ _ h => h) (Or.inr ⟨by rfl, rfl⟩) (by assumption) ?_
      try simp only [Act.put, List.setIfInBounds_toArray, List.set_cons_zero, List.set_cons_succ]
      refine wpAnyH_take (i := 20) (v := undef) (by simp only [List.getElem?_toArray, List.getElem?_cons_succ, List.getElem?_cons_zero]; rfl) (by kernel_rfl) (by kernel_rfl) (by kernel_rfl) (by exact fun _ _ _ h => h) (Or.inr ⟨by rfl, rfl⟩) (by assumption) ?_
      try simp only [Act.put, List.setIfInBounds_toArray, List.set_cons_zero, List.set_cons_succ]
      refine wpAnyH_take (i := 21) (v := ?_) (by simp only [List.getElem?_toArray, List.getElem?_cons_succ, List.getElem?_cons_zero]; rfl) (by kernel_rfl) (by kernel_rfl) (by kernel_rfl) (by exact fun _ _ _ h => h) (Or.inl ⟨by rfl, ?_⟩) (by assumption) ?_; rotate_left; focus (intro w hSw; (try dsimp only at hSw); first | (go_simp; done) | (go_simp; with_reducible rfl))
      try simp only [Act.put, List.setIfInBounds_toArray, List.set_cons_zero, List.set_cons_succ]
      refine wpAnyH_done (by kernel_rfl) ?_ _
      go_wp2
      go_ret
      exact ⟨ret_bool E.out.symm, B6.out.trans (hHeld.2.2.2.2.2.2.2.out.mono B6.out.size)⟩
    | true =>
    by_cases hk0 : k = 0
    · have E := Lib.hid (HNX.out (by rw [HLK.out, HBI.out, HPZ.out hk0, decide_eq_true hk0]; simp))
      subst hk0
      have Fd0 := Lib.hid (show w6.cell? ⟨w.heap.size, 0, none⟩ = some (.slice Ad0 d.points.length cd0) from Kd_6.out.cell 0)
      have Fd1 := Lib.hid (show w6.cell? ⟨w.heap.size, 1, none⟩ = some (.slice Ad1 d.segs.length cd1) from Kd_6.out.cell 1)
      have DD := Lib.hid ((Below.refl w6.heap.size w6).drew)
      have vFd0 := Fd0.out
      have vFd1 := Fd1.out
      have vFP0 := FP0.out
      have vFP1 := FP1.out
      have vFP2 := FP2.out
      have vFP3 := FP3.out
      have vFP4 := FP4.out
      refine wp_region_held_drew (S := (fun w' => w'.cell? ⟨w.heap.size, 0, none⟩ = some (.slice Ad0 d.points.length cd0) ∧ w'.cell? ⟨w.heap.size, 1, none⟩ = some (.slice Ad1 d.segs.length cd1) ∧ w'.cell? ⟨wr.heap.size, 0, none⟩ = some (.int .i64 p.ship) ∧ w'.cell? ⟨wr.heap.size, 1, none⟩ = some (.int .i64 p.segment) ∧ w'.cell? ⟨wr.heap.size, 2, none⟩ = some (.bool p.toward) ∧ w'.cell? ⟨wr.heap.size, 3, none⟩ = some (.int .i64 p.start) ∧ w'.cell? ⟨wr.heap.size, 4, none⟩ = some (.int .i64 p.stop) ∧ Hid (Below w6.heap.size w6 w'))) (by kernel_rfl) ?_ (fun hHeld => ?_)
      · (try dsimp only); go_keep
      refine wpAnyH_take (i := 0) (v := ?_) (by simp only [List.getElem?_toArray, List.getElem?_cons_zero]; rfl) (by kernel_rfl) (by kernel_rfl) (by kernel_rfl) (by exact fun _ _ _ h => h) (Or.inl ⟨by rfl, ?_⟩) (by assumption) ?_; rotate_left; focus (intro w hSw; (try dsimp only at hSw); first | (go_simp; done) | (go_simp; with_reducible rfl))
      try simp only [Act.put, List.setIfInBounds_toArray, List.set_cons_zero, List.set_cons_succ]
      refine wpAnyH_take (i := 1) (v := ?_) (by simp only [List.getElem?_toArray, List.getElem?_cons_succ, List.getElem?_cons_zero]; rfl) (by kernel_rfl) (by kernel_rfl) (by kernel_rfl) (by exact fun _ _ _ h => h) (Or.inl ⟨by rfl, ?_⟩) (by assumption) ?_; rotate_left; focus (intro w hSw; (try dsimp only at hSw); first | (go_simp; done) | (go_simp; with_reducible rfl))
      try simp only [Act.put, List.setIfInBounds_toArray, List.set_cons_zero, List.set_cons_succ]
      refine wpAnyH_take (i := 2) (v := ?_) (by simp only [List.getElem?_toArray, List.getElem?_cons_succ, List.getElem?_cons_zero]; rfl) (by kernel_rfl) (by kernel_rfl) (by kernel_rfl) (by exact fun _ _ _ h => h) (Or.inl ⟨by rfl, ?_⟩) (by assumption) ?_; rotate_left; focus (intro w hSw; (try dsimp only at hSw); first | (go_simp; done) | (go_simp; with_reducible rfl))
      try simp only [Act.put, List.setIfInBounds_toArray, List.set_cons_zero, List.set_cons_succ]
      refine wpAnyH_take (i := 3) (v := ?_) (by simp only [List.getElem?_toArray, List.getElem?_cons_succ, List.getElem?_cons_zero]; rfl) (by kernel_rfl) (by kernel_rfl) (by kernel_rfl) (by exact fun _ _ _ h => h) (Or.inl ⟨by rfl, ?_⟩) (by assumption) ?_; rotate_left; focus (intro w hSw; (try dsimp only at hSw); first | (go_simp; done) | (go_simp; with_reducible rfl))
      try simp only [Act.put, List.setIfInBounds_toArray, List.set_cons_zero, List.set_cons_succ]
      refine wpAnyH_take (i := 4) (v := ?_) (by simp only [List.getElem?_toArray, List.getElem?_cons_succ, List.getElem?_cons_zero]; rfl) (by kernel_rfl) (by kernel_rfl) (by kernel_rfl) (by exact fun _ _ _ h => h) (Or.inl ⟨by rfl, ?_⟩) (by assumption) ?_; rotate_left; focus (intro w hSw; (try dsimp only at hSw); first | (go_simp; done) | (go_simp; with_reducible rfl))
      try simp only [Act.put, List.setIfInBounds_toArray, List.set_cons_zero, List.set_cons_succ]
      refine wpAnyH_ready (rs := [5]) (by kernel_rfl) (by simp) ?_
      refine AllReadyH.cons rfl (fun K hK => ?_) AllReadyH.nil
      rw [if_pos (by rfl)]
      go_simp
      go_at_call 54
      have kB := hHeld.2.2.2.2.2.2.2
      refine ((isIndex_any _ _ _)).mono ?_
      rw [HBI.out]
      rintro e wq6_5 ⟨rfl, hbk1⟩
      have hbk := below_same hbk1
      have HBK := kB.out.trans (hbk.mono kB.out.size)
      have QS := Lib.hid (show wq6_5.cell? ⟨w.heap.size, 0, none⟩ = some (.slice Ad0 d.points.length cd0) ∧ wq6_5.cell? ⟨w.heap.size, 1, none⟩ = some (.slice Ad1 d.segs.length cd1) ∧ wq6_5.cell? ⟨wr.heap.size, 0, none⟩ = some (.int .i64 p.ship) ∧ wq6_5.cell? ⟨wr.heap.size, 1, none⟩ = some (.int .i64 p.segment) ∧ wq6_5.cell? ⟨wr.heap.size, 2, none⟩ = some (.bool p.toward) ∧ wq6_5.cell? ⟨wr.heap.size, 3, none⟩ = some (.int .i64 p.start) ∧ wq6_5.cell? ⟨wr.heap.size, 4, none⟩ = some (.int .i64 p.stop) ∧ Hid (Below w6.heap.size w6 wq6_5) from ⟨cell_onV Fd0.out HBK, cell_onV Fd1.out HBK, cell_onV FP0.out HBK, cell_onV FP1.out HBK, cell_onV FP2.out HBK, cell_onV FP3.out HBK, cell_onV FP4.out HBK, Lib.hid HBK⟩)
      clear hbk kB hHeld HBK
      go_simp
      refine hK.out _ _ ?_ (fun hHeld => ?_)
      · (try dsimp only); exact QS.out
      clear hK K
      try simp only [Act.put, List.setIfInBounds_toArray, List.set_cons_zero, List.set_cons_succ]
      refine wpAnyH_take (i := 6) (v := ?_) (by simp only [List.getElem?_toArray, List.getElem?_cons_succ, List.getElem?_cons_zero]; rfl) (by kernel_rfl) (by kernel_rfl) (by kernel_rfl) (by exact fun _ _ _ h => h) (Or.inl ⟨by rfl, ?_⟩) (by assumption) ?_; rotate_left; focus (intro w hSw; (try dsimp only at hSw); first | (go_simp; done) | (go_simp; with_reducible rfl))
      try simp only [Act.put, List.setIfInBounds_toArray, List.set_cons_zero, List.set_cons_succ]
      refine wpAnyH_take (i := 7) (v := ?_) (by simp only [List.getElem?_toArray, List.getElem?_cons_succ, List.getElem?_cons_zero]; rfl) (by kernel_rfl) (by kernel_rfl) (by kernel_rfl) (by exact fun _ _ _ h => h) (Or.inl ⟨by rfl, ?_⟩) (by assumption) ?_; rotate_left; focus (intro w hSw; (try dsimp only at hSw); first | (go_simp; done) | (go_simp; with_reducible rfl))
      try simp only [Act.put, List.setIfInBounds_toArray, List.set_cons_zero, List.set_cons_succ]
      refine wpAnyH_take (i := 8) (v := ?_) (by simp only [List.getElem?_toArray, List.getElem?_cons_succ, List.getElem?_cons_zero]; rfl) (by kernel_rfl) (by kernel_rfl) (by kernel_rfl) (by exact fun _ _ _ h => h) (Or.inl ⟨by rfl, ?_⟩) (by assumption) ?_; rotate_left; focus (intro w hSw; (try dsimp only at hSw); first | (go_simp; done) | (go_simp; with_reducible rfl))
      try simp only [Act.put, List.setIfInBounds_toArray, List.set_cons_zero, List.set_cons_succ]
      refine wpAnyH_take (i := 9) (v := ?_) (by simp only [List.getElem?_toArray, List.getElem?_cons_succ, List.getElem?_cons_zero]; rfl) (by kernel_rfl) (by kernel_rfl) (by kernel_rfl) (by exact fun _ _ _ h => h) (Or.inl ⟨by rfl, ?_⟩) (by assumption) ?_; rotate_left; focus (intro w hSw; (try dsimp only at hSw); first | (go_simp; done) | (go_simp; with_reducible rfl))
      try simp only [Act.put, List.setIfInBounds_toArray, List.set_cons_zero, List.set_cons_succ]
      refine wpAnyH_take (i := 10) (v := ?_) (by simp only [List.getElem?_toArray, List.getElem?_cons_succ, List.getElem?_cons_zero]; rfl) (by kernel_rfl) (by kernel_rfl) (by kernel_rfl) (by exact fun _ _ _ h => h) (Or.inl ⟨by rfl, ?_⟩) (by assumption) ?_; rotate_left; focus (intro w hSw; (try dsimp only at hSw); first | (go_simp; done) | (go_simp; with_reducible rfl))
      try simp only [Act.put, List.setIfInBounds_toArray, List.set_cons_zero, List.set_cons_succ]
      refine wpAnyH_take (i := 11) (v := undef) (by simp only [List.getElem?_toArray, List.getElem?_cons_succ, List.getElem?_cons_zero]; rfl) (by kernel_rfl) (by kernel_rfl) (by kernel_rfl) (by exact fun _ _ _ h => h) (Or.inr ⟨by rfl, rfl⟩) (by assumption) ?_
      try simp only [Act.put, List.setIfInBounds_toArray, List.set_cons_zero, List.set_cons_succ]
      refine wpAnyH_take (i := 12) (v := undef) (by simp only [List.getElem?_toArray, List.getElem?_cons_succ, List.getElem?_cons_zero]; rfl) (by kernel_rfl) (by kernel_rfl) (by kernel_rfl) (by exact fun _ _ _ h => h) (Or.inr ⟨by rfl, rfl⟩) (by assumption) ?_
      try simp only [Act.put, List.setIfInBounds_toArray, List.set_cons_zero, List.set_cons_succ]
      refine wpAnyH_take (i := 13) (v := undef) (by simp only [List.getElem?_toArray, List.getElem?_cons_succ, List.getElem?_cons_zero]; rfl) (by kernel_rfl) (by kernel_rfl) (by kernel_rfl) (by exact fun _ _ _ h => h) (Or.inr ⟨by rfl, rfl⟩) (by assumption) ?_
      try simp only [Act.put, List.setIfInBounds_toArray, List.set_cons_zero, List.set_cons_succ]
      refine wpAnyH_take (i := 14) (v := undef) (by simp only [List.getElem?_toArray, List.getElem?_cons_succ, List.getElem?_cons_zero]; rfl) (by kernel_rfl) (by kernel_rfl) (by kernel_rfl) (by exact fun _ _ _ h => h) (Or.inr ⟨by rfl, rfl⟩) (by assumption) ?_
      try simp only [Act.put, List.setIfInBounds_toArray, List.set_cons_zero, List.set_cons_succ]
      refine wpAnyH_take (i := 15) (v := undef) (by simp only [List.getElem?_toArray, List.getElem?_cons_succ, List.getElem?_cons_zero]; rfl) (by kernel_rfl) (by kernel_rfl) (by kernel_rfl) (by exact fun _ _ _ h => h) (Or.inr ⟨by rfl, rfl⟩) (by assumption) ?_
      try simp only [Act.put, List.setIfInBounds_toArray, List.set_cons_zero, List.set_cons_succ]
      refine wpAnyH_take (i := 16) (v := undef) (by simp only [List.getElem?_toArray, List.getElem?_cons_succ, List.getElem?_cons_zero]; rfl) (by kernel_rfl) (by kernel_rfl) (by kernel_rfl) (by exact fun _ _ _ h => h) (Or.inr ⟨by rfl, rfl⟩) (by assumption) ?_
      try simp only [Act.put, List.setIfInBounds_toArray, List.set_cons_zero, List.set_cons_succ]
      refine wpAnyH_take (i := 17) (v := undef) (by simp only [List.getElem?_toArray, List.getElem?_cons_succ, List.getElem?_cons_zero]; rfl) (by kernel_rfl) (by kernel_rfl) (by kernel_rfl) (by exact fun _ _ _ h => h) (Or.inr ⟨by rfl, rfl⟩) (by assumption) ?_
      try simp only [Act.put, List.setIfInBounds_toArray, List.set_cons_zero, List.set_cons_succ]
      refine wpAnyH_take (i := 18) (v := undef) (by simp only [List.getElem?_toArray, List.getElem?_cons_succ, List.getElem?_cons_zero]; rfl) (by kernel_rfl) (by kernel_rfl) (by kernel_rfl) (by exact fun _ _ _ h => h) (Or.inr ⟨by rfl, rfl⟩) (by assumption) ?_
      try simp only [Act.put, List.setIfInBounds_toArray, List.set_cons_zero, List.set_cons_succ]
      refine wpAnyH_take (i := 19) (v := undef) (by simp only [List.getElem?_toArray, List.getElem?_cons_succ, List.getElem?_cons_zero]; rfl) (by kernel_rfl) (by kernel_rfl) (by kernel_rfl) (by exact fun _ _ _ h => h) (Or.inr ⟨by rfl, rfl⟩) (by assumption) ?_
      try simp only [Act.put, List.setIfInBounds_toArray, List.set_cons_zero, List.set_cons_succ]
      refine wpAnyH_take (i := 20) (v := ?_) (by simp only [List.getElem?_toArray, List.getElem?_cons_succ, List.getElem?_cons_zero]; rfl) (by kernel_rfl) (by kernel_rfl) (by kernel_rfl) (by exact fun _ _ _ h => h) (Or.inl ⟨by rfl, ?_⟩) (by assumption) ?_; rotate_left; focus (intro w hSw; (try dsimp only at hSw); first | (go_simp; done) | (go_simp; with_reducible rfl))
      try simp only [Act.put, List.setIfInBounds_toArray, List.set_cons_zero, List.set_cons_succ]
      refine wpAnyH_take (i := 21) (v := ?_) (by simp only [List.getElem?_toArray, List.getElem?_cons_succ, List.getElem?_cons_zero]; rfl) (by kernel_rfl) (by kernel_rfl) (by kernel_rfl) (by exact fun _ _ _ h => h) (Or.inl ⟨by rfl, ?_⟩) (by assumption) ?_; rotate_left; focus (intro w hSw; (try dsimp only at hSw); first | (go_simp; done) | (go_simp; with_reducible rfl))
      try simp only [Act.put, List.setIfInBounds_toArray, List.set_cons_zero, List.set_cons_succ]
      refine wpAnyH_done (by kernel_rfl) ?_ _
      have hbz := Lib.hid (hb6.out.trans (hHeld.2.2.2.2.2.2.2.out.mono hb6.out.size))
      clear hHeld DD
      go_wp2
      go_roundw
      case rel => exact ⟨1, by omega, by go_num, E, hbz⟩
      case measure => simp [intOf]; omega
    obtain ⟨j, hj⟩ : ∃ j, k = j + 1 := ⟨k - 1, by omega⟩
    have hqi := HQI.out j hj
    have hqs := HQS.out j hj
    obtain ⟨g, hg, -⟩ := segAt_in HBI.out
    obtain ⟨h, hh, -⟩ := segAt_in hqi
    have HG := Lib.hid hg
    have HH := Lib.hid hh
    have HL2 := Lib.hid (show linkB d l k = ((p.ship == q.ship) && (headOf g p.toward == tailOf h q.toward) && decide (q.stop ≤ p.start)) by rw [HLK.out, HBI.out, decide_eq_false hk0, hg, hh, ← hqs]; simp [Bool.and_assoc])
    have hkp : 0 < k := by omega
    have hkzn : decide (0 < k) = true := decide_eq_true hkp
    have hkz : decide ((k : Int) > 0) = true := decide_eq_true (by omega)
    have hkz' : decide (0 < (k : Int)) = true := decide_eq_true (by omega)
    have wj : IntKind.i64.wrap ((k : Int) - 1) = (j : Int) := by rw [IntKind.wrap_i64]; omega
    have hjl : j < l.length := by omega
    have HKJ := Lib.hid (show k - 1 = j by omega)
    clear hg hh hqi hj hqs
    obtain ⟨lb, hlb⟩ : ∃ b, ((p.ship == q.ship) && (headOf g p.toward == tailOf h q.toward) && decide (q.stop ≤ p.start)) = b := ⟨_, rfl⟩
    have HLB := Lib.hid hlb
    rw [hlb] at HL2
    clear hlb
    have FQ0 := Lib.hid (show w6.cell? ⟨gl, ol + j * 5, none⟩ = some (.int .i64 q.ship) from cell_onV (HKJ.out ▸ ZQ0.out) B6.out)
    have FQ1 := Lib.hid (show w6.cell? ⟨gl, ol + j * 5 + 1, none⟩ = some (.int .i64 q.segment) from cell_onV (HKJ.out ▸ ZQ1.out) B6.out)
    have FQ2 := Lib.hid (show w6.cell? ⟨gl, ol + j * 5 + 2, none⟩ = some (.bool q.toward) from cell_onV (HKJ.out ▸ ZQ2.out) B6.out)
    have FQ3 := Lib.hid (show w6.cell? ⟨gl, ol + j * 5 + 3, none⟩ = some (.int .i64 q.start) from cell_onV (HKJ.out ▸ ZQ3.out) B6.out)
    have FQ4 := Lib.hid (show w6.cell? ⟨gl, ol + j * 5 + 4, none⟩ = some (.int .i64 q.stop) from cell_onV (HKJ.out ▸ ZQ4.out) B6.out)
    cases lb with
    | false =>
      have E := Lib.hid (HNO.out HL2.out)
      have Fd0 := Lib.hid (show w6.cell? ⟨w.heap.size, 0, none⟩ = some (.slice Ad0 d.points.length cd0) from Kd_6.out.cell 0)
      have Fd1 := Lib.hid (show w6.cell? ⟨w.heap.size, 1, none⟩ = some (.slice Ad1 d.segs.length cd1) from Kd_6.out.cell 1)
      have DD := Lib.hid ((Below.refl w6.heap.size w6).drew)
      have vFd0 := Fd0.out
      have vFd1 := Fd1.out
      have vFP0 := FP0.out
      have vFP1 := FP1.out
      have vFP2 := FP2.out
      have vFP3 := FP3.out
      have vFP4 := FP4.out
      have vFQ0 := FQ0.out
      have vFQ1 := FQ1.out
      have vFQ2 := FQ2.out
      have vFQ3 := FQ3.out
      have vFQ4 := FQ4.out
      refine wp_region_held_drew (S := (fun w' => w'.cell? ⟨w.heap.size, 0, none⟩ = some (.slice Ad0 d.points.length cd0) ∧ w'.cell? ⟨w.heap.size, 1, none⟩ = some (.slice Ad1 d.segs.length cd1) ∧ w'.cell? ⟨wr.heap.size, 0, none⟩ = some (.int .i64 p.ship) ∧ w'.cell? ⟨wr.heap.size, 1, none⟩ = some (.int .i64 p.segment) ∧ w'.cell? ⟨wr.heap.size, 2, none⟩ = some (.bool p.toward) ∧ w'.cell? ⟨wr.heap.size, 3, none⟩ = some (.int .i64 p.start) ∧ w'.cell? ⟨wr.heap.size, 4, none⟩ = some (.int .i64 p.stop) ∧ w'.cell? ⟨gl, ol + j * 5, none⟩ = some (.int .i64 q.ship) ∧ w'.cell? ⟨gl, ol + j * 5 + 1, none⟩ = some (.int .i64 q.segment) ∧ w'.cell? ⟨gl, ol + j * 5 + 2, none⟩ = some (.bool q.toward) ∧ w'.cell? ⟨gl, ol + j * 5 + 3, none⟩ = some (.int .i64 q.start) ∧ w'.cell? ⟨gl, ol + j * 5 + 4, none⟩ = some (.int .i64 q.stop) ∧ Hid (Below w6.heap.size w6 w'))) (by kernel_rfl) ?_ (fun hHeld => ?_)
      · (try dsimp only); go_keep
      refine wpAnyH_take (i := 0) (v := ?_) (by simp only [List.getElem?_toArray, List.getElem?_cons_zero]; rfl) (by kernel_rfl) (by kernel_rfl) (by kernel_rfl) (by exact fun _ _ _ h => h) (Or.inl ⟨by rfl, ?_⟩) (by assumption) ?_; rotate_left; focus (intro w hSw; (try dsimp only at hSw); first | (go_simp; done) | (go_simp; with_reducible rfl))
      try simp only [Act.put, List.setIfInBounds_toArray, List.set_cons_zero, List.set_cons_succ]
      refine wpAnyH_take (i := 1) (v := ?_) (by simp only [List.getElem?_toArray, List.getElem?_cons_succ, List.getElem?_cons_zero]; rfl) (by kernel_rfl) (by kernel_rfl) (by kernel_rfl) (by exact fun _ _ _ h => h) (Or.inl ⟨by rfl, ?_⟩) (by assumption) ?_; rotate_left; focus (intro w hSw; (try dsimp only at hSw); first | (go_simp; done) | (go_simp; with_reducible rfl))
      try simp only [Act.put, List.setIfInBounds_toArray, List.set_cons_zero, List.set_cons_succ]
      refine wpAnyH_take (i := 2) (v := ?_) (by simp only [List.getElem?_toArray, List.getElem?_cons_succ, List.getElem?_cons_zero]; rfl) (by kernel_rfl) (by kernel_rfl) (by kernel_rfl) (by exact fun _ _ _ h => h) (Or.inl ⟨by rfl, ?_⟩) (by assumption) ?_; rotate_left; focus (intro w hSw; (try dsimp only at hSw); first | (go_simp; done) | (go_simp; with_reducible rfl))
      try simp only [Act.put, List.setIfInBounds_toArray, List.set_cons_zero, List.set_cons_succ]
      refine wpAnyH_take (i := 3) (v := ?_) (by simp only [List.getElem?_toArray, List.getElem?_cons_succ, List.getElem?_cons_zero]; rfl) (by kernel_rfl) (by kernel_rfl) (by kernel_rfl) (by exact fun _ _ _ h => h) (Or.inl ⟨by rfl, ?_⟩) (by assumption) ?_; rotate_left; focus (intro w hSw; (try dsimp only at hSw); first | (go_simp; done) | (go_simp; with_reducible rfl))
      try simp only [Act.put, List.setIfInBounds_toArray, List.set_cons_zero, List.set_cons_succ]
      refine wpAnyH_take (i := 4) (v := ?_) (by simp only [List.getElem?_toArray, List.getElem?_cons_succ, List.getElem?_cons_zero]; rfl) (by kernel_rfl) (by kernel_rfl) (by kernel_rfl) (by exact fun _ _ _ h => h) (Or.inl ⟨by rfl, ?_⟩) (by assumption) ?_; rotate_left; focus (intro w hSw; (try dsimp only at hSw); first | (go_simp; done) | (go_simp; with_reducible rfl))
      try simp only [Act.put, List.setIfInBounds_toArray, List.set_cons_zero, List.set_cons_succ]
      refine wpAnyH_ready (rs := [5]) (by kernel_rfl) (by simp) ?_
      refine AllReadyH.cons rfl (fun K hK => ?_) AllReadyH.nil
      rw [if_pos (by rfl)]
      go_simp
      go_at_call 54
      have kB := hHeld.2.2.2.2.2.2.2.2.2.2.2.2
      refine ((isIndex_any _ _ _)).mono ?_
      rw [HBI.out]
      rintro e wq6_5 ⟨rfl, hbk1⟩
      have hbk := below_same hbk1
      have HBK := kB.out.trans (hbk.mono kB.out.size)
      have QS := Lib.hid (show wq6_5.cell? ⟨w.heap.size, 0, none⟩ = some (.slice Ad0 d.points.length cd0) ∧ wq6_5.cell? ⟨w.heap.size, 1, none⟩ = some (.slice Ad1 d.segs.length cd1) ∧ wq6_5.cell? ⟨wr.heap.size, 0, none⟩ = some (.int .i64 p.ship) ∧ wq6_5.cell? ⟨wr.heap.size, 1, none⟩ = some (.int .i64 p.segment) ∧ wq6_5.cell? ⟨wr.heap.size, 2, none⟩ = some (.bool p.toward) ∧ wq6_5.cell? ⟨wr.heap.size, 3, none⟩ = some (.int .i64 p.start) ∧ wq6_5.cell? ⟨wr.heap.size, 4, none⟩ = some (.int .i64 p.stop) ∧ wq6_5.cell? ⟨gl, ol + j * 5, none⟩ = some (.int .i64 q.ship) ∧ wq6_5.cell? ⟨gl, ol + j * 5 + 1, none⟩ = some (.int .i64 q.segment) ∧ wq6_5.cell? ⟨gl, ol + j * 5 + 2, none⟩ = some (.bool q.toward) ∧ wq6_5.cell? ⟨gl, ol + j * 5 + 3, none⟩ = some (.int .i64 q.start) ∧ wq6_5.cell? ⟨gl, ol + j * 5 + 4, none⟩ = some (.int .i64 q.stop) ∧ Hid (Below w6.heap.size w6 wq6_5) from ⟨cell_onV Fd0.out HBK, cell_onV Fd1.out HBK, cell_onV FP0.out HBK, cell_onV FP1.out HBK, cell_onV FP2.out HBK, cell_onV FP3.out HBK, cell_onV FP4.out HBK, cell_onV FQ0.out HBK, cell_onV FQ1.out HBK, cell_onV FQ2.out HBK, cell_onV FQ3.out HBK, cell_onV FQ4.out HBK, Lib.hid HBK⟩)
      clear hbk kB hHeld HBK
      go_simp
      refine hK.out _ _ ?_ (fun hHeld => ?_)
      · (try dsimp only); exact QS.out
      clear hK K
      try simp only [Act.put, List.setIfInBounds_toArray, List.set_cons_zero, List.set_cons_succ]
      refine wpAnyH_take (i := 6) (v := ?_) (by simp only [List.getElem?_toArray, List.getElem?_cons_succ, List.getElem?_cons_zero]; rfl) (by kernel_rfl) (by kernel_rfl) (by kernel_rfl) (by exact fun _ _ _ h => h) (Or.inl ⟨by rfl, ?_⟩) (by assumption) ?_; rotate_left; focus (intro w hSw; (try dsimp only at hSw); first | (go_simp; done) | (go_simp; with_reducible rfl))
      try simp only [Act.put, List.setIfInBounds_toArray, List.set_cons_zero, List.set_cons_succ]
      refine wpAnyH_take (i := 7) (v := ?_) (by simp only [List.getElem?_toArray, List.getElem?_cons_succ, List.getElem?_cons_zero]; rfl) (by kernel_rfl) (by kernel_rfl) (by kernel_rfl) (by exact fun _ _ _ h => h) (Or.inl ⟨by rfl, ?_⟩) (by assumption) ?_; rotate_left; focus (intro w hSw; (try dsimp only at hSw); first | (go_simp; done) | (go_simp; with_reducible rfl))
      try simp only [Act.put, List.setIfInBounds_toArray, List.set_cons_zero, List.set_cons_succ]
      refine wpAnyH_take (i := 8) (v := ?_) (by simp only [List.getElem?_toArray, List.getElem?_cons_succ, List.getElem?_cons_zero]; rfl) (by kernel_rfl) (by kernel_rfl) (by kernel_rfl) (by exact fun _ _ _ h => h) (Or.inl ⟨by rfl, ?_⟩) (by assumption) ?_; rotate_left; focus (intro w hSw; (try dsimp only at hSw); first | (go_simp; done) | (go_simp; with_reducible rfl))
      try simp only [Act.put, List.setIfInBounds_toArray, List.set_cons_zero, List.set_cons_succ]
      refine wpAnyH_take (i := 9) (v := ?_) (by simp only [List.getElem?_toArray, List.getElem?_cons_succ, List.getElem?_cons_zero]; rfl) (by kernel_rfl) (by kernel_rfl) (by kernel_rfl) (by exact fun _ _ _ h => h) (Or.inl ⟨by rfl, ?_⟩) (by assumption) ?_; rotate_left; focus (intro w hSw; (try dsimp only at hSw); first | (go_simp; done) | (go_simp; with_reducible rfl))
      try simp only [Act.put, List.setIfInBounds_toArray, List.set_cons_zero, List.set_cons_succ]
      refine wpAnyH_take (i := 10) (v := ?_) (by simp only [List.getElem?_toArray, List.getElem?_cons_succ, List.getElem?_cons_zero]; rfl) (by kernel_rfl) (by kernel_rfl) (by kernel_rfl) (by exact fun _ _ _ h => h) (Or.inl ⟨by rfl, ?_⟩) (by assumption) ?_; rotate_left; focus (intro w hSw; (try dsimp only at hSw); first | (go_simp; done) | (go_simp; with_reducible rfl))
      try simp only [Act.put, List.setIfInBounds_toArray, List.set_cons_zero, List.set_cons_succ]
      refine wpAnyH_take (i := 11) (v := ?_) (by simp only [List.getElem?_toArray, List.getElem?_cons_succ, List.getElem?_cons_zero]; rfl) (by kernel_rfl) (by kernel_rfl) (by kernel_rfl) (by exact fun _ _ _ h => h) (Or.inl ⟨by rfl, ?_⟩) (by assumption) ?_; rotate_left; focus (intro w hSw; (try dsimp only at hSw); first | (go_simp; done) | (go_simp; with_reducible rfl))
      try simp only [Act.put, List.setIfInBounds_toArray, List.set_cons_zero, List.set_cons_succ]
      refine wpAnyH_take (i := 12) (v := ?_) (by simp only [List.getElem?_toArray, List.getElem?_cons_succ, List.getElem?_cons_zero]; rfl) (by kernel_rfl) (by kernel_rfl) (by kernel_rfl) (by exact fun _ _ _ h => h) (Or.inl ⟨by rfl, ?_⟩) (by assumption) ?_; rotate_left; focus (intro w hSw; (try dsimp only at hSw); first | (go_simp; done) | (go_simp; with_reducible rfl))
      try simp only [Act.put, List.setIfInBounds_toArray, List.set_cons_zero, List.set_cons_succ]
      refine wpAnyH_take (i := 13) (v := ?_) (by simp only [List.getElem?_toArray, List.getElem?_cons_succ, List.getElem?_cons_zero]; rfl) (by kernel_rfl) (by kernel_rfl) (by kernel_rfl) (by exact fun _ _ _ h => h) (Or.inl ⟨by rfl, ?_⟩) (by assumption) ?_; rotate_left; focus (intro w hSw; (try dsimp only at hSw); first | (go_simp; done) | (go_simp; with_reducible rfl))
      try simp only [Act.put, List.setIfInBounds_toArray, List.set_cons_zero, List.set_cons_succ]
      refine wpAnyH_take (i := 14) (v := ?_) (by simp only [List.getElem?_toArray, List.getElem?_cons_succ, List.getElem?_cons_zero]; rfl) (by kernel_rfl) (by kernel_rfl) (by kernel_rfl) (by exact fun _ _ _ h => h) (Or.inl ⟨by rfl, ?_⟩) (by assumption) ?_; rotate_left; focus (intro w hSw; (try dsimp only at hSw); first | (go_simp; done) | (go_simp; with_reducible rfl))
      try simp only [Act.put, List.setIfInBounds_toArray, List.set_cons_zero, List.set_cons_succ]
      refine wpAnyH_take (i := 15) (v := ?_) (by simp only [List.getElem?_toArray, List.getElem?_cons_succ, List.getElem?_cons_zero]; rfl) (by kernel_rfl) (by kernel_rfl) (by kernel_rfl) (by exact fun _ _ _ h => h) (Or.inl ⟨by rfl, ?_⟩) (by assumption) ?_; rotate_left; focus (intro w hSw; (try dsimp only at hSw); first | (go_simp; done) | (go_simp; with_reducible rfl))
      try simp only [Act.put, List.setIfInBounds_toArray, List.set_cons_zero, List.set_cons_succ]
      refine wpAnyH_take (i := 16) (v := ?_) (by simp only [List.getElem?_toArray, List.getElem?_cons_succ, List.getElem?_cons_zero]; rfl) (by kernel_rfl) (by kernel_rfl) (by kernel_rfl) (by exact fun _ _ _ h => h) (Or.inl ⟨by rfl, ?_⟩) (by assumption) ?_; rotate_left; focus (intro w hSw; (try dsimp only at hSw); first | (go_simp; done) | (go_simp; with_reducible rfl))
      try simp only [Act.put, List.setIfInBounds_toArray, List.set_cons_zero, List.set_cons_succ]
      refine wpAnyH_take (i := 17) (v := ?_) (by simp only [List.getElem?_toArray, List.getElem?_cons_succ, List.getElem?_cons_zero]; rfl) (by kernel_rfl) (by kernel_rfl) (by kernel_rfl) (by exact fun _ _ _ h => h) (Or.inl ⟨by rfl, ?_⟩) (by assumption) ?_; rotate_left; focus (intro w hSw; (try dsimp only at hSw); first | (go_simp; done) | (go_simp; with_reducible rfl))
      try simp only [Act.put, List.setIfInBounds_toArray, List.set_cons_zero, List.set_cons_succ]
      refine wpAnyH_ready (rs := [18]) (by kernel_rfl) (by simp) ?_
      refine AllReadyH.cons rfl (fun K hK => ?_) AllReadyH.nil
      rw [if_pos (by rfl)]
      go_simp
      go_at_call 82
      have kB := hHeld.2.2.2.2.2.2.2.2.2.2.2.2
      refine (goesOn_any _ _ d q p g h _ (Rd.out.below (B6.out.trans (kB.out.mono B6.out.size))) Nd.out HG.out HH.out).mono ?_
      rw [HLB.out]
      rintro e wq6_18 ⟨rfl, hbk⟩
      have HBK := kB.out.trans (hbk.mono kB.out.size)
      have QS := Lib.hid (show wq6_18.cell? ⟨w.heap.size, 0, none⟩ = some (.slice Ad0 d.points.length cd0) ∧ wq6_18.cell? ⟨w.heap.size, 1, none⟩ = some (.slice Ad1 d.segs.length cd1) ∧ wq6_18.cell? ⟨wr.heap.size, 0, none⟩ = some (.int .i64 p.ship) ∧ wq6_18.cell? ⟨wr.heap.size, 1, none⟩ = some (.int .i64 p.segment) ∧ wq6_18.cell? ⟨wr.heap.size, 2, none⟩ = some (.bool p.toward) ∧ wq6_18.cell? ⟨wr.heap.size, 3, none⟩ = some (.int .i64 p.start) ∧ wq6_18.cell? ⟨wr.heap.size, 4, none⟩ = some (.int .i64 p.stop) ∧ wq6_18.cell? ⟨gl, ol + j * 5, none⟩ = some (.int .i64 q.ship) ∧ wq6_18.cell? ⟨gl, ol + j * 5 + 1, none⟩ = some (.int .i64 q.segment) ∧ wq6_18.cell? ⟨gl, ol + j * 5 + 2, none⟩ = some (.bool q.toward) ∧ wq6_18.cell? ⟨gl, ol + j * 5 + 3, none⟩ = some (.int .i64 q.start) ∧ wq6_18.cell? ⟨gl, ol + j * 5 + 4, none⟩ = some (.int .i64 q.stop) ∧ Hid (Below w6.heap.size w6 wq6_18) from ⟨cell_onV Fd0.out HBK, cell_onV Fd1.out HBK, cell_onV FP0.out HBK, cell_onV FP1.out HBK, cell_onV FP2.out HBK, cell_onV FP3.out HBK, cell_onV FP4.out HBK, cell_onV FQ0.out HBK, cell_onV FQ1.out HBK, cell_onV FQ2.out HBK, cell_onV FQ3.out HBK, cell_onV FQ4.out HBK, Lib.hid HBK⟩)
      clear hbk kB hHeld HBK
      go_simp
      refine hK.out _ _ ?_ (fun hHeld => ?_)
      · (try dsimp only); exact QS.out
      clear hK K
      try simp only [Act.put, List.setIfInBounds_toArray, List.set_cons_zero, List.set_cons_succ]
      refine wpAnyH_take (i := 19) (v := ?_) (by simp only [List.getElem?_toArray, List.getElem?_cons_succ, List.getElem?_cons_zero]; rfl) (by kernel_rfl) (by kernel_rfl) (by kernel_rfl) (by exact fun _ _ _ h => h) (Or.inl ⟨by rfl, ?_⟩) (by assumption) ?_; rotate_left; focus (intro w hSw; (try dsimp only at hSw); first | (go_simp; done) | (go_simp; with_reducible rfl))
      try simp only [Act.put, List.setIfInBounds_toArray, List.set_cons_zero, List.set_cons_succ]
      refine wpAnyH_take (i := 20) (v := ?_) (by simp only [List.getElem?_toArray, List.getElem?_cons_succ, List.getElem?_cons_zero]; rfl) (by kernel_rfl) (by kernel_rfl) (by kernel_rfl) (by exact fun _ _ _ h => h) (Or.inl ⟨by rfl, ?_⟩) (by assumption) ?_; rotate_left; focus (intro w hSw; (try dsimp only at hSw); first | (go_simp; done) | (go_simp; with_reducible rfl))
      try simp only [Act.put, List.setIfInBounds_toArray, List.set_cons_zero, List.set_cons_succ]
      refine wpAnyH_take (i := 21) (v := ?_) (by simp only [List.getElem?_toArray, List.getElem?_cons_succ, List.getElem?_cons_zero]; rfl) (by kernel_rfl) (by kernel_rfl) (by kernel_rfl) (by exact fun _ _ _ h => h) (Or.inl ⟨by rfl, ?_⟩) (by assumption) ?_; rotate_left; focus (intro w hSw; (try dsimp only at hSw); first | (go_simp; done) | (go_simp; with_reducible rfl))
      try simp only [Act.put, List.setIfInBounds_toArray, List.set_cons_zero, List.set_cons_succ]
      refine wpAnyH_done (by kernel_rfl) ?_ _
      go_wp2
      go_ret
      exact ⟨ret_bool E.out.symm, B6.out.trans (hHeld.2.2.2.2.2.2.2.2.2.2.2.2.out.mono B6.out.size)⟩
    | true =>
      have E := Lib.hid (HNX.out HL2.out)
      have Fd0 := Lib.hid (show w6.cell? ⟨w.heap.size, 0, none⟩ = some (.slice Ad0 d.points.length cd0) from Kd_6.out.cell 0)
      have Fd1 := Lib.hid (show w6.cell? ⟨w.heap.size, 1, none⟩ = some (.slice Ad1 d.segs.length cd1) from Kd_6.out.cell 1)
      have DD := Lib.hid ((Below.refl w6.heap.size w6).drew)
      have vFd0 := Fd0.out
      have vFd1 := Fd1.out
      have vFP0 := FP0.out
      have vFP1 := FP1.out
      have vFP2 := FP2.out
      have vFP3 := FP3.out
      have vFP4 := FP4.out
      have vFQ0 := FQ0.out
      have vFQ1 := FQ1.out
      have vFQ2 := FQ2.out
      have vFQ3 := FQ3.out
      have vFQ4 := FQ4.out
      refine wp_region_held_drew (S := (fun w' => w'.cell? ⟨w.heap.size, 0, none⟩ = some (.slice Ad0 d.points.length cd0) ∧ w'.cell? ⟨w.heap.size, 1, none⟩ = some (.slice Ad1 d.segs.length cd1) ∧ w'.cell? ⟨wr.heap.size, 0, none⟩ = some (.int .i64 p.ship) ∧ w'.cell? ⟨wr.heap.size, 1, none⟩ = some (.int .i64 p.segment) ∧ w'.cell? ⟨wr.heap.size, 2, none⟩ = some (.bool p.toward) ∧ w'.cell? ⟨wr.heap.size, 3, none⟩ = some (.int .i64 p.start) ∧ w'.cell? ⟨wr.heap.size, 4, none⟩ = some (.int .i64 p.stop) ∧ w'.cell? ⟨gl, ol + j * 5, none⟩ = some (.int .i64 q.ship) ∧ w'.cell? ⟨gl, ol + j * 5 + 1, none⟩ = some (.int .i64 q.segment) ∧ w'.cell? ⟨gl, ol + j * 5 + 2, none⟩ = some (.bool q.toward) ∧ w'.cell? ⟨gl, ol + j * 5 + 3, none⟩ = some (.int .i64 q.start) ∧ w'.cell? ⟨gl, ol + j * 5 + 4, none⟩ = some (.int .i64 q.stop) ∧ Hid (Below w6.heap.size w6 w'))) (by kernel_rfl) ?_ (fun hHeld => ?_)
      · (try dsimp only); go_keep
      refine wpAnyH_take (i := 0) (v := ?_) (by simp only [List.getElem?_toArray, List.getElem?_cons_zero]; rfl) (by kernel_rfl) (by kernel_rfl) (by kernel_rfl) (by exact fun _ _ _ h => h) (Or.inl ⟨by rfl, ?_⟩) (by assumption) ?_; rotate_left; focus (intro w hSw; (try dsimp only at hSw); first | (go_simp; done) | (go_simp; with_reducible rfl))
      try simp only [Act.put, List.setIfInBounds_toArray, List.set_cons_zero, List.set_cons_succ]
      refine wpAnyH_take (i := 1) (v := ?_) (by simp only [List.getElem?_toArray, List.getElem?_cons_succ, List.getElem?_cons_zero]; rfl) (by kernel_rfl) (by kernel_rfl) (by kernel_rfl) (by exact fun _ _ _ h => h) (Or.inl ⟨by rfl, ?_⟩) (by assumption) ?_; rotate_left; focus (intro w hSw; (try dsimp only at hSw); first | (go_simp; done) | (go_simp; with_reducible rfl))
      try simp only [Act.put, List.setIfInBounds_toArray, List.set_cons_zero, List.set_cons_succ]
      refine wpAnyH_take (i := 2) (v := ?_) (by simp only [List.getElem?_toArray, List.getElem?_cons_succ, List.getElem?_cons_zero]; rfl) (by kernel_rfl) (by kernel_rfl) (by kernel_rfl) (by exact fun _ _ _ h => h) (Or.inl ⟨by rfl, ?_⟩) (by assumption) ?_; rotate_left; focus (intro w hSw; (try dsimp only at hSw); first | (go_simp; done) | (go_simp; with_reducible rfl))
      try simp only [Act.put, List.setIfInBounds_toArray, List.set_cons_zero, List.set_cons_succ]
      refine wpAnyH_take (i := 3) (v := ?_) (by simp only [List.getElem?_toArray, List.getElem?_cons_succ, List.getElem?_cons_zero]; rfl) (by kernel_rfl) (by kernel_rfl) (by kernel_rfl) (by exact fun _ _ _ h => h) (Or.inl ⟨by rfl, ?_⟩) (by assumption) ?_; rotate_left; focus (intro w hSw; (try dsimp only at hSw); first | (go_simp; done) | (go_simp; with_reducible rfl))
      try simp only [Act.put, List.setIfInBounds_toArray, List.set_cons_zero, List.set_cons_succ]
      refine wpAnyH_take (i := 4) (v := ?_) (by simp only [List.getElem?_toArray, List.getElem?_cons_succ, List.getElem?_cons_zero]; rfl) (by kernel_rfl) (by kernel_rfl) (by kernel_rfl) (by exact fun _ _ _ h => h) (Or.inl ⟨by rfl, ?_⟩) (by assumption) ?_; rotate_left; focus (intro w hSw; (try dsimp only at hSw); first | (go_simp; done) | (go_simp; with_reducible rfl))
      try simp only [Act.put, List.setIfInBounds_toArray, List.set_cons_zero, List.set_cons_succ]
      refine wpAnyH_ready (rs := [5]) (by kernel_rfl) (by simp) ?_
      refine AllReadyH.cons rfl (fun K hK => ?_) AllReadyH.nil
      rw [if_pos (by rfl)]
      go_simp
      go_at_call 54
      have kB := hHeld.2.2.2.2.2.2.2.2.2.2.2.2
      refine ((isIndex_any _ _ _)).mono ?_
      rw [HBI.out]
      rintro e wq6_5 ⟨rfl, hbk1⟩
      have hbk := below_same hbk1
      have HBK := kB.out.trans (hbk.mono kB.out.size)
      have QS := Lib.hid (show wq6_5.cell? ⟨w.heap.size, 0, none⟩ = some (.slice Ad0 d.points.length cd0) ∧ wq6_5.cell? ⟨w.heap.size, 1, none⟩ = some (.slice Ad1 d.segs.length cd1) ∧ wq6_5.cell? ⟨wr.heap.size, 0, none⟩ = some (.int .i64 p.ship) ∧ wq6_5.cell? ⟨wr.heap.size, 1, none⟩ = some (.int .i64 p.segment) ∧ wq6_5.cell? ⟨wr.heap.size, 2, none⟩ = some (.bool p.toward) ∧ wq6_5.cell? ⟨wr.heap.size, 3, none⟩ = some (.int .i64 p.start) ∧ wq6_5.cell? ⟨wr.heap.size, 4, none⟩ = some (.int .i64 p.stop) ∧ wq6_5.cell? ⟨gl, ol + j * 5, none⟩ = some (.int .i64 q.ship) ∧ wq6_5.cell? ⟨gl, ol + j * 5 + 1, none⟩ = some (.int .i64 q.segment) ∧ wq6_5.cell? ⟨gl, ol + j * 5 + 2, none⟩ = some (.bool q.toward) ∧ wq6_5.cell? ⟨gl, ol + j * 5 + 3, none⟩ = some (.int .i64 q.start) ∧ wq6_5.cell? ⟨gl, ol + j * 5 + 4, none⟩ = some (.int .i64 q.stop) ∧ Hid (Below w6.heap.size w6 wq6_5) from ⟨cell_onV Fd0.out HBK, cell_onV Fd1.out HBK, cell_onV FP0.out HBK, cell_onV FP1.out HBK, cell_onV FP2.out HBK, cell_onV FP3.out HBK, cell_onV FP4.out HBK, cell_onV FQ0.out HBK, cell_onV FQ1.out HBK, cell_onV FQ2.out HBK, cell_onV FQ3.out HBK, cell_onV FQ4.out HBK, Lib.hid HBK⟩)
      clear hbk kB hHeld HBK
      go_simp
      refine hK.out _ _ ?_ (fun hHeld => ?_)
      · (try dsimp only); exact QS.out
      clear hK K
      try simp only [Act.put, List.setIfInBounds_toArray, List.set_cons_zero, List.set_cons_succ]
      refine wpAnyH_take (i := 6) (v := ?_) (by simp only [List.getElem?_toArray, List.getElem?_cons_succ, List.getElem?_cons_zero]; rfl) (by kernel_rfl) (by kernel_rfl) (by kernel_rfl) (by exact fun _ _ _ h => h) (Or.inl ⟨by rfl, ?_⟩) (by assumption) ?_; rotate_left; focus (intro w hSw; (try dsimp only at hSw); first | (go_simp; done) | (go_simp; with_reducible rfl))
      try simp only [Act.put, List.setIfInBounds_toArray, List.set_cons_zero, List.set_cons_succ]
      refine wpAnyH_take (i := 7) (v := ?_) (by simp only [List.getElem?_toArray, List.getElem?_cons_succ, List.getElem?_cons_zero]; rfl) (by kernel_rfl) (by kernel_rfl) (by kernel_rfl) (by exact fun _ _ _ h => h) (Or.inl ⟨by rfl, ?_⟩) (by assumption) ?_; rotate_left; focus (intro w hSw; (try dsimp only at hSw); first | (go_simp; done) | (go_simp; with_reducible rfl))
      try simp only [Act.put, List.setIfInBounds_toArray, List.set_cons_zero, List.set_cons_succ]
      refine wpAnyH_take (i := 8) (v := ?_) (by simp only [List.getElem?_toArray, List.getElem?_cons_succ, List.getElem?_cons_zero]; rfl) (by kernel_rfl) (by kernel_rfl) (by kernel_rfl) (by exact fun _ _ _ h => h) (Or.inl ⟨by rfl, ?_⟩) (by assumption) ?_; rotate_left; focus (intro w hSw; (try dsimp only at hSw); first | (go_simp; done) | (go_simp; with_reducible rfl))
      try simp only [Act.put, List.setIfInBounds_toArray, List.set_cons_zero, List.set_cons_succ]
      refine wpAnyH_take (i := 9) (v := ?_) (by simp only [List.getElem?_toArray, List.getElem?_cons_succ, List.getElem?_cons_zero]; rfl) (by kernel_rfl) (by kernel_rfl) (by kernel_rfl) (by exact fun _ _ _ h => h) (Or.inl ⟨by rfl, ?_⟩) (by assumption) ?_; rotate_left; focus (intro w hSw; (try dsimp only at hSw); first | (go_simp; done) | (go_simp; with_reducible rfl))
      try simp only [Act.put, List.setIfInBounds_toArray, List.set_cons_zero, List.set_cons_succ]
      refine wpAnyH_take (i := 10) (v := ?_) (by simp only [List.getElem?_toArray, List.getElem?_cons_succ, List.getElem?_cons_zero]; rfl) (by kernel_rfl) (by kernel_rfl) (by kernel_rfl) (by exact fun _ _ _ h => h) (Or.inl ⟨by rfl, ?_⟩) (by assumption) ?_; rotate_left; focus (intro w hSw; (try dsimp only at hSw); first | (go_simp; done) | (go_simp; with_reducible rfl))
      try simp only [Act.put, List.setIfInBounds_toArray, List.set_cons_zero, List.set_cons_succ]
      refine wpAnyH_take (i := 11) (v := ?_) (by simp only [List.getElem?_toArray, List.getElem?_cons_succ, List.getElem?_cons_zero]; rfl) (by kernel_rfl) (by kernel_rfl) (by kernel_rfl) (by exact fun _ _ _ h => h) (Or.inl ⟨by rfl, ?_⟩) (by assumption) ?_; rotate_left; focus (intro w hSw; (try dsimp only at hSw); first | (go_simp; done) | (go_simp; with_reducible rfl))
      try simp only [Act.put, List.setIfInBounds_toArray, List.set_cons_zero, List.set_cons_succ]
      refine wpAnyH_take (i := 12) (v := ?_) (by simp only [List.getElem?_toArray, List.getElem?_cons_succ, List.getElem?_cons_zero]; rfl) (by kernel_rfl) (by kernel_rfl) (by kernel_rfl) (by exact fun _ _ _ h => h) (Or.inl ⟨by rfl, ?_⟩) (by assumption) ?_; rotate_left; focus (intro w hSw; (try dsimp only at hSw); first | (go_simp; done) | (go_simp; with_reducible rfl))
      try simp only [Act.put, List.setIfInBounds_toArray, List.set_cons_zero, List.set_cons_succ]
      refine wpAnyH_take (i := 13) (v := ?_) (by simp only [List.getElem?_toArray, List.getElem?_cons_succ, List.getElem?_cons_zero]; rfl) (by kernel_rfl) (by kernel_rfl) (by kernel_rfl) (by exact fun _ _ _ h => h) (Or.inl ⟨by rfl, ?_⟩) (by assumption) ?_; rotate_left; focus (intro w hSw; (try dsimp only at hSw); first | (go_simp; done) | (go_simp; with_reducible rfl))
      try simp only [Act.put, List.setIfInBounds_toArray, List.set_cons_zero, List.set_cons_succ]
      refine wpAnyH_take (i := 14) (v := ?_) (by simp only [List.getElem?_toArray, List.getElem?_cons_succ, List.getElem?_cons_zero]; rfl) (by kernel_rfl) (by kernel_rfl) (by kernel_rfl) (by exact fun _ _ _ h => h) (Or.inl ⟨by rfl, ?_⟩) (by assumption) ?_; rotate_left; focus (intro w hSw; (try dsimp only at hSw); first | (go_simp; done) | (go_simp; with_reducible rfl))
      try simp only [Act.put, List.setIfInBounds_toArray, List.set_cons_zero, List.set_cons_succ]
      refine wpAnyH_take (i := 15) (v := ?_) (by simp only [List.getElem?_toArray, List.getElem?_cons_succ, List.getElem?_cons_zero]; rfl) (by kernel_rfl) (by kernel_rfl) (by kernel_rfl) (by exact fun _ _ _ h => h) (Or.inl ⟨by rfl, ?_⟩) (by assumption) ?_; rotate_left; focus (intro w hSw; (try dsimp only at hSw); first | (go_simp; done) | (go_simp; with_reducible rfl))
      try simp only [Act.put, List.setIfInBounds_toArray, List.set_cons_zero, List.set_cons_succ]
      refine wpAnyH_take (i := 16) (v := ?_) (by simp only [List.getElem?_toArray, List.getElem?_cons_succ, List.getElem?_cons_zero]; rfl) (by kernel_rfl) (by kernel_rfl) (by kernel_rfl) (by exact fun _ _ _ h => h) (Or.inl ⟨by rfl, ?_⟩) (by assumption) ?_; rotate_left; focus (intro w hSw; (try dsimp only at hSw); first | (go_simp; done) | (go_simp; with_reducible rfl))
      try simp only [Act.put, List.setIfInBounds_toArray, List.set_cons_zero, List.set_cons_succ]
      refine wpAnyH_take (i := 17) (v := ?_) (by simp only [List.getElem?_toArray, List.getElem?_cons_succ, List.getElem?_cons_zero]; rfl) (by kernel_rfl) (by kernel_rfl) (by kernel_rfl) (by exact fun _ _ _ h => h) (Or.inl ⟨by rfl, ?_⟩) (by assumption) ?_; rotate_left; focus (intro w hSw; (try dsimp only at hSw); first | (go_simp; done) | (go_simp; with_reducible rfl))
      try simp only [Act.put, List.setIfInBounds_toArray, List.set_cons_zero, List.set_cons_succ]
      refine wpAnyH_ready (rs := [18]) (by kernel_rfl) (by simp) ?_
      refine AllReadyH.cons rfl (fun K hK => ?_) AllReadyH.nil
      rw [if_pos (by rfl)]
      go_simp
      go_at_call 82
      have kB := hHeld.2.2.2.2.2.2.2.2.2.2.2.2
      refine (goesOn_any _ _ d q p g h _ (Rd.out.below (B6.out.trans (kB.out.mono B6.out.size))) Nd.out HG.out HH.out).mono ?_
      rw [HLB.out]
      rintro e wq6_18 ⟨rfl, hbk⟩
      have HBK := kB.out.trans (hbk.mono kB.out.size)
      have QS := Lib.hid (show wq6_18.cell? ⟨w.heap.size, 0, none⟩ = some (.slice Ad0 d.points.length cd0) ∧ wq6_18.cell? ⟨w.heap.size, 1, none⟩ = some (.slice Ad1 d.segs.length cd1) ∧ wq6_18.cell? ⟨wr.heap.size, 0, none⟩ = some (.int .i64 p.ship) ∧ wq6_18.cell? ⟨wr.heap.size, 1, none⟩ = some (.int .i64 p.segment) ∧ wq6_18.cell? ⟨wr.heap.size, 2, none⟩ = some (.bool p.toward) ∧ wq6_18.cell? ⟨wr.heap.size, 3, none⟩ = some (.int .i64 p.start) ∧ wq6_18.cell? ⟨wr.heap.size, 4, none⟩ = some (.int .i64 p.stop) ∧ wq6_18.cell? ⟨gl, ol + j * 5, none⟩ = some (.int .i64 q.ship) ∧ wq6_18.cell? ⟨gl, ol + j * 5 + 1, none⟩ = some (.int .i64 q.segment) ∧ wq6_18.cell? ⟨gl, ol + j * 5 + 2, none⟩ = some (.bool q.toward) ∧ wq6_18.cell? ⟨gl, ol + j * 5 + 3, none⟩ = some (.int .i64 q.start) ∧ wq6_18.cell? ⟨gl, ol + j * 5 + 4, none⟩ = some (.int .i64 q.stop) ∧ Hid (Below w6.heap.size w6 wq6_18) from ⟨cell_onV Fd0.out HBK, cell_onV Fd1.out HBK, cell_onV FP0.out HBK, cell_onV FP1.out HBK, cell_onV FP2.out HBK, cell_onV FP3.out HBK, cell_onV FP4.out HBK, cell_onV FQ0.out HBK, cell_onV FQ1.out HBK, cell_onV FQ2.out HBK, cell_onV FQ3.out HBK, cell_onV FQ4.out HBK, Lib.hid HBK⟩)
      clear hbk kB hHeld HBK
      go_simp
      refine hK.out _ _ ?_ (fun hHeld => ?_)
      · (try dsimp only); exact QS.out
      clear hK K
      try simp only [Act.put, List.setIfInBounds_toArray, List.set_cons_zero, List.set_cons_succ]
      refine wpAnyH_take (i := 19) (v := ?_) (by simp only [List.getElem?_toArray, List.getElem?_cons_succ, List.getElem?_cons_zero]; rfl) (by kernel_rfl) (by kernel_rfl) (by kernel_rfl) (by exact fun _ _ _ h => h) (Or.inl ⟨by rfl, ?_⟩) (by assumption) ?_; rotate_left; focus (intro w hSw; (try dsimp only at hSw); first | (go_simp; done) | (go_simp; with_reducible rfl))
      try simp only [Act.put, List.setIfInBounds_toArray, List.set_cons_zero, List.set_cons_succ]
      refine wpAnyH_take (i := 20) (v := ?_) (by simp only [List.getElem?_toArray, List.getElem?_cons_succ, List.getElem?_cons_zero]; rfl) (by kernel_rfl) (by kernel_rfl) (by kernel_rfl) (by exact fun _ _ _ h => h) (Or.inl ⟨by rfl, ?_⟩) (by assumption) ?_; rotate_left; focus (intro w hSw; (try dsimp only at hSw); first | (go_simp; done) | (go_simp; with_reducible rfl))
      try simp only [Act.put, List.setIfInBounds_toArray, List.set_cons_zero, List.set_cons_succ]
      refine wpAnyH_take (i := 21) (v := ?_) (by simp only [List.getElem?_toArray, List.getElem?_cons_succ, List.getElem?_cons_zero]; rfl) (by kernel_rfl) (by kernel_rfl) (by kernel_rfl) (by exact fun _ _ _ h => h) (Or.inl ⟨by rfl, ?_⟩) (by assumption) ?_; rotate_left; focus (intro w hSw; (try dsimp only at hSw); first | (go_simp; done) | (go_simp; with_reducible rfl))
      try simp only [Act.put, List.setIfInBounds_toArray, List.set_cons_zero, List.set_cons_succ]
      refine wpAnyH_done (by kernel_rfl) ?_ _
      have hbz := Lib.hid (hb6.out.trans (hHeld.2.2.2.2.2.2.2.2.2.2.2.2.out.mono hb6.out.size))
      clear hHeld DD
      go_wp2
      go_roundw
      case rel => exact ⟨k + 1, by omega, by go_num, E, hbz⟩
      case measure => simp [intOf]; omega
end Go.Proofs.Ytooeikimoheecaa
