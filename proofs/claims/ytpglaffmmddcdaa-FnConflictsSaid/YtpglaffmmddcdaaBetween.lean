
/- Rules of traffic, the program's side: conflictBetween, ConflictOf: contracts. -/
import Derived.Test.YtpglaffmmddcdaaRulesList
import Derived.Test.YtpglaffmmddcdaaChartC
import Derived.Deep.RegionHeld3
import Derived.Deep.DeepCutAuto
namespace Go.Proofs.Ytpglaffmmddcdaa
open Go.RowKit
set_option maxRecDepth 100000


set_option maxHeartbeats 8000000 in
theorem between_any (yd0 yd1 : Value) (d : ChartD) (r : RegimeD) (p : PassageD) (q : PassageD) (w : World) (rd : RdChart w yd0 yd1 d) (fd : ∀ x ∈ d.points, PointD.wf x) (fp : p.wf) (fq : q.wf) (hc : chartB d = true) (hr : regB r = true) :
    Calls Try.prog 50 #[.agg #[yd0, yd1], r.val, p.val, q.val] w (fun e w' => e = .returned (.int .i64 (confI d r p q)) ∧ Below w.heap.size w w') := by
  have Rd := Lib.hid rd
  obtain ⟨rd0, rd1⟩ := rd
  obtain ⟨Ad0, cd0, rfl⟩ := SlOf.form rd0
  obtain ⟨Ad1, cd1, rfl⟩ := SlOf.form rd1
  have Nd := Lib.hid fd
  clear fd
  clear rd0 rd1
  have Np := Lib.hid fp
  clear fp
  have Nq := Lib.hid fq
  clear fq
  obtain ⟨W0, hW0⟩ : ∃ W0, W0 = ((((w.alloc (.cells #[.slice Ad0 d.points.length cd0, .slice Ad1 d.segs.length cd1] 26)).alloc (.cells #[.int .i64 r.gap, .bool r.noMeet] 28)).alloc (.cells #[.int .i64 p.ship, .int .i64 p.segment, .bool p.toward, .int .i64 p.start, .int .i64 p.stop] 41)).alloc (.cells #[.int .i64 q.ship, .int .i64 q.segment, .bool q.toward, .int .i64 q.start, .int .i64 q.stop] 41)) := ⟨_, rfl⟩
  have B := Lib.hid ((((Joins.below_alloc1 w (.cells #[.slice Ad0 d.points.length cd0, .slice Ad1 d.segs.length cd1] 26)).trans ((Joins.below_alloc1 (w.alloc (.cells #[.slice Ad0 d.points.length cd0, .slice Ad1 d.segs.length cd1] 26)) (.cells #[.int .i64 r.gap, .bool r.noMeet] 28)).mono (by simp; try omega))).trans ((Joins.below_alloc1 ((w.alloc (.cells #[.slice Ad0 d.points.length cd0, .slice Ad1 d.segs.length cd1] 26)).alloc (.cells #[.int .i64 r.gap, .bool r.noMeet] 28)) (.cells #[.int .i64 p.ship, .int .i64 p.segment, .bool p.toward, .int .i64 p.start, .int .i64 p.stop] 41)).mono (by simp; try omega))).trans ((Joins.below_alloc1 (((w.alloc (.cells #[.slice Ad0 d.points.length cd0, .slice Ad1 d.segs.length cd1] 26)).alloc (.cells #[.int .i64 r.gap, .bool r.noMeet] 28)).alloc (.cells #[.int .i64 p.ship, .int .i64 p.segment, .bool p.toward, .int .i64 p.start, .int .i64 p.stop] 41)) (.cells #[.int .i64 q.ship, .int .i64 q.segment, .bool q.toward, .int .i64 q.start, .int .i64 q.stop] 41)).mono (by simp; try omega)))
  have Kd := Lib.hid ((((Blk.new w #[.slice Ad0 d.points.length cd0, .slice Ad1 d.segs.length cd1] 26).below (Joins.below_alloc1 _ (.cells #[.int .i64 r.gap, .bool r.noMeet] 28))).below (Joins.below_alloc1 _ (.cells #[.int .i64 p.ship, .int .i64 p.segment, .bool p.toward, .int .i64 p.start, .int .i64 p.stop] 41))).below (Joins.below_alloc1 _ (.cells #[.int .i64 q.ship, .int .i64 q.segment, .bool q.toward, .int .i64 q.start, .int .i64 q.stop] 41)))
  have Kr := Lib.hid (((Blk.new (w.alloc (.cells #[.slice Ad0 d.points.length cd0, .slice Ad1 d.segs.length cd1] 26)) #[.int .i64 r.gap, .bool r.noMeet] 28).below (Joins.below_alloc1 _ (.cells #[.int .i64 p.ship, .int .i64 p.segment, .bool p.toward, .int .i64 p.start, .int .i64 p.stop] 41))).below (Joins.below_alloc1 _ (.cells #[.int .i64 q.ship, .int .i64 q.segment, .bool q.toward, .int .i64 q.start, .int .i64 q.stop] 41)))
  rw [World.size_alloc] at Kr
  have Kp := Lib.hid ((Blk.new ((w.alloc (.cells #[.slice Ad0 d.points.length cd0, .slice Ad1 d.segs.length cd1] 26)).alloc (.cells #[.int .i64 r.gap, .bool r.noMeet] 28)) #[.int .i64 p.ship, .int .i64 p.segment, .bool p.toward, .int .i64 p.start, .int .i64 p.stop] 41).below (Joins.below_alloc1 _ (.cells #[.int .i64 q.ship, .int .i64 q.segment, .bool q.toward, .int .i64 q.start, .int .i64 q.stop] 41)))
  rw [World.size_alloc, World.size_alloc] at Kp
  have Kq := Lib.hid (Blk.new (((w.alloc (.cells #[.slice Ad0 d.points.length cd0, .slice Ad1 d.segs.length cd1] 26)).alloc (.cells #[.int .i64 r.gap, .bool r.noMeet] 28)).alloc (.cells #[.int .i64 p.ship, .int .i64 p.segment, .bool p.toward, .int .i64 p.start, .int .i64 p.stop] 41)) #[.int .i64 q.ship, .int .i64 q.segment, .bool q.toward, .int .i64 q.start, .int .i64 q.stop] 41)
  rw [World.size_alloc, World.size_alloc, World.size_alloc] at Kq
  have HW0 := Lib.hid hW0
  rw [← hW0] at B Kd Kr Kp Kq
  clear hW0
  have hdl := Rd.out.2.1
  obtain ⟨b3, hb3⟩ : ∃ b, inB p.segment 0 ((d.segs.length : Int) - 1) = b := ⟨_, rfl⟩
  have Hb3 := Lib.hid hb3
  obtain ⟨b4, hb4⟩ : ∃ b, (p.segment == q.segment) = b := ⟨_, rfl⟩
  have Hb4 := Lib.hid hb4
  have HP := Lib.hid (show confPre d r p q = (b3 && b4) by unfold confPre; rw [hc, hr, hb3, hb4]; simp)
  have hsn : (p.segment != q.segment) = !b4 := by rw [bne, hb4]
  have hg2 := of_decide_eq_true (show decide (0 ≤ r.gap ∧ r.gap ≤ 60) = true from hr)
  have HG2 := Lib.hid hg2
  clear hb3 hb4 hc hr hg2
  cases b4 with
  | false =>
    have E := Lib.hid (confI_bad (HP.out.trans (show _ = false by simp)))
    have hsn' : (p.segment != q.segment) = true := hsn
    clear hsn HP
    go_enter Try.func50, Try.ntmps50
    have vd0 : W0.cell? ⟨w.heap.size, 0, none⟩ = some (.slice Ad0 d.points.length cd0) := Kd.out.cell 0
    have vd1 : W0.cell? ⟨w.heap.size, 1, none⟩ = some (.slice Ad1 d.segs.length cd1) := Kd.out.cell 1
    have vr0 : W0.cell? ⟨w.heap.size + 1, 0, none⟩ = some (.int .i64 r.gap) := Kr.out.cell 0
    have vr1 : W0.cell? ⟨w.heap.size + 1, 1, none⟩ = some (.bool r.noMeet) := Kr.out.cell 1
    have vp0 : W0.cell? ⟨w.heap.size + 2, 0, none⟩ = some (.int .i64 p.ship) := Kp.out.cell 0
    have vp1 : W0.cell? ⟨w.heap.size + 2, 1, none⟩ = some (.int .i64 p.segment) := Kp.out.cell 1
    have vp2 : W0.cell? ⟨w.heap.size + 2, 2, none⟩ = some (.bool p.toward) := Kp.out.cell 2
    have vp3 : W0.cell? ⟨w.heap.size + 2, 3, none⟩ = some (.int .i64 p.start) := Kp.out.cell 3
    have vp4 : W0.cell? ⟨w.heap.size + 2, 4, none⟩ = some (.int .i64 p.stop) := Kp.out.cell 4
    have vq0 : W0.cell? ⟨w.heap.size + 3, 0, none⟩ = some (.int .i64 q.ship) := Kq.out.cell 0
    have vq1 : W0.cell? ⟨w.heap.size + 3, 1, none⟩ = some (.int .i64 q.segment) := Kq.out.cell 1
    have vq2 : W0.cell? ⟨w.heap.size + 3, 2, none⟩ = some (.bool q.toward) := Kq.out.cell 2
    have vq3 : W0.cell? ⟨w.heap.size + 3, 3, none⟩ = some (.int .i64 q.start) := Kq.out.cell 3
    have vq4 : W0.cell? ⟨w.heap.size + 3, 4, none⟩ = some (.int .i64 q.stop) := Kq.out.cell 4
    rw [HW0.out] at vd0 vd1 vr0 vr1 vp0 vp1 vp2 vp3 vp4 vq0 vq1 vq2 vq3 vq4
    clear vd0 vd1 vr0 vr1 vp0 vp1 vp2 vp3 vp4 vq0 vq1 vq2 vq3 vq4
    go_wp2
    go_ret
    exact ⟨ret_int E.out.symm, by rw [← HW0.out]; exact B.out⟩
  | true =>
  have hsn' : (p.segment != q.segment) = false := hsn
  clear hsn
  cases b3 with
  | false =>
    have E := Lib.hid (confI_bad (HP.out.trans (show _ = false by simp)))
    clear HP
    go_enter Try.func50, Try.ntmps50
    have vd0 : W0.cell? ⟨w.heap.size, 0, none⟩ = some (.slice Ad0 d.points.length cd0) := Kd.out.cell 0
    have vd1 : W0.cell? ⟨w.heap.size, 1, none⟩ = some (.slice Ad1 d.segs.length cd1) := Kd.out.cell 1
    have vr0 : W0.cell? ⟨w.heap.size + 1, 0, none⟩ = some (.int .i64 r.gap) := Kr.out.cell 0
    have vr1 : W0.cell? ⟨w.heap.size + 1, 1, none⟩ = some (.bool r.noMeet) := Kr.out.cell 1
    have vp0 : W0.cell? ⟨w.heap.size + 2, 0, none⟩ = some (.int .i64 p.ship) := Kp.out.cell 0
    have vp1 : W0.cell? ⟨w.heap.size + 2, 1, none⟩ = some (.int .i64 p.segment) := Kp.out.cell 1
    have vp2 : W0.cell? ⟨w.heap.size + 2, 2, none⟩ = some (.bool p.toward) := Kp.out.cell 2
    have vp3 : W0.cell? ⟨w.heap.size + 2, 3, none⟩ = some (.int .i64 p.start) := Kp.out.cell 3
    have vp4 : W0.cell? ⟨w.heap.size + 2, 4, none⟩ = some (.int .i64 p.stop) := Kp.out.cell 4
    have vq0 : W0.cell? ⟨w.heap.size + 3, 0, none⟩ = some (.int .i64 q.ship) := Kq.out.cell 0
    have vq1 : W0.cell? ⟨w.heap.size + 3, 1, none⟩ = some (.int .i64 q.segment) := Kq.out.cell 1
    have vq2 : W0.cell? ⟨w.heap.size + 3, 2, none⟩ = some (.bool q.toward) := Kq.out.cell 2
    have vq3 : W0.cell? ⟨w.heap.size + 3, 3, none⟩ = some (.int .i64 q.start) := Kq.out.cell 3
    have vq4 : W0.cell? ⟨w.heap.size + 3, 4, none⟩ = some (.int .i64 q.stop) := Kq.out.cell 4
    go_wp2_with fail
    rw [← HW0.out]
    clear vd0 vd1 vr0 vr1 vp0 vp1 vp2 vp3 vp4 vq0 vq1 vq2 vq3 vq4
    refine (isIndex_any _ _ _).mono ?_
    rw [Hb3.out]
    rintro e wz ⟨rfl, rfl⟩
    have vd0 : W0.cell? ⟨w.heap.size, 0, none⟩ = some (.slice Ad0 d.points.length cd0) := Kd.out.cell 0
    have vd1 : W0.cell? ⟨w.heap.size, 1, none⟩ = some (.slice Ad1 d.segs.length cd1) := Kd.out.cell 1
    have vr0 : W0.cell? ⟨w.heap.size + 1, 0, none⟩ = some (.int .i64 r.gap) := Kr.out.cell 0
    have vr1 : W0.cell? ⟨w.heap.size + 1, 1, none⟩ = some (.bool r.noMeet) := Kr.out.cell 1
    have vp0 : W0.cell? ⟨w.heap.size + 2, 0, none⟩ = some (.int .i64 p.ship) := Kp.out.cell 0
    have vp1 : W0.cell? ⟨w.heap.size + 2, 1, none⟩ = some (.int .i64 p.segment) := Kp.out.cell 1
    have vp2 : W0.cell? ⟨w.heap.size + 2, 2, none⟩ = some (.bool p.toward) := Kp.out.cell 2
    have vp3 : W0.cell? ⟨w.heap.size + 2, 3, none⟩ = some (.int .i64 p.start) := Kp.out.cell 3
    have vp4 : W0.cell? ⟨w.heap.size + 2, 4, none⟩ = some (.int .i64 p.stop) := Kp.out.cell 4
    have vq0 : W0.cell? ⟨w.heap.size + 3, 0, none⟩ = some (.int .i64 q.ship) := Kq.out.cell 0
    have vq1 : W0.cell? ⟨w.heap.size + 3, 1, none⟩ = some (.int .i64 q.segment) := Kq.out.cell 1
    have vq2 : W0.cell? ⟨w.heap.size + 3, 2, none⟩ = some (.bool q.toward) := Kq.out.cell 2
    have vq3 : W0.cell? ⟨w.heap.size + 3, 3, none⟩ = some (.int .i64 q.start) := Kq.out.cell 3
    have vq4 : W0.cell? ⟨w.heap.size + 3, 4, none⟩ = some (.int .i64 q.stop) := Kq.out.cell 4
    go_wp2
    go_ret
    exact ⟨ret_int E.out.symm, B.out⟩
  | true =>
  obtain ⟨g, hg, hx, i0, il⟩ := segAt_in Hb3.out
  have E0 := Lib.hid ((confI_ok (HP.out.trans (show _ = true by rfl)) hg).trans (confAt_rules _ _ _ _))
  obtain ⟨k, hk⟩ : ∃ k : Nat, p.segment = (k : Int) := ⟨p.segment.toNat, by omega⟩
  have HK := Lib.hid hk
  rw [hk] at hx il
  simp only [Int.toNat_natCast] at hx il
  rcases Rd.out.2.2 with ⟨he, _⟩ | ⟨g', o', c', e, dpos, dcap, dc⟩
  · rw [he] at il; simp at il
  injection e with hA' _ hcp'
  subst hA' hcp'
  obtain ⟨-, -, -, -, q4⟩ := SlSegment.cells dc k g hx
  have Y4 := Lib.hid q4
  clear q4 dc hx i0 hk HP hg
  obtain ⟨t1, ht1⟩ : ∃ b, twiceB p q = b := ⟨_, rfl⟩
  obtain ⟨mm, hmm⟩ : ∃ b, (g.meet && !r.noMeet) = b := ⟨_, rfl⟩
  rw [hmm] at E0
  obtain ⟨t2, ht2⟩ : ∃ b, meetB mm p q = b := ⟨_, rfl⟩
  obtain ⟨t3, ht3⟩ : ∃ b, closeB r.gap p q = b := ⟨_, rfl⟩
  obtain ⟨t4, ht4⟩ : ∃ b, passB' p q = b := ⟨_, rfl⟩
  rw [ht1, ht2, ht3, ht4] at E0
  have T1 := Lib.hid ht1
  have T2 := Lib.hid ht2
  have T3 := Lib.hid ht3
  have T4 := Lib.hid ht4
  have HMM := Lib.hid hmm
  clear ht1 ht2 ht3 ht4 hmm
  go_enter Try.func50, Try.ntmps50
  have vd0 : W0.cell? ⟨w.heap.size, 0, none⟩ = some (.slice Ad0 d.points.length cd0) := Kd.out.cell 0
  have vd1 : W0.cell? ⟨w.heap.size, 1, none⟩ = some (.slice (some ⟨g', o', none⟩) d.segs.length cd1) := Kd.out.cell 1
  have vr0 : W0.cell? ⟨w.heap.size + 1, 0, none⟩ = some (.int .i64 r.gap) := Kr.out.cell 0
  have vr1 : W0.cell? ⟨w.heap.size + 1, 1, none⟩ = some (.bool r.noMeet) := Kr.out.cell 1
  have vp0 : W0.cell? ⟨w.heap.size + 2, 0, none⟩ = some (.int .i64 p.ship) := Kp.out.cell 0
  have vp1 : W0.cell? ⟨w.heap.size + 2, 1, none⟩ = some (.int .i64 p.segment) := Kp.out.cell 1
  have vp2 : W0.cell? ⟨w.heap.size + 2, 2, none⟩ = some (.bool p.toward) := Kp.out.cell 2
  have vp3 : W0.cell? ⟨w.heap.size + 2, 3, none⟩ = some (.int .i64 p.start) := Kp.out.cell 3
  have vp4 : W0.cell? ⟨w.heap.size + 2, 4, none⟩ = some (.int .i64 p.stop) := Kp.out.cell 4
  have vq0 : W0.cell? ⟨w.heap.size + 3, 0, none⟩ = some (.int .i64 q.ship) := Kq.out.cell 0
  have vq1 : W0.cell? ⟨w.heap.size + 3, 1, none⟩ = some (.int .i64 q.segment) := Kq.out.cell 1
  have vq2 : W0.cell? ⟨w.heap.size + 3, 2, none⟩ = some (.bool q.toward) := Kq.out.cell 2
  have vq3 : W0.cell? ⟨w.heap.size + 3, 3, none⟩ = some (.int .i64 q.start) := Kq.out.cell 3
  have vq4 : W0.cell? ⟨w.heap.size + 3, 4, none⟩ = some (.int .i64 q.stop) := Kq.out.cell 4
  go_wp2_with fail
  rw [← HW0.out]
  clear vd0 vd1 vr0 vr1 vp0 vp1 vp2 vp3 vp4 vq0 vq1 vq2 vq3 vq4
  refine (isIndex_any _ _ _).mono ?_
  rw [Hb3.out]
  rintro e wz ⟨rfl, rfl⟩
  have vd0 : W0.cell? ⟨w.heap.size, 0, none⟩ = some (.slice Ad0 d.points.length cd0) := Kd.out.cell 0
  have vd1 : W0.cell? ⟨w.heap.size, 1, none⟩ = some (.slice (some ⟨g', o', none⟩) d.segs.length cd1) := Kd.out.cell 1
  have vr0 : W0.cell? ⟨w.heap.size + 1, 0, none⟩ = some (.int .i64 r.gap) := Kr.out.cell 0
  have vr1 : W0.cell? ⟨w.heap.size + 1, 1, none⟩ = some (.bool r.noMeet) := Kr.out.cell 1
  have vp0 : W0.cell? ⟨w.heap.size + 2, 0, none⟩ = some (.int .i64 p.ship) := Kp.out.cell 0
  have vp1 : W0.cell? ⟨w.heap.size + 2, 1, none⟩ = some (.int .i64 p.segment) := Kp.out.cell 1
  have vp2 : W0.cell? ⟨w.heap.size + 2, 2, none⟩ = some (.bool p.toward) := Kp.out.cell 2
  have vp3 : W0.cell? ⟨w.heap.size + 2, 3, none⟩ = some (.int .i64 p.start) := Kp.out.cell 3
  have vp4 : W0.cell? ⟨w.heap.size + 2, 4, none⟩ = some (.int .i64 p.stop) := Kp.out.cell 4
  have vq0 : W0.cell? ⟨w.heap.size + 3, 0, none⟩ = some (.int .i64 q.ship) := Kq.out.cell 0
  have vq1 : W0.cell? ⟨w.heap.size + 3, 1, none⟩ = some (.int .i64 q.segment) := Kq.out.cell 1
  have vq2 : W0.cell? ⟨w.heap.size + 3, 2, none⟩ = some (.bool q.toward) := Kq.out.cell 2
  have vq3 : W0.cell? ⟨w.heap.size + 3, 3, none⟩ = some (.int .i64 q.start) := Kq.out.cell 3
  have vq4 : W0.cell? ⟨w.heap.size + 3, 4, none⟩ = some (.int .i64 q.stop) := Kq.out.cell 4
  rw [HK.out] at vp1 hsn'
  go_upto_region 3 with fail
  clear vd0 vd1 vr0 vr1 vp0 vp1 vp2 vp3 vp4 vq0 vq1 vq2 vq3 vq4
  go_cut [9] (fun sE wx => sE = .pointer (some ⟨W0.heap.size, 0, none⟩) ∧ Hid (Blk wx W0.heap.size #[.int .i64 p.ship, .int .i64 p.segment, .bool p.toward, .int .i64 p.start, .int .i64 p.stop, .int .i64 q.ship, .int .i64 q.segment, .bool q.toward, .int .i64 q.start, .int .i64 q.stop, .bool mm, .int .i64 r.gap] 106) ∧ Hid (Below w.heap.size w wx))
  case first =>
    obtain ⟨mt, hmt⟩ : ∃ b, g.meet = b := ⟨_, rfl⟩
    obtain ⟨nm, hnm⟩ : ∃ b, r.noMeet = b := ⟨_, rfl⟩
    have HMT := Lib.hid hmt
    have HNM := Lib.hid hnm
    have hmm := HMM.out
    rw [hmt, hnm] at hmm
    clear hmt hnm
    cases mt with
    | false =>
      obtain rfl : mm = false := by rw [← hmm]; rfl
      clear hmm T2 E0
      have F0 := Lib.hid (show W0.cell? ⟨w.heap.size, 0, none⟩ = some (.slice Ad0 d.points.length cd0) from Kd.out.cell 0)
      have v0 := F0.out
      have F1 := Lib.hid (show W0.cell? ⟨w.heap.size, 1, none⟩ = some (.slice (some ⟨g', o', none⟩) d.segs.length cd1) from Kd.out.cell 1)
      have v1 := F1.out
      have F2 := Lib.hid (show W0.cell? ⟨w.heap.size + 1, 0, none⟩ = some (.int .i64 r.gap) from Kr.out.cell 0)
      have v2 := F2.out
      have F3 := Lib.hid (show W0.cell? ⟨w.heap.size + 1, 1, none⟩ = some (.bool r.noMeet) from Kr.out.cell 1)
      have v3 := F3.out
      have F4 := Lib.hid (show W0.cell? ⟨w.heap.size + 2, 0, none⟩ = some (.int .i64 p.ship) from Kp.out.cell 0)
      have v4 := F4.out
      have F5 := Lib.hid (show W0.cell? ⟨w.heap.size + 2, 1, none⟩ = some (.int .i64 (k : Int)) from by rw [← HK.out]; exact Kp.out.cell 1)
      have v5 := F5.out
      have F6 := Lib.hid (show W0.cell? ⟨w.heap.size + 2, 2, none⟩ = some (.bool p.toward) from Kp.out.cell 2)
      have v6 := F6.out
      have F7 := Lib.hid (show W0.cell? ⟨w.heap.size + 2, 3, none⟩ = some (.int .i64 p.start) from Kp.out.cell 3)
      have v7 := F7.out
      have F8 := Lib.hid (show W0.cell? ⟨w.heap.size + 2, 4, none⟩ = some (.int .i64 p.stop) from Kp.out.cell 4)
      have v8 := F8.out
      have F9 := Lib.hid (show W0.cell? ⟨w.heap.size + 3, 0, none⟩ = some (.int .i64 q.ship) from Kq.out.cell 0)
      have v9 := F9.out
      have F10 := Lib.hid (show W0.cell? ⟨w.heap.size + 3, 1, none⟩ = some (.int .i64 q.segment) from Kq.out.cell 1)
      have v10 := F10.out
      have F11 := Lib.hid (show W0.cell? ⟨w.heap.size + 3, 2, none⟩ = some (.bool q.toward) from Kq.out.cell 2)
      have v11 := F11.out
      have F12 := Lib.hid (show W0.cell? ⟨w.heap.size + 3, 3, none⟩ = some (.int .i64 q.start) from Kq.out.cell 3)
      have v12 := F12.out
      have F13 := Lib.hid (show W0.cell? ⟨w.heap.size + 3, 4, none⟩ = some (.int .i64 q.stop) from Kq.out.cell 4)
      have v13 := F13.out
      have F14 := Lib.hid (show W0.cell? ⟨g', o' + k * 5 + 4, none⟩ = some (.bool false) from by rw [← HMT.out]; exact cell_onV Y4.out B.out)
      have v14 := F14.out
      refine wp_region_held_drew (S := (fun w' => w'.cell? ⟨w.heap.size, 0, none⟩ = some (.slice Ad0 d.points.length cd0) ∧ w'.cell? ⟨w.heap.size, 1, none⟩ = some (.slice (some ⟨g', o', none⟩) d.segs.length cd1) ∧ w'.cell? ⟨w.heap.size + 1, 0, none⟩ = some (.int .i64 r.gap) ∧ w'.cell? ⟨w.heap.size + 1, 1, none⟩ = some (.bool r.noMeet) ∧ w'.cell? ⟨w.heap.size + 2, 0, none⟩ = some (.int .i64 p.ship) ∧ w'.cell? ⟨w.heap.size + 2, 1, none⟩ = some (.int .i64 (k : Int)) ∧ w'.cell? ⟨w.heap.size + 2, 2, none⟩ = some (.bool p.toward) ∧ w'.cell? ⟨w.heap.size + 2, 3, none⟩ = some (.int .i64 p.start) ∧ w'.cell? ⟨w.heap.size + 2, 4, none⟩ = some (.int .i64 p.stop) ∧ w'.cell? ⟨w.heap.size + 3, 0, none⟩ = some (.int .i64 q.ship) ∧ w'.cell? ⟨w.heap.size + 3, 1, none⟩ = some (.int .i64 q.segment) ∧ w'.cell? ⟨w.heap.size + 3, 2, none⟩ = some (.bool q.toward) ∧ w'.cell? ⟨w.heap.size + 3, 3, none⟩ = some (.int .i64 q.start) ∧ w'.cell? ⟨w.heap.size + 3, 4, none⟩ = some (.int .i64 q.stop) ∧ w'.cell? ⟨g', o' + k * 5 + 4, none⟩ = some (.bool false))) (by kernel_rfl) ?_ (fun hHeld => ?_)
      · (try dsimp only); go_keep
      refine wpAnyH_take (i := 0) (v := ?_) (by simp only [List.getElem?_toArray, List.getElem?_cons_zero]; rfl) (by kernel_rfl) (by kernel_rfl) (by kernel_rfl) (by exact fun _ _ _ h => h) (Or.inl ⟨by rfl, ?_⟩) (by assumption) ?_; rotate_left; focus (intro w hSw; (try dsimp only at hSw); first | (go_simp; done) | (go_simp; with_reducible rfl))
      (try simp only [Act.put]); (try simp only [List.setIfInBounds_toArray]); (try simp only [List.set_cons_succ]); (try simp only [List.set_cons_zero])
      refine wpAnyH_take (i := 1) (v := ?_) (by simp only [List.getElem?_toArray, List.getElem?_cons_succ, List.getElem?_cons_zero]; rfl) (by kernel_rfl) (by kernel_rfl) (by kernel_rfl) (by exact fun _ _ _ h => h) (Or.inl ⟨by rfl, ?_⟩) (by assumption) ?_; rotate_left; focus (intro w hSw; (try dsimp only at hSw); first | (go_simp; done) | (go_simp; with_reducible rfl))
      (try simp only [Act.put]); (try simp only [List.setIfInBounds_toArray]); (try simp only [List.set_cons_succ]); (try simp only [List.set_cons_zero])
      refine wpAnyH_take (i := 2) (v := ?_) (by simp only [List.getElem?_toArray, List.getElem?_cons_succ, List.getElem?_cons_zero]; rfl) (by kernel_rfl) (by kernel_rfl) (by kernel_rfl) (by exact fun _ _ _ h => h) (Or.inl ⟨by rfl, ?_⟩) (by assumption) ?_; rotate_left; focus (intro w hSw; (try dsimp only at hSw); first | (go_simp; done) | (go_simp; with_reducible rfl))
      (try simp only [Act.put]); (try simp only [List.setIfInBounds_toArray]); (try simp only [List.set_cons_succ]); (try simp only [List.set_cons_zero])
      refine wpAnyH_take (i := 3) (v := ?_) (by simp only [List.getElem?_toArray, List.getElem?_cons_succ, List.getElem?_cons_zero]; rfl) (by kernel_rfl) (by kernel_rfl) (by kernel_rfl) (by exact fun _ _ _ h => h) (Or.inl ⟨by rfl, ?_⟩) (by assumption) ?_; rotate_left; focus (intro w hSw; (try dsimp only at hSw); first | (go_simp; done) | (go_simp; with_reducible rfl))
      (try simp only [Act.put]); (try simp only [List.setIfInBounds_toArray]); (try simp only [List.set_cons_succ]); (try simp only [List.set_cons_zero])
      refine wpAnyH_take (i := 4) (v := ?_) (by simp only [List.getElem?_toArray, List.getElem?_cons_succ, List.getElem?_cons_zero]; rfl) (by kernel_rfl) (by kernel_rfl) (by kernel_rfl) (by exact fun _ _ _ h => h) (Or.inl ⟨by rfl, ?_⟩) (by assumption) ?_; rotate_left; focus (intro w hSw; (try dsimp only at hSw); first | (go_simp; done) | (go_simp; with_reducible rfl))
      (try simp only [Act.put]); (try simp only [List.setIfInBounds_toArray]); (try simp only [List.set_cons_succ]); (try simp only [List.set_cons_zero])
      refine wpAnyH_take (i := 5) (v := ?_) (by simp only [List.getElem?_toArray, List.getElem?_cons_succ, List.getElem?_cons_zero]; rfl) (by kernel_rfl) (by kernel_rfl) (by kernel_rfl) (by exact fun _ _ _ h => h) (Or.inl ⟨by rfl, ?_⟩) (by assumption) ?_; rotate_left; focus (intro w hSw; (try dsimp only at hSw); first | (go_simp; done) | (go_simp; with_reducible rfl))
      (try simp only [Act.put]); (try simp only [List.setIfInBounds_toArray]); (try simp only [List.set_cons_succ]); (try simp only [List.set_cons_zero])
      refine wpAnyH_take (i := 6) (v := ?_) (by simp only [List.getElem?_toArray, List.getElem?_cons_succ, List.getElem?_cons_zero]; rfl) (by kernel_rfl) (by kernel_rfl) (by kernel_rfl) (by exact fun _ _ _ h => h) (Or.inl ⟨by rfl, ?_⟩) (by assumption) ?_; rotate_left; focus (intro w hSw; (try dsimp only at hSw); first | (go_simp; done) | (go_simp; with_reducible rfl))
      (try simp only [Act.put]); (try simp only [List.setIfInBounds_toArray]); (try simp only [List.set_cons_succ]); (try simp only [List.set_cons_zero])
      refine wpAnyH_take (i := 7) (v := ?_) (by simp only [List.getElem?_toArray, List.getElem?_cons_succ, List.getElem?_cons_zero]; rfl) (by kernel_rfl) (by kernel_rfl) (by kernel_rfl) (by exact fun _ _ _ h => h) (Or.inl ⟨by rfl, ?_⟩) (by assumption) ?_; rotate_left; focus (intro w hSw; (try dsimp only at hSw); first | (go_simp; done) | (go_simp; with_reducible rfl))
      (try simp only [Act.put]); (try simp only [List.setIfInBounds_toArray]); (try simp only [List.set_cons_succ]); (try simp only [List.set_cons_zero])
      refine wpAnyH_take (i := 8) (v := ?_) (by simp only [List.getElem?_toArray, List.getElem?_cons_succ, List.getElem?_cons_zero]; rfl) (by kernel_rfl) (by kernel_rfl) (by kernel_rfl) (by exact fun _ _ _ h => h) (Or.inl ⟨by rfl, ?_⟩) (by assumption) ?_; rotate_left; focus (intro w hSw; (try dsimp only at hSw); first | (go_simp; done) | (go_simp; with_reducible rfl))
      (try simp only [Act.put]); (try simp only [List.setIfInBounds_toArray]); (try simp only [List.set_cons_succ]); (try simp only [List.set_cons_zero])
      refine wpAnyH_take (i := 9) (v := ?_) (by simp only [List.getElem?_toArray, List.getElem?_cons_succ, List.getElem?_cons_zero]; rfl) (by kernel_rfl) (by kernel_rfl) (by kernel_rfl) (by exact fun _ _ _ h => h) (Or.inl ⟨by rfl, ?_⟩) (by assumption) ?_; rotate_left; focus (intro w hSw; (try dsimp only at hSw); first | (go_simp; done) | (go_simp; with_reducible rfl))
      (try simp only [Act.put]); (try simp only [List.setIfInBounds_toArray]); (try simp only [List.set_cons_succ]); (try simp only [List.set_cons_zero])
      refine wpAnyH_take (i := 10) (v := undef) (by simp only [List.getElem?_toArray, List.getElem?_cons_succ, List.getElem?_cons_zero]; rfl) (by kernel_rfl) (by kernel_rfl) (by kernel_rfl) (by exact fun _ _ _ h => h) (Or.inr ⟨by rfl, rfl⟩) (by assumption) ?_
      (try simp only [Act.put]); (try simp only [List.setIfInBounds_toArray]); (try simp only [List.set_cons_succ]); (try simp only [List.set_cons_zero])
      refine wpAnyH_take (i := 11) (v := undef) (by simp only [List.getElem?_toArray, List.getElem?_cons_succ, List.getElem?_cons_zero]; rfl) (by kernel_rfl) (by kernel_rfl) (by kernel_rfl) (by exact fun _ _ _ h => h) (Or.inr ⟨by rfl, rfl⟩) (by assumption) ?_
      (try simp only [Act.put]); (try simp only [List.setIfInBounds_toArray]); (try simp only [List.set_cons_succ]); (try simp only [List.set_cons_zero])
      refine wpAnyH_take (i := 12) (v := undef) (by simp only [List.getElem?_toArray, List.getElem?_cons_succ, List.getElem?_cons_zero]; rfl) (by kernel_rfl) (by kernel_rfl) (by kernel_rfl) (by exact fun _ _ _ h => h) (Or.inr ⟨by rfl, rfl⟩) (by assumption) ?_
      (try simp only [Act.put]); (try simp only [List.setIfInBounds_toArray]); (try simp only [List.set_cons_succ]); (try simp only [List.set_cons_zero])
      refine wpAnyH_take (i := 13) (v := ?_) (by simp only [List.getElem?_toArray, List.getElem?_cons_succ, List.getElem?_cons_zero]; rfl) (by kernel_rfl) (by kernel_rfl) (by kernel_rfl) (by exact fun _ _ _ h => h) (Or.inl ⟨by rfl, ?_⟩) (by assumption) ?_; rotate_left; focus (intro w hSw; (try dsimp only at hSw); first | (go_simp; done) | (go_simp; with_reducible rfl))
      (try simp only [Act.put]); (try simp only [List.setIfInBounds_toArray]); (try simp only [List.set_cons_succ]); (try simp only [List.set_cons_zero])
      refine wpAnyH_take (i := 14) (v := ?_) (by simp only [List.getElem?_toArray, List.getElem?_cons_succ, List.getElem?_cons_zero]; rfl) (by kernel_rfl) (by kernel_rfl) (by kernel_rfl) (by exact fun _ _ _ h => h) (Or.inl ⟨by rfl, ?_⟩) (by assumption) ?_; rotate_left; focus (intro w hSw; (try dsimp only at hSw); first | (go_simp; done) | (go_simp; with_reducible rfl))
      (try simp only [Act.put]); (try simp only [List.setIfInBounds_toArray]); (try simp only [List.set_cons_succ]); (try simp only [List.set_cons_zero])
      refine wpAnyH_take (i := 15) (v := ?_) (by simp only [List.getElem?_toArray, List.getElem?_cons_succ, List.getElem?_cons_zero]; rfl) (by kernel_rfl) (by kernel_rfl) (by kernel_rfl) (by exact fun _ _ _ h => h) (Or.inl ⟨by rfl, ?_⟩) (by assumption) ?_; rotate_left; focus (intro w hSw; (try dsimp only at hSw); first | (go_simp; done) | (go_simp; with_reducible rfl))
      (try simp only [Act.put]); (try simp only [List.setIfInBounds_toArray]); (try simp only [List.set_cons_succ]); (try simp only [List.set_cons_zero])
      refine wpAnyH_take (i := 16) (v := ?_) (by simp only [List.getElem?_toArray, List.getElem?_cons_succ, List.getElem?_cons_zero]; rfl) (by kernel_rfl) (by kernel_rfl) (by kernel_rfl) (by exact fun _ _ _ h => h) (Or.inl ⟨by rfl, ?_⟩) (by assumption) ?_; rotate_left; focus (intro w hSw; (try dsimp only at hSw); first | (go_simp; done) | (go_simp; with_reducible rfl))
      (try simp only [Act.put]); (try simp only [List.setIfInBounds_toArray]); (try simp only [List.set_cons_succ]); (try simp only [List.set_cons_zero])
      refine wpAnyH_ready (rs := [17]) (by kernel_rfl) (by simp) ?_
      refine AllReadyH.cons rfl (fun K hK => ?_) AllReadyH.nil
      rw [if_pos (by rfl)]
      go_simp
      have BX := (Joins.below_alloc1 W0 (.cells #[.int .i64 0, .int .i64 0, .bool false, .int .i64 0, .int .i64 0, .int .i64 0, .int .i64 0, .bool false, .int .i64 0, .int .i64 0, .bool false, .int .i64 0] 106)).drew
      have QS := Lib.hid (show (W0.alloc (.cells #[.int .i64 0, .int .i64 0, .bool false, .int .i64 0, .int .i64 0, .int .i64 0, .int .i64 0, .bool false, .int .i64 0, .int .i64 0, .bool false, .int .i64 0] 106)).drew.cell? ⟨w.heap.size, 0, none⟩ = some (.slice Ad0 d.points.length cd0) ∧ (W0.alloc (.cells #[.int .i64 0, .int .i64 0, .bool false, .int .i64 0, .int .i64 0, .int .i64 0, .int .i64 0, .bool false, .int .i64 0, .int .i64 0, .bool false, .int .i64 0] 106)).drew.cell? ⟨w.heap.size, 1, none⟩ = some (.slice (some ⟨g', o', none⟩) d.segs.length cd1) ∧ (W0.alloc (.cells #[.int .i64 0, .int .i64 0, .bool false, .int .i64 0, .int .i64 0, .int .i64 0, .int .i64 0, .bool false, .int .i64 0, .int .i64 0, .bool false, .int .i64 0] 106)).drew.cell? ⟨w.heap.size + 1, 0, none⟩ = some (.int .i64 r.gap) ∧ (W0.alloc (.cells #[.int .i64 0, .int .i64 0, .bool false, .int .i64 0, .int .i64 0, .int .i64 0, .int .i64 0, .bool false, .int .i64 0, .int .i64 0, .bool false, .int .i64 0] 106)).drew.cell? ⟨w.heap.size + 1, 1, none⟩ = some (.bool r.noMeet) ∧ (W0.alloc (.cells #[.int .i64 0, .int .i64 0, .bool false, .int .i64 0, .int .i64 0, .int .i64 0, .int .i64 0, .bool false, .int .i64 0, .int .i64 0, .bool false, .int .i64 0] 106)).drew.cell? ⟨w.heap.size + 2, 0, none⟩ = some (.int .i64 p.ship) ∧ (W0.alloc (.cells #[.int .i64 0, .int .i64 0, .bool false, .int .i64 0, .int .i64 0, .int .i64 0, .int .i64 0, .bool false, .int .i64 0, .int .i64 0, .bool false, .int .i64 0] 106)).drew.cell? ⟨w.heap.size + 2, 1, none⟩ = some (.int .i64 (k : Int)) ∧ (W0.alloc (.cells #[.int .i64 0, .int .i64 0, .bool false, .int .i64 0, .int .i64 0, .int .i64 0, .int .i64 0, .bool false, .int .i64 0, .int .i64 0, .bool false, .int .i64 0] 106)).drew.cell? ⟨w.heap.size + 2, 2, none⟩ = some (.bool p.toward) ∧ (W0.alloc (.cells #[.int .i64 0, .int .i64 0, .bool false, .int .i64 0, .int .i64 0, .int .i64 0, .int .i64 0, .bool false, .int .i64 0, .int .i64 0, .bool false, .int .i64 0] 106)).drew.cell? ⟨w.heap.size + 2, 3, none⟩ = some (.int .i64 p.start) ∧ (W0.alloc (.cells #[.int .i64 0, .int .i64 0, .bool false, .int .i64 0, .int .i64 0, .int .i64 0, .int .i64 0, .bool false, .int .i64 0, .int .i64 0, .bool false, .int .i64 0] 106)).drew.cell? ⟨w.heap.size + 2, 4, none⟩ = some (.int .i64 p.stop) ∧ (W0.alloc (.cells #[.int .i64 0, .int .i64 0, .bool false, .int .i64 0, .int .i64 0, .int .i64 0, .int .i64 0, .bool false, .int .i64 0, .int .i64 0, .bool false, .int .i64 0] 106)).drew.cell? ⟨w.heap.size + 3, 0, none⟩ = some (.int .i64 q.ship) ∧ (W0.alloc (.cells #[.int .i64 0, .int .i64 0, .bool false, .int .i64 0, .int .i64 0, .int .i64 0, .int .i64 0, .bool false, .int .i64 0, .int .i64 0, .bool false, .int .i64 0] 106)).drew.cell? ⟨w.heap.size + 3, 1, none⟩ = some (.int .i64 q.segment) ∧ (W0.alloc (.cells #[.int .i64 0, .int .i64 0, .bool false, .int .i64 0, .int .i64 0, .int .i64 0, .int .i64 0, .bool false, .int .i64 0, .int .i64 0, .bool false, .int .i64 0] 106)).drew.cell? ⟨w.heap.size + 3, 2, none⟩ = some (.bool q.toward) ∧ (W0.alloc (.cells #[.int .i64 0, .int .i64 0, .bool false, .int .i64 0, .int .i64 0, .int .i64 0, .int .i64 0, .bool false, .int .i64 0, .int .i64 0, .bool false, .int .i64 0] 106)).drew.cell? ⟨w.heap.size + 3, 3, none⟩ = some (.int .i64 q.start) ∧ (W0.alloc (.cells #[.int .i64 0, .int .i64 0, .bool false, .int .i64 0, .int .i64 0, .int .i64 0, .int .i64 0, .bool false, .int .i64 0, .int .i64 0, .bool false, .int .i64 0] 106)).drew.cell? ⟨w.heap.size + 3, 4, none⟩ = some (.int .i64 q.stop) ∧ (W0.alloc (.cells #[.int .i64 0, .int .i64 0, .bool false, .int .i64 0, .int .i64 0, .int .i64 0, .int .i64 0, .bool false, .int .i64 0, .int .i64 0, .bool false, .int .i64 0] 106)).drew.cell? ⟨g', o' + k * 5 + 4, none⟩ = some (.bool false) from ⟨cell_onV F0.out BX, cell_onV F1.out BX, cell_onV F2.out BX, cell_onV F3.out BX, cell_onV F4.out BX, cell_onV F5.out BX, cell_onV F6.out BX, cell_onV F7.out BX, cell_onV F8.out BX, cell_onV F9.out BX, cell_onV F10.out BX, cell_onV F11.out BX, cell_onV F12.out BX, cell_onV F13.out BX, cell_onV F14.out BX⟩)
      refine hK.out _ _ ?_ (fun hHeld => ?_)
      · (try dsimp only); exact QS.out
      clear hK K BX QS
      (try simp only [Act.put]); (try simp only [List.setIfInBounds_toArray]); (try simp only [List.set_cons_succ]); (try simp only [List.set_cons_zero])
      refine wpAnyH_ready (rs := [18]) (by kernel_rfl) (by simp) ?_
      refine AllReadyH.cons rfl (fun K hK => ?_) AllReadyH.nil
      rw [if_pos (by rfl)]
      go_simp
      have BX := (Joins.below_alloc1 W0 (.cells #[.int .i64 p.ship, .int .i64 (k : Int), .bool p.toward, .int .i64 p.start, .int .i64 p.stop, .int .i64 q.ship, .int .i64 q.segment, .bool q.toward, .int .i64 q.start, .int .i64 q.stop, .bool false, .int .i64 r.gap] 106)).drew
      have QS := Lib.hid (show (W0.alloc (.cells #[.int .i64 p.ship, .int .i64 (k : Int), .bool p.toward, .int .i64 p.start, .int .i64 p.stop, .int .i64 q.ship, .int .i64 q.segment, .bool q.toward, .int .i64 q.start, .int .i64 q.stop, .bool false, .int .i64 r.gap] 106)).drew.cell? ⟨w.heap.size, 0, none⟩ = some (.slice Ad0 d.points.length cd0) ∧ (W0.alloc (.cells #[.int .i64 p.ship, .int .i64 (k : Int), .bool p.toward, .int .i64 p.start, .int .i64 p.stop, .int .i64 q.ship, .int .i64 q.segment, .bool q.toward, .int .i64 q.start, .int .i64 q.stop, .bool false, .int .i64 r.gap] 106)).drew.cell? ⟨w.heap.size, 1, none⟩ = some (.slice (some ⟨g', o', none⟩) d.segs.length cd1) ∧ (W0.alloc (.cells #[.int .i64 p.ship, .int .i64 (k : Int), .bool p.toward, .int .i64 p.start, .int .i64 p.stop, .int .i64 q.ship, .int .i64 q.segment, .bool q.toward, .int .i64 q.start, .int .i64 q.stop, .bool false, .int .i64 r.gap] 106)).drew.cell? ⟨w.heap.size + 1, 0, none⟩ = some (.int .i64 r.gap) ∧ (W0.alloc (.cells #[.int .i64 p.ship, .int .i64 (k : Int), .bool p.toward, .int .i64 p.start, .int .i64 p.stop, .int .i64 q.ship, .int .i64 q.segment, .bool q.toward, .int .i64 q.start, .int .i64 q.stop, .bool false, .int .i64 r.gap] 106)).drew.cell? ⟨w.heap.size + 1, 1, none⟩ = some (.bool r.noMeet) ∧ (W0.alloc (.cells #[.int .i64 p.ship, .int .i64 (k : Int), .bool p.toward, .int .i64 p.start, .int .i64 p.stop, .int .i64 q.ship, .int .i64 q.segment, .bool q.toward, .int .i64 q.start, .int .i64 q.stop, .bool false, .int .i64 r.gap] 106)).drew.cell? ⟨w.heap.size + 2, 0, none⟩ = some (.int .i64 p.ship) ∧ (W0.alloc (.cells #[.int .i64 p.ship, .int .i64 (k : Int), .bool p.toward, .int .i64 p.start, .int .i64 p.stop, .int .i64 q.ship, .int .i64 q.segment, .bool q.toward, .int .i64 q.start, .int .i64 q.stop, .bool false, .int .i64 r.gap] 106)).drew.cell? ⟨w.heap.size + 2, 1, none⟩ = some (.int .i64 (k : Int)) ∧ (W0.alloc (.cells #[.int .i64 p.ship, .int .i64 (k : Int), .bool p.toward, .int .i64 p.start, .int .i64 p.stop, .int .i64 q.ship, .int .i64 q.segment, .bool q.toward, .int .i64 q.start, .int .i64 q.stop, .bool false, .int .i64 r.gap] 106)).drew.cell? ⟨w.heap.size + 2, 2, none⟩ = some (.bool p.toward) ∧ (W0.alloc (.cells #[.int .i64 p.ship, .int .i64 (k : Int), .bool p.toward, .int .i64 p.start, .int .i64 p.stop, .int .i64 q.ship, .int .i64 q.segment, .bool q.toward, .int .i64 q.start, .int .i64 q.stop, .bool false, .int .i64 r.gap] 106)).drew.cell? ⟨w.heap.size + 2, 3, none⟩ = some (.int .i64 p.start) ∧ (W0.alloc (.cells #[.int .i64 p.ship, .int .i64 (k : Int), .bool p.toward, .int .i64 p.start, .int .i64 p.stop, .int .i64 q.ship, .int .i64 q.segment, .bool q.toward, .int .i64 q.start, .int .i64 q.stop, .bool false, .int .i64 r.gap] 106)).drew.cell? ⟨w.heap.size + 2, 4, none⟩ = some (.int .i64 p.stop) ∧ (W0.alloc (.cells #[.int .i64 p.ship, .int .i64 (k : Int), .bool p.toward, .int .i64 p.start, .int .i64 p.stop, .int .i64 q.ship, .int .i64 q.segment, .bool q.toward, .int .i64 q.start, .int .i64 q.stop, .bool false, .int .i64 r.gap] 106)).drew.cell? ⟨w.heap.size + 3, 0, none⟩ = some (.int .i64 q.ship) ∧ (W0.alloc (.cells #[.int .i64 p.ship, .int .i64 (k : Int), .bool p.toward, .int .i64 p.start, .int .i64 p.stop, .int .i64 q.ship, .int .i64 q.segment, .bool q.toward, .int .i64 q.start, .int .i64 q.stop, .bool false, .int .i64 r.gap] 106)).drew.cell? ⟨w.heap.size + 3, 1, none⟩ = some (.int .i64 q.segment) ∧ (W0.alloc (.cells #[.int .i64 p.ship, .int .i64 (k : Int), .bool p.toward, .int .i64 p.start, .int .i64 p.stop, .int .i64 q.ship, .int .i64 q.segment, .bool q.toward, .int .i64 q.start, .int .i64 q.stop, .bool false, .int .i64 r.gap] 106)).drew.cell? ⟨w.heap.size + 3, 2, none⟩ = some (.bool q.toward) ∧ (W0.alloc (.cells #[.int .i64 p.ship, .int .i64 (k : Int), .bool p.toward, .int .i64 p.start, .int .i64 p.stop, .int .i64 q.ship, .int .i64 q.segment, .bool q.toward, .int .i64 q.start, .int .i64 q.stop, .bool false, .int .i64 r.gap] 106)).drew.cell? ⟨w.heap.size + 3, 3, none⟩ = some (.int .i64 q.start) ∧ (W0.alloc (.cells #[.int .i64 p.ship, .int .i64 (k : Int), .bool p.toward, .int .i64 p.start, .int .i64 p.stop, .int .i64 q.ship, .int .i64 q.segment, .bool q.toward, .int .i64 q.start, .int .i64 q.stop, .bool false, .int .i64 r.gap] 106)).drew.cell? ⟨w.heap.size + 3, 4, none⟩ = some (.int .i64 q.stop) ∧ (W0.alloc (.cells #[.int .i64 p.ship, .int .i64 (k : Int), .bool p.toward, .int .i64 p.start, .int .i64 p.stop, .int .i64 q.ship, .int .i64 q.segment, .bool q.toward, .int .i64 q.start, .int .i64 q.stop, .bool false, .int .i64 r.gap] 106)).drew.cell? ⟨g', o' + k * 5 + 4, none⟩ = some (.bool false) from ⟨cell_onV F0.out BX, cell_onV F1.out BX, cell_onV F2.out BX, cell_onV F3.out BX, cell_onV F4.out BX, cell_onV F5.out BX, cell_onV F6.out BX, cell_onV F7.out BX, cell_onV F8.out BX, cell_onV F9.out BX, cell_onV F10.out BX, cell_onV F11.out BX, cell_onV F12.out BX, cell_onV F13.out BX, cell_onV F14.out BX⟩)
      have KE := Lib.hid (show Blk (W0.alloc (.cells #[.int .i64 p.ship, .int .i64 (k : Int), .bool p.toward, .int .i64 p.start, .int .i64 p.stop, .int .i64 q.ship, .int .i64 q.segment, .bool q.toward, .int .i64 q.start, .int .i64 q.stop, .bool false, .int .i64 r.gap] 106)).drew W0.heap.size #[.int .i64 p.ship, .int .i64 p.segment, .bool p.toward, .int .i64 p.start, .int .i64 p.stop, .int .i64 q.ship, .int .i64 q.segment, .bool q.toward, .int .i64 q.start, .int .i64 q.stop, .bool false, .int .i64 r.gap] 106 from (by rw [HK.out]; exact (Blk.new W0 #[.int .i64 p.ship, .int .i64 (k : Int), .bool p.toward, .int .i64 p.start, .int .i64 p.stop, .int .i64 q.ship, .int .i64 q.segment, .bool q.toward, .int .i64 q.start, .int .i64 q.stop, .bool false, .int .i64 r.gap] 106).below (Below.refl _ (W0.alloc (.cells #[.int .i64 p.ship, .int .i64 (k : Int), .bool p.toward, .int .i64 p.start, .int .i64 p.stop, .int .i64 q.ship, .int .i64 q.segment, .bool q.toward, .int .i64 q.start, .int .i64 q.stop, .bool false, .int .i64 r.gap] 106))).drew))
      have BW := Lib.hid (B.out.trans (BX.mono B.out.size))
      refine hK.out _ _ ?_ (fun hHeld => ?_)
      · (try dsimp only); exact QS.out
      clear hK K BX QS
      (try simp only [Act.put]); (try simp only [List.setIfInBounds_toArray]); (try simp only [List.set_cons_succ]); (try simp only [List.set_cons_zero])
      refine wpAnyH_done (by kernel_rfl) ?_ _
      go_wp2_with fail
      go_meet
      exact ⟨rfl, KE, BW⟩
    | true =>
      cases nm with
      | true =>
        obtain rfl : mm = false := by rw [← hmm]; rfl
        clear hmm T2 E0
        have F0 := Lib.hid (show W0.cell? ⟨w.heap.size, 0, none⟩ = some (.slice Ad0 d.points.length cd0) from Kd.out.cell 0)
        have v0 := F0.out
        have F1 := Lib.hid (show W0.cell? ⟨w.heap.size, 1, none⟩ = some (.slice (some ⟨g', o', none⟩) d.segs.length cd1) from Kd.out.cell 1)
        have v1 := F1.out
        have F2 := Lib.hid (show W0.cell? ⟨w.heap.size + 1, 0, none⟩ = some (.int .i64 r.gap) from Kr.out.cell 0)
        have v2 := F2.out
        have F3 := Lib.hid (show W0.cell? ⟨w.heap.size + 1, 1, none⟩ = some (.bool true) from by rw [← HNM.out]; exact Kr.out.cell 1)
        have v3 := F3.out
        have F4 := Lib.hid (show W0.cell? ⟨w.heap.size + 2, 0, none⟩ = some (.int .i64 p.ship) from Kp.out.cell 0)
        have v4 := F4.out
        have F5 := Lib.hid (show W0.cell? ⟨w.heap.size + 2, 1, none⟩ = some (.int .i64 (k : Int)) from by rw [← HK.out]; exact Kp.out.cell 1)
        have v5 := F5.out
        have F6 := Lib.hid (show W0.cell? ⟨w.heap.size + 2, 2, none⟩ = some (.bool p.toward) from Kp.out.cell 2)
        have v6 := F6.out
        have F7 := Lib.hid (show W0.cell? ⟨w.heap.size + 2, 3, none⟩ = some (.int .i64 p.start) from Kp.out.cell 3)
        have v7 := F7.out
        have F8 := Lib.hid (show W0.cell? ⟨w.heap.size + 2, 4, none⟩ = some (.int .i64 p.stop) from Kp.out.cell 4)
        have v8 := F8.out
        have F9 := Lib.hid (show W0.cell? ⟨w.heap.size + 3, 0, none⟩ = some (.int .i64 q.ship) from Kq.out.cell 0)
        have v9 := F9.out
        have F10 := Lib.hid (show W0.cell? ⟨w.heap.size + 3, 1, none⟩ = some (.int .i64 q.segment) from Kq.out.cell 1)
        have v10 := F10.out
        have F11 := Lib.hid (show W0.cell? ⟨w.heap.size + 3, 2, none⟩ = some (.bool q.toward) from Kq.out.cell 2)
        have v11 := F11.out
        have F12 := Lib.hid (show W0.cell? ⟨w.heap.size + 3, 3, none⟩ = some (.int .i64 q.start) from Kq.out.cell 3)
        have v12 := F12.out
        have F13 := Lib.hid (show W0.cell? ⟨w.heap.size + 3, 4, none⟩ = some (.int .i64 q.stop) from Kq.out.cell 4)
        have v13 := F13.out
        have F14 := Lib.hid (show W0.cell? ⟨g', o' + k * 5 + 4, none⟩ = some (.bool true) from by rw [← HMT.out]; exact cell_onV Y4.out B.out)
        have v14 := F14.out
        refine wp_region_held_drew (S := (fun w' => w'.cell? ⟨w.heap.size, 0, none⟩ = some (.slice Ad0 d.points.length cd0) ∧ w'.cell? ⟨w.heap.size, 1, none⟩ = some (.slice (some ⟨g', o', none⟩) d.segs.length cd1) ∧ w'.cell? ⟨w.heap.size + 1, 0, none⟩ = some (.int .i64 r.gap) ∧ w'.cell? ⟨w.heap.size + 1, 1, none⟩ = some (.bool true) ∧ w'.cell? ⟨w.heap.size + 2, 0, none⟩ = some (.int .i64 p.ship) ∧ w'.cell? ⟨w.heap.size + 2, 1, none⟩ = some (.int .i64 (k : Int)) ∧ w'.cell? ⟨w.heap.size + 2, 2, none⟩ = some (.bool p.toward) ∧ w'.cell? ⟨w.heap.size + 2, 3, none⟩ = some (.int .i64 p.start) ∧ w'.cell? ⟨w.heap.size + 2, 4, none⟩ = some (.int .i64 p.stop) ∧ w'.cell? ⟨w.heap.size + 3, 0, none⟩ = some (.int .i64 q.ship) ∧ w'.cell? ⟨w.heap.size + 3, 1, none⟩ = some (.int .i64 q.segment) ∧ w'.cell? ⟨w.heap.size + 3, 2, none⟩ = some (.bool q.toward) ∧ w'.cell? ⟨w.heap.size + 3, 3, none⟩ = some (.int .i64 q.start) ∧ w'.cell? ⟨w.heap.size + 3, 4, none⟩ = some (.int .i64 q.stop) ∧ w'.cell? ⟨g', o' + k * 5 + 4, none⟩ = some (.bool true))) (by kernel_rfl) ?_ (fun hHeld => ?_)
        · (try dsimp only); go_keep
        refine wpAnyH_take (i := 0) (v := ?_) (by simp only [List.getElem?_toArray, List.getElem?_cons_zero]; rfl) (by kernel_rfl) (by kernel_rfl) (by kernel_rfl) (by exact fun _ _ _ h => h) (Or.inl ⟨by rfl, ?_⟩) (by assumption) ?_; rotate_left; focus (intro w hSw; (try dsimp only at hSw); first | (go_simp; done) | (go_simp; with_reducible rfl))
        (try simp only [Act.put]); (try simp only [List.setIfInBounds_toArray]); (try simp only [List.set_cons_succ]); (try simp only [List.set_cons_zero])
        refine wpAnyH_take (i := 1) (v := ?_) (by simp only [List.getElem?_toArray, List.getElem?_cons_succ, List.getElem?_cons_zero]; rfl) (by kernel_rfl) (by kernel_rfl) (by kernel_rfl) (by exact fun _ _ _ h => h) (Or.inl ⟨by rfl, ?_⟩) (by assumption) ?_; rotate_left; focus (intro w hSw; (try dsimp only at hSw); first | (go_simp; done) | (go_simp; with_reducible rfl))
        (try simp only [Act.put]); (try simp only [List.setIfInBounds_toArray]); (try simp only [List.set_cons_succ]); (try simp only [List.set_cons_zero])
        refine wpAnyH_take (i := 2) (v := ?_) (by simp only [List.getElem?_toArray, List.getElem?_cons_succ, List.getElem?_cons_zero]; rfl) (by kernel_rfl) (by kernel_rfl) (by kernel_rfl) (by exact fun _ _ _ h => h) (Or.inl ⟨by rfl, ?_⟩) (by assumption) ?_; rotate_left; focus (intro w hSw; (try dsimp only at hSw); first | (go_simp; done) | (go_simp; with_reducible rfl))
        (try simp only [Act.put]); (try simp only [List.setIfInBounds_toArray]); (try simp only [List.set_cons_succ]); (try simp only [List.set_cons_zero])
        refine wpAnyH_take (i := 3) (v := ?_) (by simp only [List.getElem?_toArray, List.getElem?_cons_succ, List.getElem?_cons_zero]; rfl) (by kernel_rfl) (by kernel_rfl) (by kernel_rfl) (by exact fun _ _ _ h => h) (Or.inl ⟨by rfl, ?_⟩) (by assumption) ?_; rotate_left; focus (intro w hSw; (try dsimp only at hSw); first | (go_simp; done) | (go_simp; with_reducible rfl))
        (try simp only [Act.put]); (try simp only [List.setIfInBounds_toArray]); (try simp only [List.set_cons_succ]); (try simp only [List.set_cons_zero])
        refine wpAnyH_take (i := 4) (v := ?_) (by simp only [List.getElem?_toArray, List.getElem?_cons_succ, List.getElem?_cons_zero]; rfl) (by kernel_rfl) (by kernel_rfl) (by kernel_rfl) (by exact fun _ _ _ h => h) (Or.inl ⟨by rfl, ?_⟩) (by assumption) ?_; rotate_left; focus (intro w hSw; (try dsimp only at hSw); first | (go_simp; done) | (go_simp; with_reducible rfl))
        (try simp only [Act.put]); (try simp only [List.setIfInBounds_toArray]); (try simp only [List.set_cons_succ]); (try simp only [List.set_cons_zero])
        refine wpAnyH_take (i := 5) (v := ?_) (by simp only [List.getElem?_toArray, List.getElem?_cons_succ, List.getElem?_cons_zero]; rfl) (by kernel_rfl) (by kernel_rfl) (by kernel_rfl) (by exact fun _ _ _ h => h) (Or.inl ⟨by rfl, ?_⟩) (by assumption) ?_; rotate_left; focus (intro w hSw; (try dsimp only at hSw); first | (go_simp; done) | (go_simp; with_reducible rfl))
        (try simp only [Act.put]); (try simp only [List.setIfInBounds_toArray]); (try simp only [List.set_cons_succ]); (try simp only [List.set_cons_zero])
        refine wpAnyH_take (i := 6) (v := ?_) (by simp only [List.getElem?_toArray, List.getElem?_cons_succ, List.getElem?_cons_zero]; rfl) (by kernel_rfl) (by kernel_rfl) (by kernel_rfl) (by exact fun _ _ _ h => h) (Or.inl ⟨by rfl, ?_⟩) (by assumption) ?_; rotate_left; focus (intro w hSw; (try dsimp only at hSw); first | (go_simp; done) | (go_simp; with_reducible rfl))
        (try simp only [Act.put]); (try simp only [List.setIfInBounds_toArray]); (try simp only [List.set_cons_succ]); (try simp only [List.set_cons_zero])
        refine wpAnyH_take (i := 7) (v := ?_) (by simp only [List.getElem?_toArray, List.getElem?_cons_succ, List.getElem?_cons_zero]; rfl) (by kernel_rfl) (by kernel_rfl) (by kernel_rfl) (by exact fun _ _ _ h => h) (Or.inl ⟨by rfl, ?_⟩) (by assumption) ?_; rotate_left; focus (intro w hSw; (try dsimp only at hSw); first | (go_simp; done) | (go_simp; with_reducible rfl))
        (try simp only [Act.put]); (try simp only [List.setIfInBounds_toArray]); (try simp only [List.set_cons_succ]); (try simp only [List.set_cons_zero])
        refine wpAnyH_take (i := 8) (v := ?_) (by simp only [List.getElem?_toArray, List.getElem?_cons_succ, List.getElem?_cons_zero]; rfl) (by kernel_rfl) (by kernel_rfl) (by kernel_rfl) (by exact fun _ _ _ h => h) (Or.inl ⟨by rfl, ?_⟩) (by assumption) ?_; rotate_left; focus (intro w hSw; (try dsimp only at hSw); first | (go_simp; done) | (go_simp; with_reducible rfl))
        (try simp only [Act.put]); (try simp only [List.setIfInBounds_toArray]); (try simp only [List.set_cons_succ]); (try simp only [List.set_cons_zero])
        refine wpAnyH_take (i := 9) (v := ?_) (by simp only [List.getElem?_toArray, List.getElem?_cons_succ, List.getElem?_cons_zero]; rfl) (by kernel_rfl) (by kernel_rfl) (by kernel_rfl) (by exact fun _ _ _ h => h) (Or.inl ⟨by rfl, ?_⟩) (by assumption) ?_; rotate_left; focus (intro w hSw; (try dsimp only at hSw); first | (go_simp; done) | (go_simp; with_reducible rfl))
        (try simp only [Act.put]); (try simp only [List.setIfInBounds_toArray]); (try simp only [List.set_cons_succ]); (try simp only [List.set_cons_zero])
        refine wpAnyH_take (i := 10) (v := ?_) (by simp only [List.getElem?_toArray, List.getElem?_cons_succ, List.getElem?_cons_zero]; rfl) (by kernel_rfl) (by kernel_rfl) (by kernel_rfl) (by exact fun _ _ _ h => h) (Or.inl ⟨by rfl, ?_⟩) (by assumption) ?_; rotate_left; focus (intro w hSw; (try dsimp only at hSw); first | (go_simp; done) | (go_simp; with_reducible rfl))
        (try simp only [Act.put]); (try simp only [List.setIfInBounds_toArray]); (try simp only [List.set_cons_succ]); (try simp only [List.set_cons_zero])
        refine wpAnyH_take (i := 11) (v := ?_) (by simp only [List.getElem?_toArray, List.getElem?_cons_succ, List.getElem?_cons_zero]; rfl) (by kernel_rfl) (by kernel_rfl) (by kernel_rfl) (by exact fun _ _ _ h => h) (Or.inl ⟨by rfl, ?_⟩) (by assumption) ?_; rotate_left; focus (intro w hSw; (try dsimp only at hSw); first | (go_simp; done) | (go_simp; with_reducible rfl))
        (try simp only [Act.put]); (try simp only [List.setIfInBounds_toArray]); (try simp only [List.set_cons_succ]); (try simp only [List.set_cons_zero])
        refine wpAnyH_take (i := 12) (v := ?_) (by simp only [List.getElem?_toArray, List.getElem?_cons_succ, List.getElem?_cons_zero]; rfl) (by kernel_rfl) (by kernel_rfl) (by kernel_rfl) (by exact fun _ _ _ h => h) (Or.inl ⟨by rfl, ?_⟩) (by assumption) ?_; rotate_left; focus (intro w hSw; (try dsimp only at hSw); first | (go_simp; done) | (go_simp; with_reducible rfl))
        (try simp only [Act.put]); (try simp only [List.setIfInBounds_toArray]); (try simp only [List.set_cons_succ]); (try simp only [List.set_cons_zero])
        refine wpAnyH_take (i := 13) (v := ?_) (by simp only [List.getElem?_toArray, List.getElem?_cons_succ, List.getElem?_cons_zero]; rfl) (by kernel_rfl) (by kernel_rfl) (by kernel_rfl) (by exact fun _ _ _ h => h) (Or.inl ⟨by rfl, ?_⟩) (by assumption) ?_; rotate_left; focus (intro w hSw; (try dsimp only at hSw); first | (go_simp; done) | (go_simp; with_reducible rfl))
        (try simp only [Act.put]); (try simp only [List.setIfInBounds_toArray]); (try simp only [List.set_cons_succ]); (try simp only [List.set_cons_zero])
        refine wpAnyH_take (i := 14) (v := ?_) (by simp only [List.getElem?_toArray, List.getElem?_cons_succ, List.getElem?_cons_zero]; rfl) (by kernel_rfl) (by kernel_rfl) (by kernel_rfl) (by exact fun _ _ _ h => h) (Or.inl ⟨by rfl, ?_⟩) (by assumption) ?_; rotate_left; focus (intro w hSw; (try dsimp only at hSw); first | (go_simp; done) | (go_simp; with_reducible rfl))
        (try simp only [Act.put]); (try simp only [List.setIfInBounds_toArray]); (try simp only [List.set_cons_succ]); (try simp only [List.set_cons_zero])
        refine wpAnyH_take (i := 15) (v := ?_) (by simp only [List.getElem?_toArray, List.getElem?_cons_succ, List.getElem?_cons_zero]; rfl) (by kernel_rfl) (by kernel_rfl) (by kernel_rfl) (by exact fun _ _ _ h => h) (Or.inl ⟨by rfl, ?_⟩) (by assumption) ?_; rotate_left; focus (intro w hSw; (try dsimp only at hSw); first | (go_simp; done) | (go_simp; with_reducible rfl))
        (try simp only [Act.put]); (try simp only [List.setIfInBounds_toArray]); (try simp only [List.set_cons_succ]); (try simp only [List.set_cons_zero])
        refine wpAnyH_take (i := 16) (v := ?_) (by simp only [List.getElem?_toArray, List.getElem?_cons_succ, List.getElem?_cons_zero]; rfl) (by kernel_rfl) (by kernel_rfl) (by kernel_rfl) (by exact fun _ _ _ h => h) (Or.inl ⟨by rfl, ?_⟩) (by assumption) ?_; rotate_left; focus (intro w hSw; (try dsimp only at hSw); first | (go_simp; done) | (go_simp; with_reducible rfl))
        (try simp only [Act.put]); (try simp only [List.setIfInBounds_toArray]); (try simp only [List.set_cons_succ]); (try simp only [List.set_cons_zero])
        refine wpAnyH_ready (rs := [17]) (by kernel_rfl) (by simp) ?_
        refine AllReadyH.cons rfl (fun K hK => ?_) AllReadyH.nil
        rw [if_pos (by rfl)]
        go_simp
        have BX := (Joins.below_alloc1 W0 (.cells #[.int .i64 0, .int .i64 0, .bool false, .int .i64 0, .int .i64 0, .int .i64 0, .int .i64 0, .bool false, .int .i64 0, .int .i64 0, .bool false, .int .i64 0] 106)).drew
        have QS := Lib.hid (show (W0.alloc (.cells #[.int .i64 0, .int .i64 0, .bool false, .int .i64 0, .int .i64 0, .int .i64 0, .int .i64 0, .bool false, .int .i64 0, .int .i64 0, .bool false, .int .i64 0] 106)).drew.cell? ⟨w.heap.size, 0, none⟩ = some (.slice Ad0 d.points.length cd0) ∧ (W0.alloc (.cells #[.int .i64 0, .int .i64 0, .bool false, .int .i64 0, .int .i64 0, .int .i64 0, .int .i64 0, .bool false, .int .i64 0, .int .i64 0, .bool false, .int .i64 0] 106)).drew.cell? ⟨w.heap.size, 1, none⟩ = some (.slice (some ⟨g', o', none⟩) d.segs.length cd1) ∧ (W0.alloc (.cells #[.int .i64 0, .int .i64 0, .bool false, .int .i64 0, .int .i64 0, .int .i64 0, .int .i64 0, .bool false, .int .i64 0, .int .i64 0, .bool false, .int .i64 0] 106)).drew.cell? ⟨w.heap.size + 1, 0, none⟩ = some (.int .i64 r.gap) ∧ (W0.alloc (.cells #[.int .i64 0, .int .i64 0, .bool false, .int .i64 0, .int .i64 0, .int .i64 0, .int .i64 0, .bool false, .int .i64 0, .int .i64 0, .bool false, .int .i64 0] 106)).drew.cell? ⟨w.heap.size + 1, 1, none⟩ = some (.bool true) ∧ (W0.alloc (.cells #[.int .i64 0, .int .i64 0, .bool false, .int .i64 0, .int .i64 0, .int .i64 0, .int .i64 0, .bool false, .int .i64 0, .int .i64 0, .bool false, .int .i64 0] 106)).drew.cell? ⟨w.heap.size + 2, 0, none⟩ = some (.int .i64 p.ship) ∧ (W0.alloc (.cells #[.int .i64 0, .int .i64 0, .bool false, .int .i64 0, .int .i64 0, .int .i64 0, .int .i64 0, .bool false, .int .i64 0, .int .i64 0, .bool false, .int .i64 0] 106)).drew.cell? ⟨w.heap.size + 2, 1, none⟩ = some (.int .i64 (k : Int)) ∧ (W0.alloc (.cells #[.int .i64 0, .int .i64 0, .bool false, .int .i64 0, .int .i64 0, .int .i64 0, .int .i64 0, .bool false, .int .i64 0, .int .i64 0, .bool false, .int .i64 0] 106)).drew.cell? ⟨w.heap.size + 2, 2, none⟩ = some (.bool p.toward) ∧ (W0.alloc (.cells #[.int .i64 0, .int .i64 0, .bool false, .int .i64 0, .int .i64 0, .int .i64 0, .int .i64 0, .bool false, .int .i64 0, .int .i64 0, .bool false, .int .i64 0] 106)).drew.cell? ⟨w.heap.size + 2, 3, none⟩ = some (.int .i64 p.start) ∧ (W0.alloc (.cells #[.int .i64 0, .int .i64 0, .bool false, .int .i64 0, .int .i64 0, .int .i64 0, .int .i64 0, .bool false, .int .i64 0, .int .i64 0, .bool false, .int .i64 0] 106)).drew.cell? ⟨w.heap.size + 2, 4, none⟩ = some (.int .i64 p.stop) ∧ (W0.alloc (.cells #[.int .i64 0, .int .i64 0, .bool false, .int .i64 0, .int .i64 0, .int .i64 0, .int .i64 0, .bool false, .int .i64 0, .int .i64 0, .bool false, .int .i64 0] 106)).drew.cell? ⟨w.heap.size + 3, 0, none⟩ = some (.int .i64 q.ship) ∧ (W0.alloc (.cells #[.int .i64 0, .int .i64 0, .bool false, .int .i64 0, .int .i64 0, .int .i64 0, .int .i64 0, .bool false, .int .i64 0, .int .i64 0, .bool false, .int .i64 0] 106)).drew.cell? ⟨w.heap.size + 3, 1, none⟩ = some (.int .i64 q.segment) ∧ (W0.alloc (.cells #[.int .i64 0, .int .i64 0, .bool false, .int .i64 0, .int .i64 0, .int .i64 0, .int .i64 0, .bool false, .int .i64 0, .int .i64 0, .bool false, .int .i64 0] 106)).drew.cell? ⟨w.heap.size + 3, 2, none⟩ = some (.bool q.toward) ∧ (W0.alloc (.cells #[.int .i64 0, .int .i64 0, .bool false, .int .i64 0, .int .i64 0, .int .i64 0, .int .i64 0, .bool false, .int .i64 0, .int .i64 0, .bool false, .int .i64 0] 106)).drew.cell? ⟨w.heap.size + 3, 3, none⟩ = some (.int .i64 q.start) ∧ (W0.alloc (.cells #[.int .i64 0, .int .i64 0, .bool false, .int .i64 0, .int .i64 0, .int .i64 0, .int .i64 0, .bool false, .int .i64 0, .int .i64 0, .bool false, .int .i64 0] 106)).drew.cell? ⟨w.heap.size + 3, 4, none⟩ = some (.int .i64 q.stop) ∧ (W0.alloc (.cells #[.int .i64 0, .int .i64 0, .bool false, .int .i64 0, .int .i64 0, .int .i64 0, .int .i64 0, .bool false, .int .i64 0, .int .i64 0, .bool false, .int .i64 0] 106)).drew.cell? ⟨g', o' + k * 5 + 4, none⟩ = some (.bool true) from ⟨cell_onV F0.out BX, cell_onV F1.out BX, cell_onV F2.out BX, cell_onV F3.out BX, cell_onV F4.out BX, cell_onV F5.out BX, cell_onV F6.out BX, cell_onV F7.out BX, cell_onV F8.out BX, cell_onV F9.out BX, cell_onV F10.out BX, cell_onV F11.out BX, cell_onV F12.out BX, cell_onV F13.out BX, cell_onV F14.out BX⟩)
        refine hK.out _ _ ?_ (fun hHeld => ?_)
        · (try dsimp only); exact QS.out
        clear hK K BX QS
        (try simp only [Act.put]); (try simp only [List.setIfInBounds_toArray]); (try simp only [List.set_cons_succ]); (try simp only [List.set_cons_zero])
        refine wpAnyH_ready (rs := [18]) (by kernel_rfl) (by simp) ?_
        refine AllReadyH.cons rfl (fun K hK => ?_) AllReadyH.nil
        rw [if_pos (by rfl)]
        go_simp
        have BX := (Joins.below_alloc1 W0 (.cells #[.int .i64 p.ship, .int .i64 (k : Int), .bool p.toward, .int .i64 p.start, .int .i64 p.stop, .int .i64 q.ship, .int .i64 q.segment, .bool q.toward, .int .i64 q.start, .int .i64 q.stop, .bool false, .int .i64 r.gap] 106)).drew
        have QS := Lib.hid (show (W0.alloc (.cells #[.int .i64 p.ship, .int .i64 (k : Int), .bool p.toward, .int .i64 p.start, .int .i64 p.stop, .int .i64 q.ship, .int .i64 q.segment, .bool q.toward, .int .i64 q.start, .int .i64 q.stop, .bool false, .int .i64 r.gap] 106)).drew.cell? ⟨w.heap.size, 0, none⟩ = some (.slice Ad0 d.points.length cd0) ∧ (W0.alloc (.cells #[.int .i64 p.ship, .int .i64 (k : Int), .bool p.toward, .int .i64 p.start, .int .i64 p.stop, .int .i64 q.ship, .int .i64 q.segment, .bool q.toward, .int .i64 q.start, .int .i64 q.stop, .bool false, .int .i64 r.gap] 106)).drew.cell? ⟨w.heap.size, 1, none⟩ = some (.slice (some ⟨g', o', none⟩) d.segs.length cd1) ∧ (W0.alloc (.cells #[.int .i64 p.ship, .int .i64 (k : Int), .bool p.toward, .int .i64 p.start, .int .i64 p.stop, .int .i64 q.ship, .int .i64 q.segment, .bool q.toward, .int .i64 q.start, .int .i64 q.stop, .bool false, .int .i64 r.gap] 106)).drew.cell? ⟨w.heap.size + 1, 0, none⟩ = some (.int .i64 r.gap) ∧ (W0.alloc (.cells #[.int .i64 p.ship, .int .i64 (k : Int), .bool p.toward, .int .i64 p.start, .int .i64 p.stop, .int .i64 q.ship, .int .i64 q.segment, .bool q.toward, .int .i64 q.start, .int .i64 q.stop, .bool false, .int .i64 r.gap] 106)).drew.cell? ⟨w.heap.size + 1, 1, none⟩ = some (.bool true) ∧ (W0.alloc (.cells #[.int .i64 p.ship, .int .i64 (k : Int), .bool p.toward, .int .i64 p.start, .int .i64 p.stop, .int .i64 q.ship, .int .i64 q.segment, .bool q.toward, .int .i64 q.start, .int .i64 q.stop, .bool false, .int .i64 r.gap] 106)).drew.cell? ⟨w.heap.size + 2, 0, none⟩ = some (.int .i64 p.ship) ∧ (W0.alloc (.cells #[.int .i64 p.ship, .int .i64 (k : Int), .bool p.toward, .int .i64 p.start, .int .i64 p.stop, .int .i64 q.ship, .int .i64 q.segment, .bool q.toward, .int .i64 q.start, .int .i64 q.stop, .bool false, .int .i64 r.gap] 106)).drew.cell? ⟨w.heap.size + 2, 1, none⟩ = some (.int .i64 (k : Int)) ∧ (W0.alloc (.cells #[.int .i64 p.ship, .int .i64 (k : Int), .bool p.toward, .int .i64 p.start, .int .i64 p.stop, .int .i64 q.ship, .int .i64 q.segment, .bool q.toward, .int .i64 q.start, .int .i64 q.stop, .bool false, .int .i64 r.gap] 106)).drew.cell? ⟨w.heap.size + 2, 2, none⟩ = some (.bool p.toward) ∧ (W0.alloc (.cells #[.int .i64 p.ship, .int .i64 (k : Int), .bool p.toward, .int .i64 p.start, .int .i64 p.stop, .int .i64 q.ship, .int .i64 q.segment, .bool q.toward, .int .i64 q.start, .int .i64 q.stop, .bool false, .int .i64 r.gap] 106)).drew.cell? ⟨w.heap.size + 2, 3, none⟩ = some (.int .i64 p.start) ∧ (W0.alloc (.cells #[.int .i64 p.ship, .int .i64 (k : Int), .bool p.toward, .int .i64 p.start, .int .i64 p.stop, .int .i64 q.ship, .int .i64 q.segment, .bool q.toward, .int .i64 q.start, .int .i64 q.stop, .bool false, .int .i64 r.gap] 106)).drew.cell? ⟨w.heap.size + 2, 4, none⟩ = some (.int .i64 p.stop) ∧ (W0.alloc (.cells #[.int .i64 p.ship, .int .i64 (k : Int), .bool p.toward, .int .i64 p.start, .int .i64 p.stop, .int .i64 q.ship, .int .i64 q.segment, .bool q.toward, .int .i64 q.start, .int .i64 q.stop, .bool false, .int .i64 r.gap] 106)).drew.cell? ⟨w.heap.size + 3, 0, none⟩ = some (.int .i64 q.ship) ∧ (W0.alloc (.cells #[.int .i64 p.ship, .int .i64 (k : Int), .bool p.toward, .int .i64 p.start, .int .i64 p.stop, .int .i64 q.ship, .int .i64 q.segment, .bool q.toward, .int .i64 q.start, .int .i64 q.stop, .bool false, .int .i64 r.gap] 106)).drew.cell? ⟨w.heap.size + 3, 1, none⟩ = some (.int .i64 q.segment) ∧ (W0.alloc (.cells #[.int .i64 p.ship, .int .i64 (k : Int), .bool p.toward, .int .i64 p.start, .int .i64 p.stop, .int .i64 q.ship, .int .i64 q.segment, .bool q.toward, .int .i64 q.start, .int .i64 q.stop, .bool false, .int .i64 r.gap] 106)).drew.cell? ⟨w.heap.size + 3, 2, none⟩ = some (.bool q.toward) ∧ (W0.alloc (.cells #[.int .i64 p.ship, .int .i64 (k : Int), .bool p.toward, .int .i64 p.start, .int .i64 p.stop, .int .i64 q.ship, .int .i64 q.segment, .bool q.toward, .int .i64 q.start, .int .i64 q.stop, .bool false, .int .i64 r.gap] 106)).drew.cell? ⟨w.heap.size + 3, 3, none⟩ = some (.int .i64 q.start) ∧ (W0.alloc (.cells #[.int .i64 p.ship, .int .i64 (k : Int), .bool p.toward, .int .i64 p.start, .int .i64 p.stop, .int .i64 q.ship, .int .i64 q.segment, .bool q.toward, .int .i64 q.start, .int .i64 q.stop, .bool false, .int .i64 r.gap] 106)).drew.cell? ⟨w.heap.size + 3, 4, none⟩ = some (.int .i64 q.stop) ∧ (W0.alloc (.cells #[.int .i64 p.ship, .int .i64 (k : Int), .bool p.toward, .int .i64 p.start, .int .i64 p.stop, .int .i64 q.ship, .int .i64 q.segment, .bool q.toward, .int .i64 q.start, .int .i64 q.stop, .bool false, .int .i64 r.gap] 106)).drew.cell? ⟨g', o' + k * 5 + 4, none⟩ = some (.bool true) from ⟨cell_onV F0.out BX, cell_onV F1.out BX, cell_onV F2.out BX, cell_onV F3.out BX, cell_onV F4.out BX, cell_onV F5.out BX, cell_onV F6.out BX, cell_onV F7.out BX, cell_onV F8.out BX, cell_onV F9.out BX, cell_onV F10.out BX, cell_onV F11.out BX, cell_onV F12.out BX, cell_onV F13.out BX, cell_onV F14.out BX⟩)
        have KE := Lib.hid (show Blk (W0.alloc (.cells #[.int .i64 p.ship, .int .i64 (k : Int), .bool p.toward, .int .i64 p.start, .int .i64 p.stop, .int .i64 q.ship, .int .i64 q.segment, .bool q.toward, .int .i64 q.start, .int .i64 q.stop, .bool false, .int .i64 r.gap] 106)).drew W0.heap.size #[.int .i64 p.ship, .int .i64 p.segment, .bool p.toward, .int .i64 p.start, .int .i64 p.stop, .int .i64 q.ship, .int .i64 q.segment, .bool q.toward, .int .i64 q.start, .int .i64 q.stop, .bool false, .int .i64 r.gap] 106 from (by rw [HK.out]; exact (Blk.new W0 #[.int .i64 p.ship, .int .i64 (k : Int), .bool p.toward, .int .i64 p.start, .int .i64 p.stop, .int .i64 q.ship, .int .i64 q.segment, .bool q.toward, .int .i64 q.start, .int .i64 q.stop, .bool false, .int .i64 r.gap] 106).below (Below.refl _ (W0.alloc (.cells #[.int .i64 p.ship, .int .i64 (k : Int), .bool p.toward, .int .i64 p.start, .int .i64 p.stop, .int .i64 q.ship, .int .i64 q.segment, .bool q.toward, .int .i64 q.start, .int .i64 q.stop, .bool false, .int .i64 r.gap] 106))).drew))
        have BW := Lib.hid (B.out.trans (BX.mono B.out.size))
        refine hK.out _ _ ?_ (fun hHeld => ?_)
        · (try dsimp only); exact QS.out
        clear hK K BX QS
        (try simp only [Act.put]); (try simp only [List.setIfInBounds_toArray]); (try simp only [List.set_cons_succ]); (try simp only [List.set_cons_zero])
        refine wpAnyH_done (by kernel_rfl) ?_ _
        go_wp2_with fail
        go_meet
        exact ⟨rfl, KE, BW⟩
      | false =>
        obtain rfl : mm = true := by rw [← hmm]; rfl
        clear hmm T2 E0
        have F0 := Lib.hid (show W0.cell? ⟨w.heap.size, 0, none⟩ = some (.slice Ad0 d.points.length cd0) from Kd.out.cell 0)
        have v0 := F0.out
        have F1 := Lib.hid (show W0.cell? ⟨w.heap.size, 1, none⟩ = some (.slice (some ⟨g', o', none⟩) d.segs.length cd1) from Kd.out.cell 1)
        have v1 := F1.out
        have F2 := Lib.hid (show W0.cell? ⟨w.heap.size + 1, 0, none⟩ = some (.int .i64 r.gap) from Kr.out.cell 0)
        have v2 := F2.out
        have F3 := Lib.hid (show W0.cell? ⟨w.heap.size + 1, 1, none⟩ = some (.bool false) from by rw [← HNM.out]; exact Kr.out.cell 1)
        have v3 := F3.out
        have F4 := Lib.hid (show W0.cell? ⟨w.heap.size + 2, 0, none⟩ = some (.int .i64 p.ship) from Kp.out.cell 0)
        have v4 := F4.out
        have F5 := Lib.hid (show W0.cell? ⟨w.heap.size + 2, 1, none⟩ = some (.int .i64 (k : Int)) from by rw [← HK.out]; exact Kp.out.cell 1)
        have v5 := F5.out
        have F6 := Lib.hid (show W0.cell? ⟨w.heap.size + 2, 2, none⟩ = some (.bool p.toward) from Kp.out.cell 2)
        have v6 := F6.out
        have F7 := Lib.hid (show W0.cell? ⟨w.heap.size + 2, 3, none⟩ = some (.int .i64 p.start) from Kp.out.cell 3)
        have v7 := F7.out
        have F8 := Lib.hid (show W0.cell? ⟨w.heap.size + 2, 4, none⟩ = some (.int .i64 p.stop) from Kp.out.cell 4)
        have v8 := F8.out
        have F9 := Lib.hid (show W0.cell? ⟨w.heap.size + 3, 0, none⟩ = some (.int .i64 q.ship) from Kq.out.cell 0)
        have v9 := F9.out
        have F10 := Lib.hid (show W0.cell? ⟨w.heap.size + 3, 1, none⟩ = some (.int .i64 q.segment) from Kq.out.cell 1)
        have v10 := F10.out
        have F11 := Lib.hid (show W0.cell? ⟨w.heap.size + 3, 2, none⟩ = some (.bool q.toward) from Kq.out.cell 2)
        have v11 := F11.out
        have F12 := Lib.hid (show W0.cell? ⟨w.heap.size + 3, 3, none⟩ = some (.int .i64 q.start) from Kq.out.cell 3)
        have v12 := F12.out
        have F13 := Lib.hid (show W0.cell? ⟨w.heap.size + 3, 4, none⟩ = some (.int .i64 q.stop) from Kq.out.cell 4)
        have v13 := F13.out
        have F14 := Lib.hid (show W0.cell? ⟨g', o' + k * 5 + 4, none⟩ = some (.bool true) from by rw [← HMT.out]; exact cell_onV Y4.out B.out)
        have v14 := F14.out
        refine wp_region_held_drew (S := (fun w' => w'.cell? ⟨w.heap.size, 0, none⟩ = some (.slice Ad0 d.points.length cd0) ∧ w'.cell? ⟨w.heap.size, 1, none⟩ = some (.slice (some ⟨g', o', none⟩) d.segs.length cd1) ∧ w'.cell? ⟨w.heap.size + 1, 0, none⟩ = some (.int .i64 r.gap) ∧ w'.cell? ⟨w.heap.size + 1, 1, none⟩ = some (.bool false) ∧ w'.cell? ⟨w.heap.size + 2, 0, none⟩ = some (.int .i64 p.ship) ∧ w'.cell? ⟨w.heap.size + 2, 1, none⟩ = some (.int .i64 (k : Int)) ∧ w'.cell? ⟨w.heap.size + 2, 2, none⟩ = some (.bool p.toward) ∧ w'.cell? ⟨w.heap.size + 2, 3, none⟩ = some (.int .i64 p.start) ∧ w'.cell? ⟨w.heap.size + 2, 4, none⟩ = some (.int .i64 p.stop) ∧ w'.cell? ⟨w.heap.size + 3, 0, none⟩ = some (.int .i64 q.ship) ∧ w'.cell? ⟨w.heap.size + 3, 1, none⟩ = some (.int .i64 q.segment) ∧ w'.cell? ⟨w.heap.size + 3, 2, none⟩ = some (.bool q.toward) ∧ w'.cell? ⟨w.heap.size + 3, 3, none⟩ = some (.int .i64 q.start) ∧ w'.cell? ⟨w.heap.size + 3, 4, none⟩ = some (.int .i64 q.stop) ∧ w'.cell? ⟨g', o' + k * 5 + 4, none⟩ = some (.bool true))) (by kernel_rfl) ?_ (fun hHeld => ?_)
        · (try dsimp only); go_keep
        refine wpAnyH_take (i := 0) (v := ?_) (by simp only [List.getElem?_toArray, List.getElem?_cons_zero]; rfl) (by kernel_rfl) (by kernel_rfl) (by kernel_rfl) (by exact fun _ _ _ h => h) (Or.inl ⟨by rfl, ?_⟩) (by assumption) ?_; rotate_left; focus (intro w hSw; (try dsimp only at hSw); first | (go_simp; done) | (go_simp; with_reducible rfl))
        (try simp only [Act.put]); (try simp only [List.setIfInBounds_toArray]); (try simp only [List.set_cons_succ]); (try simp only [List.set_cons_zero])
        refine wpAnyH_take (i := 1) (v := ?_) (by simp only [List.getElem?_toArray, List.getElem?_cons_succ, List.getElem?_cons_zero]; rfl) (by kernel_rfl) (by kernel_rfl) (by kernel_rfl) (by exact fun _ _ _ h => h) (Or.inl ⟨by rfl, ?_⟩) (by assumption) ?_; rotate_left; focus (intro w hSw; (try dsimp only at hSw); first | (go_simp; done) | (go_simp; with_reducible rfl))
        (try simp only [Act.put]); (try simp only [List.setIfInBounds_toArray]); (try simp only [List.set_cons_succ]); (try simp only [List.set_cons_zero])
        refine wpAnyH_take (i := 2) (v := ?_) (by simp only [List.getElem?_toArray, List.getElem?_cons_succ, List.getElem?_cons_zero]; rfl) (by kernel_rfl) (by kernel_rfl) (by kernel_rfl) (by exact fun _ _ _ h => h) (Or.inl ⟨by rfl, ?_⟩) (by assumption) ?_; rotate_left; focus (intro w hSw; (try dsimp only at hSw); first | (go_simp; done) | (go_simp; with_reducible rfl))
        (try simp only [Act.put]); (try simp only [List.setIfInBounds_toArray]); (try simp only [List.set_cons_succ]); (try simp only [List.set_cons_zero])
        refine wpAnyH_take (i := 3) (v := ?_) (by simp only [List.getElem?_toArray, List.getElem?_cons_succ, List.getElem?_cons_zero]; rfl) (by kernel_rfl) (by kernel_rfl) (by kernel_rfl) (by exact fun _ _ _ h => h) (Or.inl ⟨by rfl, ?_⟩) (by assumption) ?_; rotate_left; focus (intro w hSw; (try dsimp only at hSw); first | (go_simp; done) | (go_simp; with_reducible rfl))
        (try simp only [Act.put]); (try simp only [List.setIfInBounds_toArray]); (try simp only [List.set_cons_succ]); (try simp only [List.set_cons_zero])
        refine wpAnyH_take (i := 4) (v := ?_) (by simp only [List.getElem?_toArray, List.getElem?_cons_succ, List.getElem?_cons_zero]; rfl) (by kernel_rfl) (by kernel_rfl) (by kernel_rfl) (by exact fun _ _ _ h => h) (Or.inl ⟨by rfl, ?_⟩) (by assumption) ?_; rotate_left; focus (intro w hSw; (try dsimp only at hSw); first | (go_simp; done) | (go_simp; with_reducible rfl))
        (try simp only [Act.put]); (try simp only [List.setIfInBounds_toArray]); (try simp only [List.set_cons_succ]); (try simp only [List.set_cons_zero])
        refine wpAnyH_take (i := 5) (v := ?_) (by simp only [List.getElem?_toArray, List.getElem?_cons_succ, List.getElem?_cons_zero]; rfl) (by kernel_rfl) (by kernel_rfl) (by kernel_rfl) (by exact fun _ _ _ h => h) (Or.inl ⟨by rfl, ?_⟩) (by assumption) ?_; rotate_left; focus (intro w hSw; (try dsimp only at hSw); first | (go_simp; done) | (go_simp; with_reducible rfl))
        (try simp only [Act.put]); (try simp only [List.setIfInBounds_toArray]); (try simp only [List.set_cons_succ]); (try simp only [List.set_cons_zero])
        refine wpAnyH_take (i := 6) (v := ?_) (by simp only [List.getElem?_toArray, List.getElem?_cons_succ, List.getElem?_cons_zero]; rfl) (by kernel_rfl) (by kernel_rfl) (by kernel_rfl) (by exact fun _ _ _ h => h) (Or.inl ⟨by rfl, ?_⟩) (by assumption) ?_; rotate_left; focus (intro w hSw; (try dsimp only at hSw); first | (go_simp; done) | (go_simp; with_reducible rfl))
        (try simp only [Act.put]); (try simp only [List.setIfInBounds_toArray]); (try simp only [List.set_cons_succ]); (try simp only [List.set_cons_zero])
        refine wpAnyH_take (i := 7) (v := ?_) (by simp only [List.getElem?_toArray, List.getElem?_cons_succ, List.getElem?_cons_zero]; rfl) (by kernel_rfl) (by kernel_rfl) (by kernel_rfl) (by exact fun _ _ _ h => h) (Or.inl ⟨by rfl, ?_⟩) (by assumption) ?_; rotate_left; focus (intro w hSw; (try dsimp only at hSw); first | (go_simp; done) | (go_simp; with_reducible rfl))
        (try simp only [Act.put]); (try simp only [List.setIfInBounds_toArray]); (try simp only [List.set_cons_succ]); (try simp only [List.set_cons_zero])
        refine wpAnyH_take (i := 8) (v := ?_) (by simp only [List.getElem?_toArray, List.getElem?_cons_succ, List.getElem?_cons_zero]; rfl) (by kernel_rfl) (by kernel_rfl) (by kernel_rfl) (by exact fun _ _ _ h => h) (Or.inl ⟨by rfl, ?_⟩) (by assumption) ?_; rotate_left; focus (intro w hSw; (try dsimp only at hSw); first | (go_simp; done) | (go_simp; with_reducible rfl))
        (try simp only [Act.put]); (try simp only [List.setIfInBounds_toArray]); (try simp only [List.set_cons_succ]); (try simp only [List.set_cons_zero])
        refine wpAnyH_take (i := 9) (v := ?_) (by simp only [List.getElem?_toArray, List.getElem?_cons_succ, List.getElem?_cons_zero]; rfl) (by kernel_rfl) (by kernel_rfl) (by kernel_rfl) (by exact fun _ _ _ h => h) (Or.inl ⟨by rfl, ?_⟩) (by assumption) ?_; rotate_left; focus (intro w hSw; (try dsimp only at hSw); first | (go_simp; done) | (go_simp; with_reducible rfl))
        (try simp only [Act.put]); (try simp only [List.setIfInBounds_toArray]); (try simp only [List.set_cons_succ]); (try simp only [List.set_cons_zero])
        refine wpAnyH_take (i := 10) (v := ?_) (by simp only [List.getElem?_toArray, List.getElem?_cons_succ, List.getElem?_cons_zero]; rfl) (by kernel_rfl) (by kernel_rfl) (by kernel_rfl) (by exact fun _ _ _ h => h) (Or.inl ⟨by rfl, ?_⟩) (by assumption) ?_; rotate_left; focus (intro w hSw; (try dsimp only at hSw); first | (go_simp; done) | (go_simp; with_reducible rfl))
        (try simp only [Act.put]); (try simp only [List.setIfInBounds_toArray]); (try simp only [List.set_cons_succ]); (try simp only [List.set_cons_zero])
        refine wpAnyH_take (i := 11) (v := ?_) (by simp only [List.getElem?_toArray, List.getElem?_cons_succ, List.getElem?_cons_zero]; rfl) (by kernel_rfl) (by kernel_rfl) (by kernel_rfl) (by exact fun _ _ _ h => h) (Or.inl ⟨by rfl, ?_⟩) (by assumption) ?_; rotate_left; focus (intro w hSw; (try dsimp only at hSw); first | (go_simp; done) | (go_simp; with_reducible rfl))
        (try simp only [Act.put]); (try simp only [List.setIfInBounds_toArray]); (try simp only [List.set_cons_succ]); (try simp only [List.set_cons_zero])
        refine wpAnyH_take (i := 12) (v := ?_) (by simp only [List.getElem?_toArray, List.getElem?_cons_succ, List.getElem?_cons_zero]; rfl) (by kernel_rfl) (by kernel_rfl) (by kernel_rfl) (by exact fun _ _ _ h => h) (Or.inl ⟨by rfl, ?_⟩) (by assumption) ?_; rotate_left; focus (intro w hSw; (try dsimp only at hSw); first | (go_simp; done) | (go_simp; with_reducible rfl))
        (try simp only [Act.put]); (try simp only [List.setIfInBounds_toArray]); (try simp only [List.set_cons_succ]); (try simp only [List.set_cons_zero])
        refine wpAnyH_take (i := 13) (v := ?_) (by simp only [List.getElem?_toArray, List.getElem?_cons_succ, List.getElem?_cons_zero]; rfl) (by kernel_rfl) (by kernel_rfl) (by kernel_rfl) (by exact fun _ _ _ h => h) (Or.inl ⟨by rfl, ?_⟩) (by assumption) ?_; rotate_left; focus (intro w hSw; (try dsimp only at hSw); first | (go_simp; done) | (go_simp; with_reducible rfl))
        (try simp only [Act.put]); (try simp only [List.setIfInBounds_toArray]); (try simp only [List.set_cons_succ]); (try simp only [List.set_cons_zero])
        refine wpAnyH_take (i := 14) (v := ?_) (by simp only [List.getElem?_toArray, List.getElem?_cons_succ, List.getElem?_cons_zero]; rfl) (by kernel_rfl) (by kernel_rfl) (by kernel_rfl) (by exact fun _ _ _ h => h) (Or.inl ⟨by rfl, ?_⟩) (by assumption) ?_; rotate_left; focus (intro w hSw; (try dsimp only at hSw); first | (go_simp; done) | (go_simp; with_reducible rfl))
        (try simp only [Act.put]); (try simp only [List.setIfInBounds_toArray]); (try simp only [List.set_cons_succ]); (try simp only [List.set_cons_zero])
        refine wpAnyH_take (i := 15) (v := ?_) (by simp only [List.getElem?_toArray, List.getElem?_cons_succ, List.getElem?_cons_zero]; rfl) (by kernel_rfl) (by kernel_rfl) (by kernel_rfl) (by exact fun _ _ _ h => h) (Or.inl ⟨by rfl, ?_⟩) (by assumption) ?_; rotate_left; focus (intro w hSw; (try dsimp only at hSw); first | (go_simp; done) | (go_simp; with_reducible rfl))
        (try simp only [Act.put]); (try simp only [List.setIfInBounds_toArray]); (try simp only [List.set_cons_succ]); (try simp only [List.set_cons_zero])
        refine wpAnyH_take (i := 16) (v := ?_) (by simp only [List.getElem?_toArray, List.getElem?_cons_succ, List.getElem?_cons_zero]; rfl) (by kernel_rfl) (by kernel_rfl) (by kernel_rfl) (by exact fun _ _ _ h => h) (Or.inl ⟨by rfl, ?_⟩) (by assumption) ?_; rotate_left; focus (intro w hSw; (try dsimp only at hSw); first | (go_simp; done) | (go_simp; with_reducible rfl))
        (try simp only [Act.put]); (try simp only [List.setIfInBounds_toArray]); (try simp only [List.set_cons_succ]); (try simp only [List.set_cons_zero])
        refine wpAnyH_ready (rs := [17]) (by kernel_rfl) (by simp) ?_
        refine AllReadyH.cons rfl (fun K hK => ?_) AllReadyH.nil
        rw [if_pos (by rfl)]
        go_simp
        have BX := (Joins.below_alloc1 W0 (.cells #[.int .i64 0, .int .i64 0, .bool false, .int .i64 0, .int .i64 0, .int .i64 0, .int .i64 0, .bool false, .int .i64 0, .int .i64 0, .bool false, .int .i64 0] 106)).drew
        have QS := Lib.hid (show (W0.alloc (.cells #[.int .i64 0, .int .i64 0, .bool false, .int .i64 0, .int .i64 0, .int .i64 0, .int .i64 0, .bool false, .int .i64 0, .int .i64 0, .bool false, .int .i64 0] 106)).drew.cell? ⟨w.heap.size, 0, none⟩ = some (.slice Ad0 d.points.length cd0) ∧ (W0.alloc (.cells #[.int .i64 0, .int .i64 0, .bool false, .int .i64 0, .int .i64 0, .int .i64 0, .int .i64 0, .bool false, .int .i64 0, .int .i64 0, .bool false, .int .i64 0] 106)).drew.cell? ⟨w.heap.size, 1, none⟩ = some (.slice (some ⟨g', o', none⟩) d.segs.length cd1) ∧ (W0.alloc (.cells #[.int .i64 0, .int .i64 0, .bool false, .int .i64 0, .int .i64 0, .int .i64 0, .int .i64 0, .bool false, .int .i64 0, .int .i64 0, .bool false, .int .i64 0] 106)).drew.cell? ⟨w.heap.size + 1, 0, none⟩ = some (.int .i64 r.gap) ∧ (W0.alloc (.cells #[.int .i64 0, .int .i64 0, .bool false, .int .i64 0, .int .i64 0, .int .i64 0, .int .i64 0, .bool false, .int .i64 0, .int .i64 0, .bool false, .int .i64 0] 106)).drew.cell? ⟨w.heap.size + 1, 1, none⟩ = some (.bool false) ∧ (W0.alloc (.cells #[.int .i64 0, .int .i64 0, .bool false, .int .i64 0, .int .i64 0, .int .i64 0, .int .i64 0, .bool false, .int .i64 0, .int .i64 0, .bool false, .int .i64 0] 106)).drew.cell? ⟨w.heap.size + 2, 0, none⟩ = some (.int .i64 p.ship) ∧ (W0.alloc (.cells #[.int .i64 0, .int .i64 0, .bool false, .int .i64 0, .int .i64 0, .int .i64 0, .int .i64 0, .bool false, .int .i64 0, .int .i64 0, .bool false, .int .i64 0] 106)).drew.cell? ⟨w.heap.size + 2, 1, none⟩ = some (.int .i64 (k : Int)) ∧ (W0.alloc (.cells #[.int .i64 0, .int .i64 0, .bool false, .int .i64 0, .int .i64 0, .int .i64 0, .int .i64 0, .bool false, .int .i64 0, .int .i64 0, .bool false, .int .i64 0] 106)).drew.cell? ⟨w.heap.size + 2, 2, none⟩ = some (.bool p.toward) ∧ (W0.alloc (.cells #[.int .i64 0, .int .i64 0, .bool false, .int .i64 0, .int .i64 0, .int .i64 0, .int .i64 0, .bool false, .int .i64 0, .int .i64 0, .bool false, .int .i64 0] 106)).drew.cell? ⟨w.heap.size + 2, 3, none⟩ = some (.int .i64 p.start) ∧ (W0.alloc (.cells #[.int .i64 0, .int .i64 0, .bool false, .int .i64 0, .int .i64 0, .int .i64 0, .int .i64 0, .bool false, .int .i64 0, .int .i64 0, .bool false, .int .i64 0] 106)).drew.cell? ⟨w.heap.size + 2, 4, none⟩ = some (.int .i64 p.stop) ∧ (W0.alloc (.cells #[.int .i64 0, .int .i64 0, .bool false, .int .i64 0, .int .i64 0, .int .i64 0, .int .i64 0, .bool false, .int .i64 0, .int .i64 0, .bool false, .int .i64 0] 106)).drew.cell? ⟨w.heap.size + 3, 0, none⟩ = some (.int .i64 q.ship) ∧ (W0.alloc (.cells #[.int .i64 0, .int .i64 0, .bool false, .int .i64 0, .int .i64 0, .int .i64 0, .int .i64 0, .bool false, .int .i64 0, .int .i64 0, .bool false, .int .i64 0] 106)).drew.cell? ⟨w.heap.size + 3, 1, none⟩ = some (.int .i64 q.segment) ∧ (W0.alloc (.cells #[.int .i64 0, .int .i64 0, .bool false, .int .i64 0, .int .i64 0, .int .i64 0, .int .i64 0, .bool false, .int .i64 0, .int .i64 0, .bool false, .int .i64 0] 106)).drew.cell? ⟨w.heap.size + 3, 2, none⟩ = some (.bool q.toward) ∧ (W0.alloc (.cells #[.int .i64 0, .int .i64 0, .bool false, .int .i64 0, .int .i64 0, .int .i64 0, .int .i64 0, .bool false, .int .i64 0, .int .i64 0, .bool false, .int .i64 0] 106)).drew.cell? ⟨w.heap.size + 3, 3, none⟩ = some (.int .i64 q.start) ∧ (W0.alloc (.cells #[.int .i64 0, .int .i64 0, .bool false, .int .i64 0, .int .i64 0, .int .i64 0, .int .i64 0, .bool false, .int .i64 0, .int .i64 0, .bool false, .int .i64 0] 106)).drew.cell? ⟨w.heap.size + 3, 4, none⟩ = some (.int .i64 q.stop) ∧ (W0.alloc (.cells #[.int .i64 0, .int .i64 0, .bool false, .int .i64 0, .int .i64 0, .int .i64 0, .int .i64 0, .bool false, .int .i64 0, .int .i64 0, .bool false, .int .i64 0] 106)).drew.cell? ⟨g', o' + k * 5 + 4, none⟩ = some (.bool true) from ⟨cell_onV F0.out BX, cell_onV F1.out BX, cell_onV F2.out BX, cell_onV F3.out BX, cell_onV F4.out BX, cell_onV F5.out BX, cell_onV F6.out BX, cell_onV F7.out BX, cell_onV F8.out BX, cell_onV F9.out BX, cell_onV F10.out BX, cell_onV F11.out BX, cell_onV F12.out BX, cell_onV F13.out BX, cell_onV F14.out BX⟩)
        refine hK.out _ _ ?_ (fun hHeld => ?_)
        · (try dsimp only); exact QS.out
        clear hK K BX QS
        (try simp only [Act.put]); (try simp only [List.setIfInBounds_toArray]); (try simp only [List.set_cons_succ]); (try simp only [List.set_cons_zero])
        refine wpAnyH_ready (rs := [18]) (by kernel_rfl) (by simp) ?_
        refine AllReadyH.cons rfl (fun K hK => ?_) AllReadyH.nil
        rw [if_pos (by rfl)]
        go_simp
        have BX := (Joins.below_alloc1 W0 (.cells #[.int .i64 p.ship, .int .i64 (k : Int), .bool p.toward, .int .i64 p.start, .int .i64 p.stop, .int .i64 q.ship, .int .i64 q.segment, .bool q.toward, .int .i64 q.start, .int .i64 q.stop, .bool true, .int .i64 r.gap] 106)).drew
        have QS := Lib.hid (show (W0.alloc (.cells #[.int .i64 p.ship, .int .i64 (k : Int), .bool p.toward, .int .i64 p.start, .int .i64 p.stop, .int .i64 q.ship, .int .i64 q.segment, .bool q.toward, .int .i64 q.start, .int .i64 q.stop, .bool true, .int .i64 r.gap] 106)).drew.cell? ⟨w.heap.size, 0, none⟩ = some (.slice Ad0 d.points.length cd0) ∧ (W0.alloc (.cells #[.int .i64 p.ship, .int .i64 (k : Int), .bool p.toward, .int .i64 p.start, .int .i64 p.stop, .int .i64 q.ship, .int .i64 q.segment, .bool q.toward, .int .i64 q.start, .int .i64 q.stop, .bool true, .int .i64 r.gap] 106)).drew.cell? ⟨w.heap.size, 1, none⟩ = some (.slice (some ⟨g', o', none⟩) d.segs.length cd1) ∧ (W0.alloc (.cells #[.int .i64 p.ship, .int .i64 (k : Int), .bool p.toward, .int .i64 p.start, .int .i64 p.stop, .int .i64 q.ship, .int .i64 q.segment, .bool q.toward, .int .i64 q.start, .int .i64 q.stop, .bool true, .int .i64 r.gap] 106)).drew.cell? ⟨w.heap.size + 1, 0, none⟩ = some (.int .i64 r.gap) ∧ (W0.alloc (.cells #[.int .i64 p.ship, .int .i64 (k : Int), .bool p.toward, .int .i64 p.start, .int .i64 p.stop, .int .i64 q.ship, .int .i64 q.segment, .bool q.toward, .int .i64 q.start, .int .i64 q.stop, .bool true, .int .i64 r.gap] 106)).drew.cell? ⟨w.heap.size + 1, 1, none⟩ = some (.bool false) ∧ (W0.alloc (.cells #[.int .i64 p.ship, .int .i64 (k : Int), .bool p.toward, .int .i64 p.start, .int .i64 p.stop, .int .i64 q.ship, .int .i64 q.segment, .bool q.toward, .int .i64 q.start, .int .i64 q.stop, .bool true, .int .i64 r.gap] 106)).drew.cell? ⟨w.heap.size + 2, 0, none⟩ = some (.int .i64 p.ship) ∧ (W0.alloc (.cells #[.int .i64 p.ship, .int .i64 (k : Int), .bool p.toward, .int .i64 p.start, .int .i64 p.stop, .int .i64 q.ship, .int .i64 q.segment, .bool q.toward, .int .i64 q.start, .int .i64 q.stop, .bool true, .int .i64 r.gap] 106)).drew.cell? ⟨w.heap.size + 2, 1, none⟩ = some (.int .i64 (k : Int)) ∧ (W0.alloc (.cells #[.int .i64 p.ship, .int .i64 (k : Int), .bool p.toward, .int .i64 p.start, .int .i64 p.stop, .int .i64 q.ship, .int .i64 q.segment, .bool q.toward, .int .i64 q.start, .int .i64 q.stop, .bool true, .int .i64 r.gap] 106)).drew.cell? ⟨w.heap.size + 2, 2, none⟩ = some (.bool p.toward) ∧ (W0.alloc (.cells #[.int .i64 p.ship, .int .i64 (k : Int), .bool p.toward, .int .i64 p.start, .int .i64 p.stop, .int .i64 q.ship, .int .i64 q.segment, .bool q.toward, .int .i64 q.start, .int .i64 q.stop, .bool true, .int .i64 r.gap] 106)).drew.cell? ⟨w.heap.size + 2, 3, none⟩ = some (.int .i64 p.start) ∧ (W0.alloc (.cells #[.int .i64 p.ship, .int .i64 (k : Int), .bool p.toward, .int .i64 p.start, .int .i64 p.stop, .int .i64 q.ship, .int .i64 q.segment, .bool q.toward, .int .i64 q.start, .int .i64 q.stop, .bool true, .int .i64 r.gap] 106)).drew.cell? ⟨w.heap.size + 2, 4, none⟩ = some (.int .i64 p.stop) ∧ (W0.alloc (.cells #[.int .i64 p.ship, .int .i64 (k : Int), .bool p.toward, .int .i64 p.start, .int .i64 p.stop, .int .i64 q.ship, .int .i64 q.segment, .bool q.toward, .int .i64 q.start, .int .i64 q.stop, .bool true, .int .i64 r.gap] 106)).drew.cell? ⟨w.heap.size + 3, 0, none⟩ = some (.int .i64 q.ship) ∧ (W0.alloc (.cells #[.int .i64 p.ship, .int .i64 (k : Int), .bool p.toward, .int .i64 p.start, .int .i64 p.stop, .int .i64 q.ship, .int .i64 q.segment, .bool q.toward, .int .i64 q.start, .int .i64 q.stop, .bool true, .int .i64 r.gap] 106)).drew.cell? ⟨w.heap.size + 3, 1, none⟩ = some (.int .i64 q.segment) ∧ (W0.alloc (.cells #[.int .i64 p.ship, .int .i64 (k : Int), .bool p.toward, .int .i64 p.start, .int .i64 p.stop, .int .i64 q.ship, .int .i64 q.segment, .bool q.toward, .int .i64 q.start, .int .i64 q.stop, .bool true, .int .i64 r.gap] 106)).drew.cell? ⟨w.heap.size + 3, 2, none⟩ = some (.bool q.toward) ∧ (W0.alloc (.cells #[.int .i64 p.ship, .int .i64 (k : Int), .bool p.toward, .int .i64 p.start, .int .i64 p.stop, .int .i64 q.ship, .int .i64 q.segment, .bool q.toward, .int .i64 q.start, .int .i64 q.stop, .bool true, .int .i64 r.gap] 106)).drew.cell? ⟨w.heap.size + 3, 3, none⟩ = some (.int .i64 q.start) ∧ (W0.alloc (.cells #[.int .i64 p.ship, .int .i64 (k : Int), .bool p.toward, .int .i64 p.start, .int .i64 p.stop, .int .i64 q.ship, .int .i64 q.segment, .bool q.toward, .int .i64 q.start, .int .i64 q.stop, .bool true, .int .i64 r.gap] 106)).drew.cell? ⟨w.heap.size + 3, 4, none⟩ = some (.int .i64 q.stop) ∧ (W0.alloc (.cells #[.int .i64 p.ship, .int .i64 (k : Int), .bool p.toward, .int .i64 p.start, .int .i64 p.stop, .int .i64 q.ship, .int .i64 q.segment, .bool q.toward, .int .i64 q.start, .int .i64 q.stop, .bool true, .int .i64 r.gap] 106)).drew.cell? ⟨g', o' + k * 5 + 4, none⟩ = some (.bool true) from ⟨cell_onV F0.out BX, cell_onV F1.out BX, cell_onV F2.out BX, cell_onV F3.out BX, cell_onV F4.out BX, cell_onV F5.out BX, cell_onV F6.out BX, cell_onV F7.out BX, cell_onV F8.out BX, cell_onV F9.out BX, cell_onV F10.out BX, cell_onV F11.out BX, cell_onV F12.out BX, cell_onV F13.out BX, cell_onV F14.out BX⟩)
        have KE := Lib.hid (show Blk (W0.alloc (.cells #[.int .i64 p.ship, .int .i64 (k : Int), .bool p.toward, .int .i64 p.start, .int .i64 p.stop, .int .i64 q.ship, .int .i64 q.segment, .bool q.toward, .int .i64 q.start, .int .i64 q.stop, .bool true, .int .i64 r.gap] 106)).drew W0.heap.size #[.int .i64 p.ship, .int .i64 p.segment, .bool p.toward, .int .i64 p.start, .int .i64 p.stop, .int .i64 q.ship, .int .i64 q.segment, .bool q.toward, .int .i64 q.start, .int .i64 q.stop, .bool true, .int .i64 r.gap] 106 from (by rw [HK.out]; exact (Blk.new W0 #[.int .i64 p.ship, .int .i64 (k : Int), .bool p.toward, .int .i64 p.start, .int .i64 p.stop, .int .i64 q.ship, .int .i64 q.segment, .bool q.toward, .int .i64 q.start, .int .i64 q.stop, .bool true, .int .i64 r.gap] 106).below (Below.refl _ (W0.alloc (.cells #[.int .i64 p.ship, .int .i64 (k : Int), .bool p.toward, .int .i64 p.start, .int .i64 p.stop, .int .i64 q.ship, .int .i64 q.segment, .bool q.toward, .int .i64 q.start, .int .i64 q.stop, .bool true, .int .i64 r.gap] 106))).drew))
        have BW := Lib.hid (B.out.trans (BX.mono B.out.size))
        refine hK.out _ _ ?_ (fun hHeld => ?_)
        · (try dsimp only); exact QS.out
        clear hK K BX QS
        (try simp only [Act.put]); (try simp only [List.setIfInBounds_toArray]); (try simp only [List.set_cons_succ]); (try simp only [List.set_cons_zero])
        refine wpAnyH_done (by kernel_rfl) ?_ _
        go_wp2_with fail
        go_meet
        exact ⟨rfl, KE, BW⟩
  case rest =>
    obtain ⟨rfl, hE, hB⟩ := hcut
    obtain ⟨w1, rfl⟩ : ∃ W, W = wc := ⟨_, rfl⟩
    obtain ⟨b, hb⟩ : ∃ b, W0.heap.size = b := ⟨_, rfl⟩
    rw [hb] at hE ⊢
    clear hb B HW0 Kd Kr Kp Kq
    have KE1 := Lib.hid hE.out
    have B1 := Lib.hid hB.out
    clear hE hB
    go_wp2_with fail
    refine (rulesInOrder_any _).mono ?_
    rintro e w2 ⟨rfl, hb2⟩
    have KE2 := Lib.hid (KE1.out.below hb2)
    have B2 := Lib.hid (B1.out.trans (hb2.mono B1.out.size))
    clear hb2 KE1 B1
    go_wp2
    refine wp_loop_rounds 5 ?_
    rw [rounds_succ]
    have ve0 : (w2.alloc (.cells #[.int .i64 1, .func (.func 79) #[] #[]] 109)).cell? ⟨b, 0, none⟩ = some (.int .i64 p.ship) := cell_onV (KE2.out.cell 0) (Joins.below_alloc1 w2 (.cells #[.int .i64 1, .func (.func 79) #[] #[]] 109))
    have ve1 : (w2.alloc (.cells #[.int .i64 1, .func (.func 79) #[] #[]] 109)).cell? ⟨b, 1, none⟩ = some (.int .i64 p.segment) := cell_onV (KE2.out.cell 1) (Joins.below_alloc1 w2 (.cells #[.int .i64 1, .func (.func 79) #[] #[]] 109))
    have ve2 : (w2.alloc (.cells #[.int .i64 1, .func (.func 79) #[] #[]] 109)).cell? ⟨b, 2, none⟩ = some (.bool p.toward) := cell_onV (KE2.out.cell 2) (Joins.below_alloc1 w2 (.cells #[.int .i64 1, .func (.func 79) #[] #[]] 109))
    have ve3 : (w2.alloc (.cells #[.int .i64 1, .func (.func 79) #[] #[]] 109)).cell? ⟨b, 3, none⟩ = some (.int .i64 p.start) := cell_onV (KE2.out.cell 3) (Joins.below_alloc1 w2 (.cells #[.int .i64 1, .func (.func 79) #[] #[]] 109))
    have ve4 : (w2.alloc (.cells #[.int .i64 1, .func (.func 79) #[] #[]] 109)).cell? ⟨b, 4, none⟩ = some (.int .i64 p.stop) := cell_onV (KE2.out.cell 4) (Joins.below_alloc1 w2 (.cells #[.int .i64 1, .func (.func 79) #[] #[]] 109))
    have ve5 : (w2.alloc (.cells #[.int .i64 1, .func (.func 79) #[] #[]] 109)).cell? ⟨b, 5, none⟩ = some (.int .i64 q.ship) := cell_onV (KE2.out.cell 5) (Joins.below_alloc1 w2 (.cells #[.int .i64 1, .func (.func 79) #[] #[]] 109))
    have ve6 : (w2.alloc (.cells #[.int .i64 1, .func (.func 79) #[] #[]] 109)).cell? ⟨b, 6, none⟩ = some (.int .i64 q.segment) := cell_onV (KE2.out.cell 6) (Joins.below_alloc1 w2 (.cells #[.int .i64 1, .func (.func 79) #[] #[]] 109))
    have ve7 : (w2.alloc (.cells #[.int .i64 1, .func (.func 79) #[] #[]] 109)).cell? ⟨b, 7, none⟩ = some (.bool q.toward) := cell_onV (KE2.out.cell 7) (Joins.below_alloc1 w2 (.cells #[.int .i64 1, .func (.func 79) #[] #[]] 109))
    have ve8 : (w2.alloc (.cells #[.int .i64 1, .func (.func 79) #[] #[]] 109)).cell? ⟨b, 8, none⟩ = some (.int .i64 q.start) := cell_onV (KE2.out.cell 8) (Joins.below_alloc1 w2 (.cells #[.int .i64 1, .func (.func 79) #[] #[]] 109))
    have ve9 : (w2.alloc (.cells #[.int .i64 1, .func (.func 79) #[] #[]] 109)).cell? ⟨b, 9, none⟩ = some (.int .i64 q.stop) := cell_onV (KE2.out.cell 9) (Joins.below_alloc1 w2 (.cells #[.int .i64 1, .func (.func 79) #[] #[]] 109))
    have ve10 : (w2.alloc (.cells #[.int .i64 1, .func (.func 79) #[] #[]] 109)).cell? ⟨b, 10, none⟩ = some (.bool mm) := cell_onV (KE2.out.cell 10) (Joins.below_alloc1 w2 (.cells #[.int .i64 1, .func (.func 79) #[] #[]] 109))
    have ve11 : (w2.alloc (.cells #[.int .i64 1, .func (.func 79) #[] #[]] 109)).cell? ⟨b, 11, none⟩ = some (.int .i64 r.gap) := cell_onV (KE2.out.cell 11) (Joins.below_alloc1 w2 (.cells #[.int .i64 1, .func (.func 79) #[] #[]] 109))
    have ix := index_rules0
    go_wp2_with fail
    clear ix
    clear ve0 ve1 ve2 ve3 ve4 ve5 ve6 ve7 ve8 ve9 ve10 ve11
    refine (isTwice_any p q mm r.gap _).mono ?_
    rw [T1.out]
    rintro e w3 ⟨rfl, hbc⟩
    have hb := (Joins.below_alloc1 w2 (.cells #[.int .i64 1, .func (.func 79) #[] #[]] 109)).trans (hbc.mono (by simp))
    have KC := Lib.hid ((Blk.new w2 #[.int .i64 1, .func (.func 79) #[] #[]] 109).below hbc)
    have KE3 := Lib.hid (KE2.out.below hb)
    have B3 := Lib.hid (B2.out.trans (hb.mono B2.out.size))
    clear hb hbc KE2 B2
    have vc0 : w3.cell? ⟨w2.heap.size, 0, none⟩ = some (.int .i64 1) := KC.out.cell 0
    cases t1 with
    | true =>
      have E := Lib.hid (E0.out.trans (show _ = (1 : Int) by simp))
      go_wp2
      go_ret
      exact ⟨ret_int E.out.symm, B3.out⟩
    | false =>
    clear vc0 KC
    go_wp2
    rw [rounds_succ]
    have ve0 : (w3.alloc (.cells #[.int .i64 2, .func (.func 80) #[] #[]] 109)).cell? ⟨b, 0, none⟩ = some (.int .i64 p.ship) := cell_onV (KE3.out.cell 0) (Joins.below_alloc1 w3 (.cells #[.int .i64 2, .func (.func 80) #[] #[]] 109))
    have ve1 : (w3.alloc (.cells #[.int .i64 2, .func (.func 80) #[] #[]] 109)).cell? ⟨b, 1, none⟩ = some (.int .i64 p.segment) := cell_onV (KE3.out.cell 1) (Joins.below_alloc1 w3 (.cells #[.int .i64 2, .func (.func 80) #[] #[]] 109))
    have ve2 : (w3.alloc (.cells #[.int .i64 2, .func (.func 80) #[] #[]] 109)).cell? ⟨b, 2, none⟩ = some (.bool p.toward) := cell_onV (KE3.out.cell 2) (Joins.below_alloc1 w3 (.cells #[.int .i64 2, .func (.func 80) #[] #[]] 109))
    have ve3 : (w3.alloc (.cells #[.int .i64 2, .func (.func 80) #[] #[]] 109)).cell? ⟨b, 3, none⟩ = some (.int .i64 p.start) := cell_onV (KE3.out.cell 3) (Joins.below_alloc1 w3 (.cells #[.int .i64 2, .func (.func 80) #[] #[]] 109))
    have ve4 : (w3.alloc (.cells #[.int .i64 2, .func (.func 80) #[] #[]] 109)).cell? ⟨b, 4, none⟩ = some (.int .i64 p.stop) := cell_onV (KE3.out.cell 4) (Joins.below_alloc1 w3 (.cells #[.int .i64 2, .func (.func 80) #[] #[]] 109))
    have ve5 : (w3.alloc (.cells #[.int .i64 2, .func (.func 80) #[] #[]] 109)).cell? ⟨b, 5, none⟩ = some (.int .i64 q.ship) := cell_onV (KE3.out.cell 5) (Joins.below_alloc1 w3 (.cells #[.int .i64 2, .func (.func 80) #[] #[]] 109))
    have ve6 : (w3.alloc (.cells #[.int .i64 2, .func (.func 80) #[] #[]] 109)).cell? ⟨b, 6, none⟩ = some (.int .i64 q.segment) := cell_onV (KE3.out.cell 6) (Joins.below_alloc1 w3 (.cells #[.int .i64 2, .func (.func 80) #[] #[]] 109))
    have ve7 : (w3.alloc (.cells #[.int .i64 2, .func (.func 80) #[] #[]] 109)).cell? ⟨b, 7, none⟩ = some (.bool q.toward) := cell_onV (KE3.out.cell 7) (Joins.below_alloc1 w3 (.cells #[.int .i64 2, .func (.func 80) #[] #[]] 109))
    have ve8 : (w3.alloc (.cells #[.int .i64 2, .func (.func 80) #[] #[]] 109)).cell? ⟨b, 8, none⟩ = some (.int .i64 q.start) := cell_onV (KE3.out.cell 8) (Joins.below_alloc1 w3 (.cells #[.int .i64 2, .func (.func 80) #[] #[]] 109))
    have ve9 : (w3.alloc (.cells #[.int .i64 2, .func (.func 80) #[] #[]] 109)).cell? ⟨b, 9, none⟩ = some (.int .i64 q.stop) := cell_onV (KE3.out.cell 9) (Joins.below_alloc1 w3 (.cells #[.int .i64 2, .func (.func 80) #[] #[]] 109))
    have ve10 : (w3.alloc (.cells #[.int .i64 2, .func (.func 80) #[] #[]] 109)).cell? ⟨b, 10, none⟩ = some (.bool mm) := cell_onV (KE3.out.cell 10) (Joins.below_alloc1 w3 (.cells #[.int .i64 2, .func (.func 80) #[] #[]] 109))
    have ve11 : (w3.alloc (.cells #[.int .i64 2, .func (.func 80) #[] #[]] 109)).cell? ⟨b, 11, none⟩ = some (.int .i64 r.gap) := cell_onV (KE3.out.cell 11) (Joins.below_alloc1 w3 (.cells #[.int .i64 2, .func (.func 80) #[] #[]] 109))
    have ix := index_rules1
    go_wp2_with fail
    clear ix
    clear ve0 ve1 ve2 ve3 ve4 ve5 ve6 ve7 ve8 ve9 ve10 ve11
    refine (isForbidden_any p q mm r.gap _).mono ?_
    rw [T2.out]
    rintro e w4 ⟨rfl, hbc⟩
    have hb := (Joins.below_alloc1 w3 (.cells #[.int .i64 2, .func (.func 80) #[] #[]] 109)).trans (hbc.mono (by simp))
    have KC := Lib.hid ((Blk.new w3 #[.int .i64 2, .func (.func 80) #[] #[]] 109).below hbc)
    have KE4 := Lib.hid (KE3.out.below hb)
    have B4 := Lib.hid (B3.out.trans (hb.mono B3.out.size))
    clear hb hbc KE3 B3
    have vc0 : w4.cell? ⟨w3.heap.size, 0, none⟩ = some (.int .i64 2) := KC.out.cell 0
    cases t2 with
    | true =>
      have E := Lib.hid (E0.out.trans (show _ = (2 : Int) by simp))
      go_wp2
      go_ret
      exact ⟨ret_int E.out.symm, B4.out⟩
    | false =>
    clear vc0 KC
    go_wp2
    rw [rounds_succ]
    have ve0 : (w4.alloc (.cells #[.int .i64 3, .func (.func 81) #[] #[]] 109)).cell? ⟨b, 0, none⟩ = some (.int .i64 p.ship) := cell_onV (KE4.out.cell 0) (Joins.below_alloc1 w4 (.cells #[.int .i64 3, .func (.func 81) #[] #[]] 109))
    have ve1 : (w4.alloc (.cells #[.int .i64 3, .func (.func 81) #[] #[]] 109)).cell? ⟨b, 1, none⟩ = some (.int .i64 p.segment) := cell_onV (KE4.out.cell 1) (Joins.below_alloc1 w4 (.cells #[.int .i64 3, .func (.func 81) #[] #[]] 109))
    have ve2 : (w4.alloc (.cells #[.int .i64 3, .func (.func 81) #[] #[]] 109)).cell? ⟨b, 2, none⟩ = some (.bool p.toward) := cell_onV (KE4.out.cell 2) (Joins.below_alloc1 w4 (.cells #[.int .i64 3, .func (.func 81) #[] #[]] 109))
    have ve3 : (w4.alloc (.cells #[.int .i64 3, .func (.func 81) #[] #[]] 109)).cell? ⟨b, 3, none⟩ = some (.int .i64 p.start) := cell_onV (KE4.out.cell 3) (Joins.below_alloc1 w4 (.cells #[.int .i64 3, .func (.func 81) #[] #[]] 109))
    have ve4 : (w4.alloc (.cells #[.int .i64 3, .func (.func 81) #[] #[]] 109)).cell? ⟨b, 4, none⟩ = some (.int .i64 p.stop) := cell_onV (KE4.out.cell 4) (Joins.below_alloc1 w4 (.cells #[.int .i64 3, .func (.func 81) #[] #[]] 109))
    have ve5 : (w4.alloc (.cells #[.int .i64 3, .func (.func 81) #[] #[]] 109)).cell? ⟨b, 5, none⟩ = some (.int .i64 q.ship) := cell_onV (KE4.out.cell 5) (Joins.below_alloc1 w4 (.cells #[.int .i64 3, .func (.func 81) #[] #[]] 109))
    have ve6 : (w4.alloc (.cells #[.int .i64 3, .func (.func 81) #[] #[]] 109)).cell? ⟨b, 6, none⟩ = some (.int .i64 q.segment) := cell_onV (KE4.out.cell 6) (Joins.below_alloc1 w4 (.cells #[.int .i64 3, .func (.func 81) #[] #[]] 109))
    have ve7 : (w4.alloc (.cells #[.int .i64 3, .func (.func 81) #[] #[]] 109)).cell? ⟨b, 7, none⟩ = some (.bool q.toward) := cell_onV (KE4.out.cell 7) (Joins.below_alloc1 w4 (.cells #[.int .i64 3, .func (.func 81) #[] #[]] 109))
    have ve8 : (w4.alloc (.cells #[.int .i64 3, .func (.func 81) #[] #[]] 109)).cell? ⟨b, 8, none⟩ = some (.int .i64 q.start) := cell_onV (KE4.out.cell 8) (Joins.below_alloc1 w4 (.cells #[.int .i64 3, .func (.func 81) #[] #[]] 109))
    have ve9 : (w4.alloc (.cells #[.int .i64 3, .func (.func 81) #[] #[]] 109)).cell? ⟨b, 9, none⟩ = some (.int .i64 q.stop) := cell_onV (KE4.out.cell 9) (Joins.below_alloc1 w4 (.cells #[.int .i64 3, .func (.func 81) #[] #[]] 109))
    have ve10 : (w4.alloc (.cells #[.int .i64 3, .func (.func 81) #[] #[]] 109)).cell? ⟨b, 10, none⟩ = some (.bool mm) := cell_onV (KE4.out.cell 10) (Joins.below_alloc1 w4 (.cells #[.int .i64 3, .func (.func 81) #[] #[]] 109))
    have ve11 : (w4.alloc (.cells #[.int .i64 3, .func (.func 81) #[] #[]] 109)).cell? ⟨b, 11, none⟩ = some (.int .i64 r.gap) := cell_onV (KE4.out.cell 11) (Joins.below_alloc1 w4 (.cells #[.int .i64 3, .func (.func 81) #[] #[]] 109))
    have ix := index_rules2
    go_wp2_with fail
    clear ix
    clear ve0 ve1 ve2 ve3 ve4 ve5 ve6 ve7 ve8 ve9 ve10 ve11
    refine (isTooClose_any p q mm r.gap _ Np.out Nq.out HG2.out.1 HG2.out.2).mono ?_
    rw [T3.out]
    rintro e w5 ⟨rfl, hbc⟩
    have hb := (Joins.below_alloc1 w4 (.cells #[.int .i64 3, .func (.func 81) #[] #[]] 109)).trans (hbc.mono (by simp))
    have KC := Lib.hid ((Blk.new w4 #[.int .i64 3, .func (.func 81) #[] #[]] 109).below hbc)
    have KE5 := Lib.hid (KE4.out.below hb)
    have B5 := Lib.hid (B4.out.trans (hb.mono B4.out.size))
    clear hb hbc KE4 B4
    have vc0 : w5.cell? ⟨w4.heap.size, 0, none⟩ = some (.int .i64 3) := KC.out.cell 0
    cases t3 with
    | true =>
      have E := Lib.hid (E0.out.trans (show _ = (3 : Int) by simp))
      go_wp2
      go_ret
      exact ⟨ret_int E.out.symm, B5.out⟩
    | false =>
    clear vc0 KC
    go_wp2
    rw [rounds_succ]
    have ve0 : (w5.alloc (.cells #[.int .i64 4, .func (.func 82) #[] #[]] 109)).cell? ⟨b, 0, none⟩ = some (.int .i64 p.ship) := cell_onV (KE5.out.cell 0) (Joins.below_alloc1 w5 (.cells #[.int .i64 4, .func (.func 82) #[] #[]] 109))
    have ve1 : (w5.alloc (.cells #[.int .i64 4, .func (.func 82) #[] #[]] 109)).cell? ⟨b, 1, none⟩ = some (.int .i64 p.segment) := cell_onV (KE5.out.cell 1) (Joins.below_alloc1 w5 (.cells #[.int .i64 4, .func (.func 82) #[] #[]] 109))
    have ve2 : (w5.alloc (.cells #[.int .i64 4, .func (.func 82) #[] #[]] 109)).cell? ⟨b, 2, none⟩ = some (.bool p.toward) := cell_onV (KE5.out.cell 2) (Joins.below_alloc1 w5 (.cells #[.int .i64 4, .func (.func 82) #[] #[]] 109))
    have ve3 : (w5.alloc (.cells #[.int .i64 4, .func (.func 82) #[] #[]] 109)).cell? ⟨b, 3, none⟩ = some (.int .i64 p.start) := cell_onV (KE5.out.cell 3) (Joins.below_alloc1 w5 (.cells #[.int .i64 4, .func (.func 82) #[] #[]] 109))
    have ve4 : (w5.alloc (.cells #[.int .i64 4, .func (.func 82) #[] #[]] 109)).cell? ⟨b, 4, none⟩ = some (.int .i64 p.stop) := cell_onV (KE5.out.cell 4) (Joins.below_alloc1 w5 (.cells #[.int .i64 4, .func (.func 82) #[] #[]] 109))
    have ve5 : (w5.alloc (.cells #[.int .i64 4, .func (.func 82) #[] #[]] 109)).cell? ⟨b, 5, none⟩ = some (.int .i64 q.ship) := cell_onV (KE5.out.cell 5) (Joins.below_alloc1 w5 (.cells #[.int .i64 4, .func (.func 82) #[] #[]] 109))
    have ve6 : (w5.alloc (.cells #[.int .i64 4, .func (.func 82) #[] #[]] 109)).cell? ⟨b, 6, none⟩ = some (.int .i64 q.segment) := cell_onV (KE5.out.cell 6) (Joins.below_alloc1 w5 (.cells #[.int .i64 4, .func (.func 82) #[] #[]] 109))
    have ve7 : (w5.alloc (.cells #[.int .i64 4, .func (.func 82) #[] #[]] 109)).cell? ⟨b, 7, none⟩ = some (.bool q.toward) := cell_onV (KE5.out.cell 7) (Joins.below_alloc1 w5 (.cells #[.int .i64 4, .func (.func 82) #[] #[]] 109))
    have ve8 : (w5.alloc (.cells #[.int .i64 4, .func (.func 82) #[] #[]] 109)).cell? ⟨b, 8, none⟩ = some (.int .i64 q.start) := cell_onV (KE5.out.cell 8) (Joins.below_alloc1 w5 (.cells #[.int .i64 4, .func (.func 82) #[] #[]] 109))
    have ve9 : (w5.alloc (.cells #[.int .i64 4, .func (.func 82) #[] #[]] 109)).cell? ⟨b, 9, none⟩ = some (.int .i64 q.stop) := cell_onV (KE5.out.cell 9) (Joins.below_alloc1 w5 (.cells #[.int .i64 4, .func (.func 82) #[] #[]] 109))
    have ve10 : (w5.alloc (.cells #[.int .i64 4, .func (.func 82) #[] #[]] 109)).cell? ⟨b, 10, none⟩ = some (.bool mm) := cell_onV (KE5.out.cell 10) (Joins.below_alloc1 w5 (.cells #[.int .i64 4, .func (.func 82) #[] #[]] 109))
    have ve11 : (w5.alloc (.cells #[.int .i64 4, .func (.func 82) #[] #[]] 109)).cell? ⟨b, 11, none⟩ = some (.int .i64 r.gap) := cell_onV (KE5.out.cell 11) (Joins.below_alloc1 w5 (.cells #[.int .i64 4, .func (.func 82) #[] #[]] 109))
    have ix := index_rules3
    go_wp2_with fail
    clear ix
    clear ve0 ve1 ve2 ve3 ve4 ve5 ve6 ve7 ve8 ve9 ve10 ve11
    refine (isPassing_any p q mm r.gap _).mono ?_
    rw [T4.out]
    rintro e w6 ⟨rfl, hbc⟩
    have hb := (Joins.below_alloc1 w5 (.cells #[.int .i64 4, .func (.func 82) #[] #[]] 109)).trans (hbc.mono (by simp))
    have KC := Lib.hid ((Blk.new w5 #[.int .i64 4, .func (.func 82) #[] #[]] 109).below hbc)
    have KE6 := Lib.hid (KE5.out.below hb)
    have B6 := Lib.hid (B5.out.trans (hb.mono B5.out.size))
    clear hb hbc KE5 B5
    have vc0 : w6.cell? ⟨w5.heap.size, 0, none⟩ = some (.int .i64 4) := KC.out.cell 0
    cases t4 with
    | true =>
      have E := Lib.hid (E0.out.trans (show _ = (4 : Int) by simp))
      go_wp2
      go_ret
      exact ⟨ret_int E.out.symm, B6.out⟩
    | false =>
    clear vc0 KC
    go_wp2
    rw [rounds_succ]
    have E := Lib.hid (E0.out.trans (show _ = (0 : Int) by simp))
    go_wp2
    go_ret
    exact ⟨ret_int E.out.symm, B6.out⟩


set_option maxHeartbeats 4000000 in
theorem implConflictOf (yd0 yd1 : Value) (d : ChartD) (r : RegimeD) (p : PassageD) (q : PassageD) (w : World) (rd : RdChart w yd0 yd1 d) (fd : ∀ x ∈ d.points, PointD.wf x) (fp : p.wf) (fq : q.wf) :
    Calls Try.prog 19 #[.agg #[yd0, yd1], r.val, p.val, q.val] w (fun e w' => e = .returned (.int .i64 (confI d r p q)) ∧ Below w.heap.size w w') := by
  have Rd := Lib.hid rd
  obtain ⟨rd0, rd1⟩ := rd
  obtain ⟨Ad0, cd0, rfl⟩ := SlOf.form rd0
  obtain ⟨Ad1, cd1, rfl⟩ := SlOf.form rd1
  have Nd := Lib.hid fd
  clear fd
  clear rd0 rd1
  have Np := Lib.hid fp
  clear fp
  have Nq := Lib.hid fq
  clear fq
  obtain ⟨W0, hW0⟩ : ∃ W0, W0 = ((((w.alloc (.cells #[.slice Ad0 d.points.length cd0, .slice Ad1 d.segs.length cd1] 26)).alloc (.cells #[.int .i64 r.gap, .bool r.noMeet] 28)).alloc (.cells #[.int .i64 p.ship, .int .i64 p.segment, .bool p.toward, .int .i64 p.start, .int .i64 p.stop] 41)).alloc (.cells #[.int .i64 q.ship, .int .i64 q.segment, .bool q.toward, .int .i64 q.start, .int .i64 q.stop] 41)) := ⟨_, rfl⟩
  have B := Lib.hid ((((Joins.below_alloc1 w (.cells #[.slice Ad0 d.points.length cd0, .slice Ad1 d.segs.length cd1] 26)).trans ((Joins.below_alloc1 (w.alloc (.cells #[.slice Ad0 d.points.length cd0, .slice Ad1 d.segs.length cd1] 26)) (.cells #[.int .i64 r.gap, .bool r.noMeet] 28)).mono (by simp; try omega))).trans ((Joins.below_alloc1 ((w.alloc (.cells #[.slice Ad0 d.points.length cd0, .slice Ad1 d.segs.length cd1] 26)).alloc (.cells #[.int .i64 r.gap, .bool r.noMeet] 28)) (.cells #[.int .i64 p.ship, .int .i64 p.segment, .bool p.toward, .int .i64 p.start, .int .i64 p.stop] 41)).mono (by simp; try omega))).trans ((Joins.below_alloc1 (((w.alloc (.cells #[.slice Ad0 d.points.length cd0, .slice Ad1 d.segs.length cd1] 26)).alloc (.cells #[.int .i64 r.gap, .bool r.noMeet] 28)).alloc (.cells #[.int .i64 p.ship, .int .i64 p.segment, .bool p.toward, .int .i64 p.start, .int .i64 p.stop] 41)) (.cells #[.int .i64 q.ship, .int .i64 q.segment, .bool q.toward, .int .i64 q.start, .int .i64 q.stop] 41)).mono (by simp; try omega)))
  have Kd := Lib.hid ((((Blk.new w #[.slice Ad0 d.points.length cd0, .slice Ad1 d.segs.length cd1] 26).below (Joins.below_alloc1 _ (.cells #[.int .i64 r.gap, .bool r.noMeet] 28))).below (Joins.below_alloc1 _ (.cells #[.int .i64 p.ship, .int .i64 p.segment, .bool p.toward, .int .i64 p.start, .int .i64 p.stop] 41))).below (Joins.below_alloc1 _ (.cells #[.int .i64 q.ship, .int .i64 q.segment, .bool q.toward, .int .i64 q.start, .int .i64 q.stop] 41)))
  have Kr := Lib.hid (((Blk.new (w.alloc (.cells #[.slice Ad0 d.points.length cd0, .slice Ad1 d.segs.length cd1] 26)) #[.int .i64 r.gap, .bool r.noMeet] 28).below (Joins.below_alloc1 _ (.cells #[.int .i64 p.ship, .int .i64 p.segment, .bool p.toward, .int .i64 p.start, .int .i64 p.stop] 41))).below (Joins.below_alloc1 _ (.cells #[.int .i64 q.ship, .int .i64 q.segment, .bool q.toward, .int .i64 q.start, .int .i64 q.stop] 41)))
  rw [World.size_alloc] at Kr
  have Kp := Lib.hid ((Blk.new ((w.alloc (.cells #[.slice Ad0 d.points.length cd0, .slice Ad1 d.segs.length cd1] 26)).alloc (.cells #[.int .i64 r.gap, .bool r.noMeet] 28)) #[.int .i64 p.ship, .int .i64 p.segment, .bool p.toward, .int .i64 p.start, .int .i64 p.stop] 41).below (Joins.below_alloc1 _ (.cells #[.int .i64 q.ship, .int .i64 q.segment, .bool q.toward, .int .i64 q.start, .int .i64 q.stop] 41)))
  rw [World.size_alloc, World.size_alloc] at Kp
  have Kq := Lib.hid (Blk.new (((w.alloc (.cells #[.slice Ad0 d.points.length cd0, .slice Ad1 d.segs.length cd1] 26)).alloc (.cells #[.int .i64 r.gap, .bool r.noMeet] 28)).alloc (.cells #[.int .i64 p.ship, .int .i64 p.segment, .bool p.toward, .int .i64 p.start, .int .i64 p.stop] 41)) #[.int .i64 q.ship, .int .i64 q.segment, .bool q.toward, .int .i64 q.start, .int .i64 q.stop] 41)
  rw [World.size_alloc, World.size_alloc, World.size_alloc] at Kq
  have HW0 := Lib.hid hW0
  rw [← hW0] at B Kd Kr Kp Kq
  clear hW0
  obtain ⟨b, hb⟩ : ∃ b, (chartB d && regB r) = b := ⟨_, rfl⟩
  have HB := Lib.hid hb
  cases b with
  | false =>
    have E := Lib.hid (show confI d r p q = 0 from confI_bad (by unfold confPre; rw [hb]; simp))
    clear hb
    go_enter Try.func19, Try.ntmps19
    have vd0 : W0.cell? ⟨w.heap.size, 0, none⟩ = some (.slice Ad0 d.points.length cd0) := Kd.out.cell 0
    have vd1 : W0.cell? ⟨w.heap.size, 1, none⟩ = some (.slice Ad1 d.segs.length cd1) := Kd.out.cell 1
    have vr0 : W0.cell? ⟨w.heap.size + 1, 0, none⟩ = some (.int .i64 r.gap) := Kr.out.cell 0
    have vr1 : W0.cell? ⟨w.heap.size + 1, 1, none⟩ = some (.bool r.noMeet) := Kr.out.cell 1
    have vp0 : W0.cell? ⟨w.heap.size + 2, 0, none⟩ = some (.int .i64 p.ship) := Kp.out.cell 0
    have vp1 : W0.cell? ⟨w.heap.size + 2, 1, none⟩ = some (.int .i64 p.segment) := Kp.out.cell 1
    have vp2 : W0.cell? ⟨w.heap.size + 2, 2, none⟩ = some (.bool p.toward) := Kp.out.cell 2
    have vp3 : W0.cell? ⟨w.heap.size + 2, 3, none⟩ = some (.int .i64 p.start) := Kp.out.cell 3
    have vp4 : W0.cell? ⟨w.heap.size + 2, 4, none⟩ = some (.int .i64 p.stop) := Kp.out.cell 4
    have vq0 : W0.cell? ⟨w.heap.size + 3, 0, none⟩ = some (.int .i64 q.ship) := Kq.out.cell 0
    have vq1 : W0.cell? ⟨w.heap.size + 3, 1, none⟩ = some (.int .i64 q.segment) := Kq.out.cell 1
    have vq2 : W0.cell? ⟨w.heap.size + 3, 2, none⟩ = some (.bool q.toward) := Kq.out.cell 2
    have vq3 : W0.cell? ⟨w.heap.size + 3, 3, none⟩ = some (.int .i64 q.start) := Kq.out.cell 3
    have vq4 : W0.cell? ⟨w.heap.size + 3, 4, none⟩ = some (.int .i64 q.stop) := Kq.out.cell 4
    go_wp2_with fail
    rw [← HW0.out]
    clear vd0 vd1 vr0 vr1 vp0 vp1 vp2 vp3 vp4 vq0 vq1 vq2 vq3 vq4
    refine (hasRules_any _ _ d r _ (Rd.out.below B.out) Nd.out).mono ?_
    rw [HB.out]
    rintro e w1 ⟨rfl, hb1⟩
    have B1 := Lib.hid (B.out.trans (hb1.mono B.out.size))
    have Kd_1 := Lib.hid (Kd.out.below hb1)
    have Kr_1 := Lib.hid (Kr.out.below hb1)
    have Kp_1 := Lib.hid (Kp.out.below hb1)
    have Kq_1 := Lib.hid (Kq.out.below hb1)
    clear hb1
    go_wp2
    go_ret
    exact ⟨ret_int E.out.symm, B1.out⟩
  | true =>
  simp only [Bool.and_eq_true] at hb
  have H1 := Lib.hid hb.1
  have H2 := Lib.hid hb.2
  clear hb
  go_enter Try.func19, Try.ntmps19
  have vd0 : W0.cell? ⟨w.heap.size, 0, none⟩ = some (.slice Ad0 d.points.length cd0) := Kd.out.cell 0
  have vd1 : W0.cell? ⟨w.heap.size, 1, none⟩ = some (.slice Ad1 d.segs.length cd1) := Kd.out.cell 1
  have vr0 : W0.cell? ⟨w.heap.size + 1, 0, none⟩ = some (.int .i64 r.gap) := Kr.out.cell 0
  have vr1 : W0.cell? ⟨w.heap.size + 1, 1, none⟩ = some (.bool r.noMeet) := Kr.out.cell 1
  have vp0 : W0.cell? ⟨w.heap.size + 2, 0, none⟩ = some (.int .i64 p.ship) := Kp.out.cell 0
  have vp1 : W0.cell? ⟨w.heap.size + 2, 1, none⟩ = some (.int .i64 p.segment) := Kp.out.cell 1
  have vp2 : W0.cell? ⟨w.heap.size + 2, 2, none⟩ = some (.bool p.toward) := Kp.out.cell 2
  have vp3 : W0.cell? ⟨w.heap.size + 2, 3, none⟩ = some (.int .i64 p.start) := Kp.out.cell 3
  have vp4 : W0.cell? ⟨w.heap.size + 2, 4, none⟩ = some (.int .i64 p.stop) := Kp.out.cell 4
  have vq0 : W0.cell? ⟨w.heap.size + 3, 0, none⟩ = some (.int .i64 q.ship) := Kq.out.cell 0
  have vq1 : W0.cell? ⟨w.heap.size + 3, 1, none⟩ = some (.int .i64 q.segment) := Kq.out.cell 1
  have vq2 : W0.cell? ⟨w.heap.size + 3, 2, none⟩ = some (.bool q.toward) := Kq.out.cell 2
  have vq3 : W0.cell? ⟨w.heap.size + 3, 3, none⟩ = some (.int .i64 q.start) := Kq.out.cell 3
  have vq4 : W0.cell? ⟨w.heap.size + 3, 4, none⟩ = some (.int .i64 q.stop) := Kq.out.cell 4
  go_wp2_with fail
  rw [← HW0.out]
  clear vd0 vd1 vr0 vr1 vp0 vp1 vp2 vp3 vp4 vq0 vq1 vq2 vq3 vq4
  refine (hasRules_any _ _ d r _ (Rd.out.below B.out) Nd.out).mono ?_
  rw [HB.out]
  rintro e w1 ⟨rfl, hb1⟩
  have B1 := Lib.hid (B.out.trans (hb1.mono B.out.size))
  have Kd_1 := Lib.hid (Kd.out.below hb1)
  have Kr_1 := Lib.hid (Kr.out.below hb1)
  have Kp_1 := Lib.hid (Kp.out.below hb1)
  have Kq_1 := Lib.hid (Kq.out.below hb1)
  clear hb1
  have vd0 : w1.cell? ⟨w.heap.size, 0, none⟩ = some (.slice Ad0 d.points.length cd0) := Kd_1.out.cell 0
  have vd1 : w1.cell? ⟨w.heap.size, 1, none⟩ = some (.slice Ad1 d.segs.length cd1) := Kd_1.out.cell 1
  have vr0 : w1.cell? ⟨w.heap.size + 1, 0, none⟩ = some (.int .i64 r.gap) := Kr_1.out.cell 0
  have vr1 : w1.cell? ⟨w.heap.size + 1, 1, none⟩ = some (.bool r.noMeet) := Kr_1.out.cell 1
  have vp0 : w1.cell? ⟨w.heap.size + 2, 0, none⟩ = some (.int .i64 p.ship) := Kp_1.out.cell 0
  have vp1 : w1.cell? ⟨w.heap.size + 2, 1, none⟩ = some (.int .i64 p.segment) := Kp_1.out.cell 1
  have vp2 : w1.cell? ⟨w.heap.size + 2, 2, none⟩ = some (.bool p.toward) := Kp_1.out.cell 2
  have vp3 : w1.cell? ⟨w.heap.size + 2, 3, none⟩ = some (.int .i64 p.start) := Kp_1.out.cell 3
  have vp4 : w1.cell? ⟨w.heap.size + 2, 4, none⟩ = some (.int .i64 p.stop) := Kp_1.out.cell 4
  have vq0 : w1.cell? ⟨w.heap.size + 3, 0, none⟩ = some (.int .i64 q.ship) := Kq_1.out.cell 0
  have vq1 : w1.cell? ⟨w.heap.size + 3, 1, none⟩ = some (.int .i64 q.segment) := Kq_1.out.cell 1
  have vq2 : w1.cell? ⟨w.heap.size + 3, 2, none⟩ = some (.bool q.toward) := Kq_1.out.cell 2
  have vq3 : w1.cell? ⟨w.heap.size + 3, 3, none⟩ = some (.int .i64 q.start) := Kq_1.out.cell 3
  have vq4 : w1.cell? ⟨w.heap.size + 3, 4, none⟩ = some (.int .i64 q.stop) := Kq_1.out.cell 4
  go_wp2_with fail
  clear vd0 vd1 vr0 vr1 vp0 vp1 vp2 vp3 vp4 vq0 vq1 vq2 vq3 vq4
  refine (between_any _ _ d r p q _ (Rd.out.below B1.out) Nd.out Np.out Nq.out H1.out H2.out).mono ?_
  rintro e w2 ⟨rfl, hb2⟩
  have B2 := Lib.hid (B1.out.trans (hb2.mono B1.out.size))
  have Kd_2 := Lib.hid (Kd_1.out.below hb2)
  have Kr_2 := Lib.hid (Kr_1.out.below hb2)
  have Kp_2 := Lib.hid (Kp_1.out.below hb2)
  have Kq_2 := Lib.hid (Kq_1.out.below hb2)
  clear hb2
  go_wp2
  go_ret
  exact ⟨rfl, B2.out⟩
end Go.Proofs.Ytpglaffmmddcdaa