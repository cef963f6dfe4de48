
/- What ExactSailRoute and ExactFirstSail rests on, part 36: contracts and mathematics. -/
import Derived.Test.YtooeikimoheecaaGreatSf33
import Derived.Test.YtooeikimoheecaaGreatSf34
import Derived.StillTailTactics
import Derived.Deep.DeepCutAuto
namespace Go.Proofs.YtooeikimoheecaaGreat
open Go.RowKit
set_option maxRecDepth 100000
set_option maxHeartbeats 8000000 in
theorem specSailRoute (yf0 yf1 : Value) (f : ForecastD) (yd0 yd1 : Value) (d : ChartD) (s : ShipD) (fr : Int) (yr : Value) (r : List Int) (st : Int) (w : World) (rf : RdForecast w yf0 yf1 f) (rd : RdChart w yd0 yd1 d) (rr : SlInt w yr r) (fd : ∀ x ∈ d.points, PointD.wf x) (fs : s.wf) :
    Calls Tryz.prog 19 #[.agg #[.int .i64 f.mean, yf0, yf1], .agg #[yd0, yd1], s.val, .int .i64 fr, yr, .int .i64 st] w (SailPost (sailO f d s fr r st) w) := by
  have Rf := Lib.hid rf
  obtain ⟨rf0, rf1⟩ := rf
  obtain ⟨Af0, cf0, rfl⟩ := SlOf.form rf0
  obtain ⟨Af1, cf1, rfl⟩ := SlOf.form rf1
  clear rf0 rf1
  have Rd := Lib.hid rd
  obtain ⟨rd0, rd1⟩ := rd
  obtain ⟨Ad0, cd0, rfl⟩ := SlOf.form rd0
  obtain ⟨Ad1, cd1, rfl⟩ := SlOf.form rd1
  have Nd := Lib.hid fd
  clear fd
  clear rd0 rd1
  have Ns := Lib.hid fs
  clear fs
  have Rr := Lib.hid rr
  obtain ⟨Ar, cr, rfl⟩ := SlOf.form rr
  clear rr
  obtain ⟨W0, hW0⟩ : ∃ W0, W0 = (((w.alloc (.cells #[.int .i64 f.mean, .slice Af0 f.parts.length cf0, .slice Af1 f.surges.length cf1] 44)).alloc (.cells #[.slice Ad0 d.points.length cd0, .slice Ad1 d.segs.length cd1] 49)).alloc (.cells #[.string s.name, .int .i64 s.length, .int .i64 s.draught, .int .i64 s.line, .int .i64 s.tugs, .bool s.slow] 65)) := ⟨_, rfl⟩
  have B := Lib.hid (((Joins.below_alloc1 w (.cells #[.int .i64 f.mean, .slice Af0 f.parts.length cf0, .slice Af1 f.surges.length cf1] 44)).trans ((Joins.below_alloc1 (w.alloc (.cells #[.int .i64 f.mean, .slice Af0 f.parts.length cf0, .slice Af1 f.surges.length cf1] 44)) (.cells #[.slice Ad0 d.points.length cd0, .slice Ad1 d.segs.length cd1] 49)).mono (by simp; try omega))).trans ((Joins.below_alloc1 ((w.alloc (.cells #[.int .i64 f.mean, .slice Af0 f.parts.length cf0, .slice Af1 f.surges.length cf1] 44)).alloc (.cells #[.slice Ad0 d.points.length cd0, .slice Ad1 d.segs.length cd1] 49)) (.cells #[.string s.name, .int .i64 s.length, .int .i64 s.draught, .int .i64 s.line, .int .i64 s.tugs, .bool s.slow] 65)).mono (by simp; try omega)))
  have Kf := Lib.hid (((Blk.new w #[.int .i64 f.mean, .slice Af0 f.parts.length cf0, .slice Af1 f.surges.length cf1] 44).below (Joins.below_alloc1 _ (.cells #[.slice Ad0 d.points.length cd0, .slice Ad1 d.segs.length cd1] 49))).below (Joins.below_alloc1 _ (.cells #[.string s.name, .int .i64 s.length, .int .i64 s.draught, .int .i64 s.line, .int .i64 s.tugs, .bool s.slow] 65)))
  have Kd := Lib.hid ((Blk.new (w.alloc (.cells #[.int .i64 f.mean, .slice Af0 f.parts.length cf0, .slice Af1 f.surges.length cf1] 44)) #[.slice Ad0 d.points.length cd0, .slice Ad1 d.segs.length cd1] 49).below (Joins.below_alloc1 _ (.cells #[.string s.name, .int .i64 s.length, .int .i64 s.draught, .int .i64 s.line, .int .i64 s.tugs, .bool s.slow] 65)))
  rw [World.size_alloc] at Kd
  have Ks := Lib.hid (Blk.new ((w.alloc (.cells #[.int .i64 f.mean, .slice Af0 f.parts.length cf0, .slice Af1 f.surges.length cf1] 44)).alloc (.cells #[.slice Ad0 d.points.length cd0, .slice Ad1 d.segs.length cd1] 49)) #[.string s.name, .int .i64 s.length, .int .i64 s.draught, .int .i64 s.line, .int .i64 s.tugs, .bool s.slow] 65)
  rw [World.size_alloc, World.size_alloc] at Ks
  have HW0 := Lib.hid hW0
  rw [← hW0] at B Kf Kd Ks
  clear hW0
  have hdl := Rd.out.2.1
  have hrl := Rr.out.1
  obtain ⟨b1, hb1⟩ : ∃ b, fcB f.mean f.parts f.surges = b := ⟨_, rfl⟩
  have H1 := Lib.hid hb1
  obtain ⟨b2, hb2⟩ : ∃ b, shipB s = b := ⟨_, rfl⟩
  have H2 := Lib.hid hb2
  obtain ⟨b3, hb3⟩ : ∃ b, routeB d fr r = b := ⟨_, rfl⟩
  have H3 := Lib.hid hb3
  obtain ⟨b4, hb4⟩ : ∃ b, ((r.length : Int) == 0) = b := ⟨_, rfl⟩
  have H4 := Lib.hid hb4
  have HP := Lib.hid (show sailPre f d s fr r = (b1 && b2 && b3 && !b4) by unfold sailPre; rw [hb1, hb2, hb3, ← hb4]; congr 2; cases r <;> simp <;> omega)
  clear hb1 hb2 hb3
  cases b1 with
  | false =>
    have E := Lib.hid (sailO_bad (start := st) (HP.out.trans (by simp)))
    clear HP
    go_enter Tryz.func19, Tryz.ntmps19
    have vf0 : W0.cell? ⟨w.heap.size, 0, none⟩ = some (.int .i64 f.mean) := Kf.out.cell 0
    have vf1 : W0.cell? ⟨w.heap.size, 1, none⟩ = some (.slice Af0 f.parts.length cf0) := Kf.out.cell 1
    have vf2 : W0.cell? ⟨w.heap.size, 2, none⟩ = some (.slice Af1 f.surges.length cf1) := Kf.out.cell 2
    have vd0 : W0.cell? ⟨w.heap.size + 1, 0, none⟩ = some (.slice Ad0 d.points.length cd0) := Kd.out.cell 0
    have vd1 : W0.cell? ⟨w.heap.size + 1, 1, none⟩ = some (.slice Ad1 d.segs.length cd1) := Kd.out.cell 1
    have vs0 : W0.cell? ⟨w.heap.size + 2, 0, none⟩ = some (.string s.name) := Ks.out.cell 0
    have vs1 : W0.cell? ⟨w.heap.size + 2, 1, none⟩ = some (.int .i64 s.length) := Ks.out.cell 1
    have vs2 : W0.cell? ⟨w.heap.size + 2, 2, none⟩ = some (.int .i64 s.draught) := Ks.out.cell 2
    have vs3 : W0.cell? ⟨w.heap.size + 2, 3, none⟩ = some (.int .i64 s.line) := Ks.out.cell 3
    have vs4 : W0.cell? ⟨w.heap.size + 2, 4, none⟩ = some (.int .i64 s.tugs) := Ks.out.cell 4
    have vs5 : W0.cell? ⟨w.heap.size + 2, 5, none⟩ = some (.bool s.slow) := Ks.out.cell 5
    go_wp2_with fail
    rw [← HW0.out]
    clear vf0 vf1 vf2 vd0 vd1 vs0 vs1 vs2 vs3 vs4 vs5
    refine (specForecastOk f.mean _ _ f.parts f.surges _ (Rf.out.below B.out).1 (Rf.out.below B.out).2).mono ?_
    rw [H1.out]
    rintro e w1 ⟨rfl, hb1⟩
    have B1 := Lib.hid (B.out.trans (hb1.mono B.out.size))
    have Kf_1 := Lib.hid (Kf.out.below hb1)
    have Kd_1 := Lib.hid (Kd.out.below hb1)
    have Ks_1 := Lib.hid (Ks.out.below hb1)
    clear hb1
    go_wp2
    refine bodyPost_ret (v := .tuple #[.slice none 0 0, .bool false]) (by simp [results, Tryz.results19, go_sem, *]) rfl (SailPost.no E.out B1.out)
  | true =>
  cases b2 with
  | false =>
    have E := Lib.hid (sailO_bad (start := st) (HP.out.trans (by simp)))
    clear HP
    go_enter Tryz.func19, Tryz.ntmps19
    have vf0 : W0.cell? ⟨w.heap.size, 0, none⟩ = some (.int .i64 f.mean) := Kf.out.cell 0
    have vf1 : W0.cell? ⟨w.heap.size, 1, none⟩ = some (.slice Af0 f.parts.length cf0) := Kf.out.cell 1
    have vf2 : W0.cell? ⟨w.heap.size, 2, none⟩ = some (.slice Af1 f.surges.length cf1) := Kf.out.cell 2
    have vd0 : W0.cell? ⟨w.heap.size + 1, 0, none⟩ = some (.slice Ad0 d.points.length cd0) := Kd.out.cell 0
    have vd1 : W0.cell? ⟨w.heap.size + 1, 1, none⟩ = some (.slice Ad1 d.segs.length cd1) := Kd.out.cell 1
    have vs0 : W0.cell? ⟨w.heap.size + 2, 0, none⟩ = some (.string s.name) := Ks.out.cell 0
    have vs1 : W0.cell? ⟨w.heap.size + 2, 1, none⟩ = some (.int .i64 s.length) := Ks.out.cell 1
    have vs2 : W0.cell? ⟨w.heap.size + 2, 2, none⟩ = some (.int .i64 s.draught) := Ks.out.cell 2
    have vs3 : W0.cell? ⟨w.heap.size + 2, 3, none⟩ = some (.int .i64 s.line) := Ks.out.cell 3
    have vs4 : W0.cell? ⟨w.heap.size + 2, 4, none⟩ = some (.int .i64 s.tugs) := Ks.out.cell 4
    have vs5 : W0.cell? ⟨w.heap.size + 2, 5, none⟩ = some (.bool s.slow) := Ks.out.cell 5
    go_wp2_with fail
    rw [← HW0.out]
    clear vf0 vf1 vf2 vd0 vd1 vs0 vs1 vs2 vs3 vs4 vs5
    refine (specForecastOk f.mean _ _ f.parts f.surges _ (Rf.out.below B.out).1 (Rf.out.below B.out).2).mono ?_
    rw [H1.out]
    rintro e w1 ⟨rfl, hb1⟩
    have B1 := Lib.hid (B.out.trans (hb1.mono B.out.size))
    have Kf_1 := Lib.hid (Kf.out.below hb1)
    have Kd_1 := Lib.hid (Kd.out.below hb1)
    have Ks_1 := Lib.hid (Ks.out.below hb1)
    clear hb1
    have vf0 : w1.cell? ⟨w.heap.size, 0, none⟩ = some (.int .i64 f.mean) := Kf_1.out.cell 0
    have vf1 : w1.cell? ⟨w.heap.size, 1, none⟩ = some (.slice Af0 f.parts.length cf0) := Kf_1.out.cell 1
    have vf2 : w1.cell? ⟨w.heap.size, 2, none⟩ = some (.slice Af1 f.surges.length cf1) := Kf_1.out.cell 2
    have vd0 : w1.cell? ⟨w.heap.size + 1, 0, none⟩ = some (.slice Ad0 d.points.length cd0) := Kd_1.out.cell 0
    have vd1 : w1.cell? ⟨w.heap.size + 1, 1, none⟩ = some (.slice Ad1 d.segs.length cd1) := Kd_1.out.cell 1
    have vs0 : w1.cell? ⟨w.heap.size + 2, 0, none⟩ = some (.string s.name) := Ks_1.out.cell 0
    have vs1 : w1.cell? ⟨w.heap.size + 2, 1, none⟩ = some (.int .i64 s.length) := Ks_1.out.cell 1
    have vs2 : w1.cell? ⟨w.heap.size + 2, 2, none⟩ = some (.int .i64 s.draught) := Ks_1.out.cell 2
    have vs3 : w1.cell? ⟨w.heap.size + 2, 3, none⟩ = some (.int .i64 s.line) := Ks_1.out.cell 3
    have vs4 : w1.cell? ⟨w.heap.size + 2, 4, none⟩ = some (.int .i64 s.tugs) := Ks_1.out.cell 4
    have vs5 : w1.cell? ⟨w.heap.size + 2, 5, none⟩ = some (.bool s.slow) := Ks_1.out.cell 5
    go_wp2_with fail
    clear vf0 vf1 vf2 vd0 vd1 vs0 vs1 vs2 vs3 vs4 vs5
    refine (specShipOk s _ Ns.out).mono ?_
    rw [H2.out]
    rintro e w2 ⟨rfl, hb2⟩
    have B2 := Lib.hid (B1.out.trans (hb2.mono B1.out.size))
    have Kf_2 := Lib.hid (Kf_1.out.below hb2)
    have Kd_2 := Lib.hid (Kd_1.out.below hb2)
    have Ks_2 := Lib.hid (Ks_1.out.below hb2)
    clear hb2
    go_wp2
    refine bodyPost_ret (v := .tuple #[.slice none 0 0, .bool false]) (by simp [results, Tryz.results19, go_sem, *]) rfl (SailPost.no E.out B2.out)
  | true =>
  cases b3 with
  | false =>
    have E := Lib.hid (sailO_bad (start := st) (HP.out.trans (by simp)))
    clear HP
    go_enter Tryz.func19, Tryz.ntmps19
    have vf0 : W0.cell? ⟨w.heap.size, 0, none⟩ = some (.int .i64 f.mean) := Kf.out.cell 0
    have vf1 : W0.cell? ⟨w.heap.size, 1, none⟩ = some (.slice Af0 f.parts.length cf0) := Kf.out.cell 1
    have vf2 : W0.cell? ⟨w.heap.size, 2, none⟩ = some (.slice Af1 f.surges.length cf1) := Kf.out.cell 2
    have vd0 : W0.cell? ⟨w.heap.size + 1, 0, none⟩ = some (.slice Ad0 d.points.length cd0) := Kd.out.cell 0
    have vd1 : W0.cell? ⟨w.heap.size + 1, 1, none⟩ = some (.slice Ad1 d.segs.length cd1) := Kd.out.cell 1
    have vs0 : W0.cell? ⟨w.heap.size + 2, 0, none⟩ = some (.string s.name) := Ks.out.cell 0
    have vs1 : W0.cell? ⟨w.heap.size + 2, 1, none⟩ = some (.int .i64 s.length) := Ks.out.cell 1
    have vs2 : W0.cell? ⟨w.heap.size + 2, 2, none⟩ = some (.int .i64 s.draught) := Ks.out.cell 2
    have vs3 : W0.cell? ⟨w.heap.size + 2, 3, none⟩ = some (.int .i64 s.line) := Ks.out.cell 3
    have vs4 : W0.cell? ⟨w.heap.size + 2, 4, none⟩ = some (.int .i64 s.tugs) := Ks.out.cell 4
    have vs5 : W0.cell? ⟨w.heap.size + 2, 5, none⟩ = some (.bool s.slow) := Ks.out.cell 5
    go_wp2_with fail
    rw [← HW0.out]
    clear vf0 vf1 vf2 vd0 vd1 vs0 vs1 vs2 vs3 vs4 vs5
    refine (specForecastOk f.mean _ _ f.parts f.surges _ (Rf.out.below B.out).1 (Rf.out.below B.out).2).mono ?_
    rw [H1.out]
    rintro e w1 ⟨rfl, hb1⟩
    have B1 := Lib.hid (B.out.trans (hb1.mono B.out.size))
    have Kf_1 := Lib.hid (Kf.out.below hb1)
    have Kd_1 := Lib.hid (Kd.out.below hb1)
    have Ks_1 := Lib.hid (Ks.out.below hb1)
    clear hb1
    have vf0 : w1.cell? ⟨w.heap.size, 0, none⟩ = some (.int .i64 f.mean) := Kf_1.out.cell 0
    have vf1 : w1.cell? ⟨w.heap.size, 1, none⟩ = some (.slice Af0 f.parts.length cf0) := Kf_1.out.cell 1
    have vf2 : w1.cell? ⟨w.heap.size, 2, none⟩ = some (.slice Af1 f.surges.length cf1) := Kf_1.out.cell 2
    have vd0 : w1.cell? ⟨w.heap.size + 1, 0, none⟩ = some (.slice Ad0 d.points.length cd0) := Kd_1.out.cell 0
    have vd1 : w1.cell? ⟨w.heap.size + 1, 1, none⟩ = some (.slice Ad1 d.segs.length cd1) := Kd_1.out.cell 1
    have vs0 : w1.cell? ⟨w.heap.size + 2, 0, none⟩ = some (.string s.name) := Ks_1.out.cell 0
    have vs1 : w1.cell? ⟨w.heap.size + 2, 1, none⟩ = some (.int .i64 s.length) := Ks_1.out.cell 1
    have vs2 : w1.cell? ⟨w.heap.size + 2, 2, none⟩ = some (.int .i64 s.draught) := Ks_1.out.cell 2
    have vs3 : w1.cell? ⟨w.heap.size + 2, 3, none⟩ = some (.int .i64 s.line) := Ks_1.out.cell 3
    have vs4 : w1.cell? ⟨w.heap.size + 2, 4, none⟩ = some (.int .i64 s.tugs) := Ks_1.out.cell 4
    have vs5 : w1.cell? ⟨w.heap.size + 2, 5, none⟩ = some (.bool s.slow) := Ks_1.out.cell 5
    go_wp2_with fail
    clear vf0 vf1 vf2 vd0 vd1 vs0 vs1 vs2 vs3 vs4 vs5
    refine (specShipOk s _ Ns.out).mono ?_
    rw [H2.out]
    rintro e w2 ⟨rfl, hb2⟩
    have B2 := Lib.hid (B1.out.trans (hb2.mono B1.out.size))
    have Kf_2 := Lib.hid (Kf_1.out.below hb2)
    have Kd_2 := Lib.hid (Kd_1.out.below hb2)
    have Ks_2 := Lib.hid (Ks_1.out.below hb2)
    clear hb2
    have vf0 : w2.cell? ⟨w.heap.size, 0, none⟩ = some (.int .i64 f.mean) := Kf_2.out.cell 0
    have vf1 : w2.cell? ⟨w.heap.size, 1, none⟩ = some (.slice Af0 f.parts.length cf0) := Kf_2.out.cell 1
    have vf2 : w2.cell? ⟨w.heap.size, 2, none⟩ = some (.slice Af1 f.surges.length cf1) := Kf_2.out.cell 2
    have vd0 : w2.cell? ⟨w.heap.size + 1, 0, none⟩ = some (.slice Ad0 d.points.length cd0) := Kd_2.out.cell 0
    have vd1 : w2.cell? ⟨w.heap.size + 1, 1, none⟩ = some (.slice Ad1 d.segs.length cd1) := Kd_2.out.cell 1
    have vs0 : w2.cell? ⟨w.heap.size + 2, 0, none⟩ = some (.string s.name) := Ks_2.out.cell 0
    have vs1 : w2.cell? ⟨w.heap.size + 2, 1, none⟩ = some (.int .i64 s.length) := Ks_2.out.cell 1
    have vs2 : w2.cell? ⟨w.heap.size + 2, 2, none⟩ = some (.int .i64 s.draught) := Ks_2.out.cell 2
    have vs3 : w2.cell? ⟨w.heap.size + 2, 3, none⟩ = some (.int .i64 s.line) := Ks_2.out.cell 3
    have vs4 : w2.cell? ⟨w.heap.size + 2, 4, none⟩ = some (.int .i64 s.tugs) := Ks_2.out.cell 4
    have vs5 : w2.cell? ⟨w.heap.size + 2, 5, none⟩ = some (.bool s.slow) := Ks_2.out.cell 5
    go_wp2_with fail
    clear vf0 vf1 vf2 vd0 vd1 vs0 vs1 vs2 vs3 vs4 vs5
    refine (specRouteOk _ _ d fr _ r _ (Rd.out.below B2.out) (Rr.out.below B2.out) Nd.out).mono ?_
    rw [H3.out]
    rintro e w3 ⟨rfl, hb3⟩
    have B3 := Lib.hid (B2.out.trans (hb3.mono B2.out.size))
    have Kf_3 := Lib.hid (Kf_2.out.below hb3)
    have Kd_3 := Lib.hid (Kd_2.out.below hb3)
    have Ks_3 := Lib.hid (Ks_2.out.below hb3)
    clear hb3
    go_wp2
    refine bodyPost_ret (v := .tuple #[.slice none 0 0, .bool false]) (by simp [results, Tryz.results19, go_sem, *]) rfl (SailPost.no E.out B3.out)
  | true =>
  cases b4 with
  | true =>
    have E := Lib.hid (sailO_bad (start := st) (HP.out.trans (by simp)))
    clear HP
    go_enter Tryz.func19, Tryz.ntmps19
    have vf0 : W0.cell? ⟨w.heap.size, 0, none⟩ = some (.int .i64 f.mean) := Kf.out.cell 0
    have vf1 : W0.cell? ⟨w.heap.size, 1, none⟩ = some (.slice Af0 f.parts.length cf0) := Kf.out.cell 1
    have vf2 : W0.cell? ⟨w.heap.size, 2, none⟩ = some (.slice Af1 f.surges.length cf1) := Kf.out.cell 2
    have vd0 : W0.cell? ⟨w.heap.size + 1, 0, none⟩ = some (.slice Ad0 d.points.length cd0) := Kd.out.cell 0
    have vd1 : W0.cell? ⟨w.heap.size + 1, 1, none⟩ = some (.slice Ad1 d.segs.length cd1) := Kd.out.cell 1
    have vs0 : W0.cell? ⟨w.heap.size + 2, 0, none⟩ = some (.string s.name) := Ks.out.cell 0
    have vs1 : W0.cell? ⟨w.heap.size + 2, 1, none⟩ = some (.int .i64 s.length) := Ks.out.cell 1
    have vs2 : W0.cell? ⟨w.heap.size + 2, 2, none⟩ = some (.int .i64 s.draught) := Ks.out.cell 2
    have vs3 : W0.cell? ⟨w.heap.size + 2, 3, none⟩ = some (.int .i64 s.line) := Ks.out.cell 3
    have vs4 : W0.cell? ⟨w.heap.size + 2, 4, none⟩ = some (.int .i64 s.tugs) := Ks.out.cell 4
    have vs5 : W0.cell? ⟨w.heap.size + 2, 5, none⟩ = some (.bool s.slow) := Ks.out.cell 5
    go_wp2_with fail
    rw [← HW0.out]
    clear vf0 vf1 vf2 vd0 vd1 vs0 vs1 vs2 vs3 vs4 vs5
    refine (specForecastOk f.mean _ _ f.parts f.surges _ (Rf.out.below B.out).1 (Rf.out.below B.out).2).mono ?_
    rw [H1.out]
    rintro e w1 ⟨rfl, hb1⟩
    have B1 := Lib.hid (B.out.trans (hb1.mono B.out.size))
    have Kf_1 := Lib.hid (Kf.out.below hb1)
    have Kd_1 := Lib.hid (Kd.out.below hb1)
    have Ks_1 := Lib.hid (Ks.out.below hb1)
    clear hb1
    have vf0 : w1.cell? ⟨w.heap.size, 0, none⟩ = some (.int .i64 f.mean) := Kf_1.out.cell 0
    have vf1 : w1.cell? ⟨w.heap.size, 1, none⟩ = some (.slice Af0 f.parts.length cf0) := Kf_1.out.cell 1
    have vf2 : w1.cell? ⟨w.heap.size, 2, none⟩ = some (.slice Af1 f.surges.length cf1) := Kf_1.out.cell 2
    have vd0 : w1.cell? ⟨w.heap.size + 1, 0, none⟩ = some (.slice Ad0 d.points.length cd0) := Kd_1.out.cell 0
    have vd1 : w1.cell? ⟨w.heap.size + 1, 1, none⟩ = some (.slice Ad1 d.segs.length cd1) := Kd_1.out.cell 1
    have vs0 : w1.cell? ⟨w.heap.size + 2, 0, none⟩ = some (.string s.name) := Ks_1.out.cell 0
    have vs1 : w1.cell? ⟨w.heap.size + 2, 1, none⟩ = some (.int .i64 s.length) := Ks_1.out.cell 1
    have vs2 : w1.cell? ⟨w.heap.size + 2, 2, none⟩ = some (.int .i64 s.draught) := Ks_1.out.cell 2
    have vs3 : w1.cell? ⟨w.heap.size + 2, 3, none⟩ = some (.int .i64 s.line) := Ks_1.out.cell 3
    have vs4 : w1.cell? ⟨w.heap.size + 2, 4, none⟩ = some (.int .i64 s.tugs) := Ks_1.out.cell 4
    have vs5 : w1.cell? ⟨w.heap.size + 2, 5, none⟩ = some (.bool s.slow) := Ks_1.out.cell 5
    go_wp2_with fail
    clear vf0 vf1 vf2 vd0 vd1 vs0 vs1 vs2 vs3 vs4 vs5
    refine (specShipOk s _ Ns.out).mono ?_
    rw [H2.out]
    rintro e w2 ⟨rfl, hb2⟩
    have B2 := Lib.hid (B1.out.trans (hb2.mono B1.out.size))
    have Kf_2 := Lib.hid (Kf_1.out.below hb2)
    have Kd_2 := Lib.hid (Kd_1.out.below hb2)
    have Ks_2 := Lib.hid (Ks_1.out.below hb2)
    clear hb2
    have vf0 : w2.cell? ⟨w.heap.size, 0, none⟩ = some (.int .i64 f.mean) := Kf_2.out.cell 0
    have vf1 : w2.cell? ⟨w.heap.size, 1, none⟩ = some (.slice Af0 f.parts.length cf0) := Kf_2.out.cell 1
    have vf2 : w2.cell? ⟨w.heap.size, 2, none⟩ = some (.slice Af1 f.surges.length cf1) := Kf_2.out.cell 2
    have vd0 : w2.cell? ⟨w.heap.size + 1, 0, none⟩ = some (.slice Ad0 d.points.length cd0) := Kd_2.out.cell 0
    have vd1 : w2.cell? ⟨w.heap.size + 1, 1, none⟩ = some (.slice Ad1 d.segs.length cd1) := Kd_2.out.cell 1
    have vs0 : w2.cell? ⟨w.heap.size + 2, 0, none⟩ = some (.string s.name) := Ks_2.out.cell 0
    have vs1 : w2.cell? ⟨w.heap.size + 2, 1, none⟩ = some (.int .i64 s.length) := Ks_2.out.cell 1
    have vs2 : w2.cell? ⟨w.heap.size + 2, 2, none⟩ = some (.int .i64 s.draught) := Ks_2.out.cell 2
    have vs3 : w2.cell? ⟨w.heap.size + 2, 3, none⟩ = some (.int .i64 s.line) := Ks_2.out.cell 3
    have vs4 : w2.cell? ⟨w.heap.size + 2, 4, none⟩ = some (.int .i64 s.tugs) := Ks_2.out.cell 4
    have vs5 : w2.cell? ⟨w.heap.size + 2, 5, none⟩ = some (.bool s.slow) := Ks_2.out.cell 5
    go_wp2_with fail
    clear vf0 vf1 vf2 vd0 vd1 vs0 vs1 vs2 vs3 vs4 vs5
    refine (specRouteOk _ _ d fr _ r _ (Rd.out.below B2.out) (Rr.out.below B2.out) Nd.out).mono ?_
    rw [H3.out]
    rintro e w3 ⟨rfl, hb3⟩
    have B3 := Lib.hid (B2.out.trans (hb3.mono B2.out.size))
    have Kf_3 := Lib.hid (Kf_2.out.below hb3)
    have Kd_3 := Lib.hid (Kd_2.out.below hb3)
    have Ks_3 := Lib.hid (Ks_2.out.below hb3)
    clear hb3
    go_wp2
    refine bodyPost_ret (v := .tuple #[.slice none 0 0, .bool false]) (by simp [results, Tryz.results19, go_sem, *]) rfl (SailPost.no E.out B3.out)
  | false =>
  have HPP := Lib.hid (show sailPre f d s fr r = true from HP.out.trans (by simp))
  have HFEW := Lib.hid (rte_few H3.out)
  obtain ⟨pts, hpts⟩ : ∃ p, rteL d fr r = p := ⟨_, rfl⟩
  have HPT := Lib.hid hpts
  rw [hpts] at HFEW
  clear HP hpts
  go_enter Tryz.func19, Tryz.ntmps19
  have vf0 : W0.cell? ⟨w.heap.size, 0, none⟩ = some (.int .i64 f.mean) := Kf.out.cell 0
  have vf1 : W0.cell? ⟨w.heap.size, 1, none⟩ = some (.slice Af0 f.parts.length cf0) := Kf.out.cell 1
  have vf2 : W0.cell? ⟨w.heap.size, 2, none⟩ = some (.slice Af1 f.surges.length cf1) := Kf.out.cell 2
  have vd0 : W0.cell? ⟨w.heap.size + 1, 0, none⟩ = some (.slice Ad0 d.points.length cd0) := Kd.out.cell 0
  have vd1 : W0.cell? ⟨w.heap.size + 1, 1, none⟩ = some (.slice Ad1 d.segs.length cd1) := Kd.out.cell 1
  have vs0 : W0.cell? ⟨w.heap.size + 2, 0, none⟩ = some (.string s.name) := Ks.out.cell 0
  have vs1 : W0.cell? ⟨w.heap.size + 2, 1, none⟩ = some (.int .i64 s.length) := Ks.out.cell 1
  have vs2 : W0.cell? ⟨w.heap.size + 2, 2, none⟩ = some (.int .i64 s.draught) := Ks.out.cell 2
  have vs3 : W0.cell? ⟨w.heap.size + 2, 3, none⟩ = some (.int .i64 s.line) := Ks.out.cell 3
  have vs4 : W0.cell? ⟨w.heap.size + 2, 4, none⟩ = some (.int .i64 s.tugs) := Ks.out.cell 4
  have vs5 : W0.cell? ⟨w.heap.size + 2, 5, none⟩ = some (.bool s.slow) := Ks.out.cell 5
  go_wp2_with fail
  rw [← HW0.out]
  clear vf0 vf1 vf2 vd0 vd1 vs0 vs1 vs2 vs3 vs4 vs5
  refine (specForecastOk f.mean _ _ f.parts f.surges _ (Rf.out.below B.out).1 (Rf.out.below B.out).2).mono ?_
  rw [H1.out]
  rintro e w1 ⟨rfl, hb1⟩
  have B1 := Lib.hid (B.out.trans (hb1.mono B.out.size))
  have Kf_1 := Lib.hid (Kf.out.below hb1)
  have Kd_1 := Lib.hid (Kd.out.below hb1)
  have Ks_1 := Lib.hid (Ks.out.below hb1)
  clear hb1
  have vf0 : w1.cell? ⟨w.heap.size, 0, none⟩ = some (.int .i64 f.mean) := Kf_1.out.cell 0
  have vf1 : w1.cell? ⟨w.heap.size, 1, none⟩ = some (.slice Af0 f.parts.length cf0) := Kf_1.out.cell 1
  have vf2 : w1.cell? ⟨w.heap.size, 2, none⟩ = some (.slice Af1 f.surges.length cf1) := Kf_1.out.cell 2
  have vd0 : w1.cell? ⟨w.heap.size + 1, 0, none⟩ = some (.slice Ad0 d.points.length cd0) := Kd_1.out.cell 0
  have vd1 : w1.cell? ⟨w.heap.size + 1, 1, none⟩ = some (.slice Ad1 d.segs.length cd1) := Kd_1.out.cell 1
  have vs0 : w1.cell? ⟨w.heap.size + 2, 0, none⟩ = some (.string s.name) := Ks_1.out.cell 0
  have vs1 : w1.cell? ⟨w.heap.size + 2, 1, none⟩ = some (.int .i64 s.length) := Ks_1.out.cell 1
  have vs2 : w1.cell? ⟨w.heap.size + 2, 2, none⟩ = some (.int .i64 s.draught) := Ks_1.out.cell 2
  have vs3 : w1.cell? ⟨w.heap.size + 2, 3, none⟩ = some (.int .i64 s.line) := Ks_1.out.cell 3
  have vs4 : w1.cell? ⟨w.heap.size + 2, 4, none⟩ = some (.int .i64 s.tugs) := Ks_1.out.cell 4
  have vs5 : w1.cell? ⟨w.heap.size + 2, 5, none⟩ = some (.bool s.slow) := Ks_1.out.cell 5
  go_wp2_with fail
  clear vf0 vf1 vf2 vd0 vd1 vs0 vs1 vs2 vs3 vs4 vs5
  refine (specShipOk s _ Ns.out).mono ?_
  rw [H2.out]
  rintro e w2 ⟨rfl, hb2⟩
  have B2 := Lib.hid (B1.out.trans (hb2.mono B1.out.size))
  have Kf_2 := Lib.hid (Kf_1.out.below hb2)
  have Kd_2 := Lib.hid (Kd_1.out.below hb2)
  have Ks_2 := Lib.hid (Ks_1.out.below hb2)
  clear hb2
  have vf0 : w2.cell? ⟨w.heap.size, 0, none⟩ = some (.int .i64 f.mean) := Kf_2.out.cell 0
  have vf1 : w2.cell? ⟨w.heap.size, 1, none⟩ = some (.slice Af0 f.parts.length cf0) := Kf_2.out.cell 1
  have vf2 : w2.cell? ⟨w.heap.size, 2, none⟩ = some (.slice Af1 f.surges.length cf1) := Kf_2.out.cell 2
  have vd0 : w2.cell? ⟨w.heap.size + 1, 0, none⟩ = some (.slice Ad0 d.points.length cd0) := Kd_2.out.cell 0
  have vd1 : w2.cell? ⟨w.heap.size + 1, 1, none⟩ = some (.slice Ad1 d.segs.length cd1) := Kd_2.out.cell 1
  have vs0 : w2.cell? ⟨w.heap.size + 2, 0, none⟩ = some (.string s.name) := Ks_2.out.cell 0
  have vs1 : w2.cell? ⟨w.heap.size + 2, 1, none⟩ = some (.int .i64 s.length) := Ks_2.out.cell 1
  have vs2 : w2.cell? ⟨w.heap.size + 2, 2, none⟩ = some (.int .i64 s.draught) := Ks_2.out.cell 2
  have vs3 : w2.cell? ⟨w.heap.size + 2, 3, none⟩ = some (.int .i64 s.line) := Ks_2.out.cell 3
  have vs4 : w2.cell? ⟨w.heap.size + 2, 4, none⟩ = some (.int .i64 s.tugs) := Ks_2.out.cell 4
  have vs5 : w2.cell? ⟨w.heap.size + 2, 5, none⟩ = some (.bool s.slow) := Ks_2.out.cell 5
  go_wp2_with fail
  clear vf0 vf1 vf2 vd0 vd1 vs0 vs1 vs2 vs3 vs4 vs5
  refine (specRouteOk _ _ d fr _ r _ (Rd.out.below B2.out) (Rr.out.below B2.out) Nd.out).mono ?_
  rw [H3.out]
  rintro e w3 ⟨rfl, hb3⟩
  have B3 := Lib.hid (B2.out.trans (hb3.mono B2.out.size))
  have Kf_3 := Lib.hid (Kf_2.out.below hb3)
  have Kd_3 := Lib.hid (Kd_2.out.below hb3)
  have Ks_3 := Lib.hid (Ks_2.out.below hb3)
  clear hb3
  have Ff0 := Lib.hid (show w3.cell? ⟨w.heap.size, 0, none⟩ = some (.int .i64 f.mean) from Kf_3.out.cell 0)
  have Ff1 := Lib.hid (show w3.cell? ⟨w.heap.size, 1, none⟩ = some (.slice Af0 f.parts.length cf0) from Kf_3.out.cell 1)
  have Ff2 := Lib.hid (show w3.cell? ⟨w.heap.size, 2, none⟩ = some (.slice Af1 f.surges.length cf1) from Kf_3.out.cell 2)
  have Fd0 := Lib.hid (show w3.cell? ⟨w.heap.size + 1, 0, none⟩ = some (.slice Ad0 d.points.length cd0) from Kd_3.out.cell 0)
  have Fd1 := Lib.hid (show w3.cell? ⟨w.heap.size + 1, 1, none⟩ = some (.slice Ad1 d.segs.length cd1) from Kd_3.out.cell 1)
  have Fs0 := Lib.hid (show w3.cell? ⟨w.heap.size + 2, 0, none⟩ = some (.string s.name) from Ks_3.out.cell 0)
  have Fs1 := Lib.hid (show w3.cell? ⟨w.heap.size + 2, 1, none⟩ = some (.int .i64 s.length) from Ks_3.out.cell 1)
  have Fs2 := Lib.hid (show w3.cell? ⟨w.heap.size + 2, 2, none⟩ = some (.int .i64 s.draught) from Ks_3.out.cell 2)
  have Fs3 := Lib.hid (show w3.cell? ⟨w.heap.size + 2, 3, none⟩ = some (.int .i64 s.line) from Ks_3.out.cell 3)
  have Fs4 := Lib.hid (show w3.cell? ⟨w.heap.size + 2, 4, none⟩ = some (.int .i64 s.tugs) from Ks_3.out.cell 4)
  have Fs5 := Lib.hid (show w3.cell? ⟨w.heap.size + 2, 5, none⟩ = some (.bool s.slow) from Ks_3.out.cell 5)
  have DD := Lib.hid ((Below.refl w3.heap.size w3).drew)
  have vFf0 := Ff0.out
  have vFf1 := Ff1.out
  have vFf2 := Ff2.out
  have vFd0 := Fd0.out
  have vFd1 := Fd1.out
  have vFs0 := Fs0.out
  have vFs1 := Fs1.out
  have vFs2 := Fs2.out
  have vFs3 := Fs3.out
  have vFs4 := Fs4.out
  have vFs5 := Fs5.out
  go_upto_region 3 with fail
  refine wp_region_held_drew (S := (fun w' => w'.cell? ⟨w.heap.size, 0, none⟩ = some (.int .i64 f.mean) ∧ w'.cell? ⟨w.heap.size, 1, none⟩ = some (.slice Af0 f.parts.length cf0) ∧ w'.cell? ⟨w.heap.size, 2, none⟩ = some (.slice Af1 f.surges.length cf1) ∧ w'.cell? ⟨w.heap.size + 1, 0, none⟩ = some (.slice Ad0 d.points.length cd0) ∧ w'.cell? ⟨w.heap.size + 1, 1, none⟩ = some (.slice Ad1 d.segs.length cd1) ∧ w'.cell? ⟨w.heap.size + 2, 0, none⟩ = some (.string s.name) ∧ w'.cell? ⟨w.heap.size + 2, 1, none⟩ = some (.int .i64 s.length) ∧ w'.cell? ⟨w.heap.size + 2, 2, none⟩ = some (.int .i64 s.draught) ∧ w'.cell? ⟨w.heap.size + 2, 3, none⟩ = some (.int .i64 s.line) ∧ w'.cell? ⟨w.heap.size + 2, 4, none⟩ = some (.int .i64 s.tugs) ∧ w'.cell? ⟨w.heap.size + 2, 5, none⟩ = some (.bool s.slow) ∧ Hid (Below w3.heap.size w3 w'))) (by kernel_rfl) ?_ (fun hHeld => ?_)
  · (try dsimp only); go_keep
  refine wpAnyH_take (i := 0) (v := ?_) (by simp only [List.getElem?_toArray, List.getElem?_cons_zero]; rfl) (by kernel_rfl) (by kernel_rfl) (by kernel_rfl) (by exact fun _ _ _ h => h) (Or.inl ⟨by rfl, ?_⟩) (by assumption) ?_; rotate_left; focus (intro w hSw; (try dsimp only at hSw); first | (go_simp; done) | (go_simp; with_reducible rfl))
  try simp only [Act.put, List.setIfInBounds_toArray, List.set_cons_zero, List.set_cons_succ]
  refine wpAnyH_take (i := 1) (v := ?_) (by simp only [List.getElem?_toArray, List.getElem?_cons_succ, List.getElem?_cons_zero]; rfl) (by kernel_rfl) (by kernel_rfl) (by kernel_rfl) (by exact fun _ _ _ h => h) (Or.inl ⟨by rfl, ?_⟩) (by assumption) ?_; rotate_left; focus (intro w hSw; (try dsimp only at hSw); first | (go_simp; done) | (go_simp; with_reducible rfl))
  try simp only [Act.put, List.setIfInBounds_toArray, List.set_cons_zero, List.set_cons_succ]
  refine wpAnyH_take (i := 2) (v := ?_) (by simp only [List.getElem?_toArray, List.getElem?_cons_succ, List.getElem?_cons_zero]; rfl) (by kernel_rfl) (by kernel_rfl) (by kernel_rfl) (by exact fun _ _ _ h => h) (Or.inl ⟨by rfl, ?_⟩) (by assumption) ?_; rotate_left; focus (intro w hSw; (try dsimp only at hSw); first | (go_simp; done) | (go_simp; with_reducible rfl))
  try simp only [Act.put, List.setIfInBounds_toArray, List.set_cons_zero, List.set_cons_succ]
  refine wpAnyH_take (i := 3) (v := ?_) (by simp only [List.getElem?_toArray, List.getElem?_cons_succ, List.getElem?_cons_zero]; rfl) (by kernel_rfl) (by kernel_rfl) (by kernel_rfl) (by exact fun _ _ _ h => h) (Or.inl ⟨by rfl, ?_⟩) (by assumption) ?_; rotate_left; focus (intro w hSw; (try dsimp only at hSw); first | (go_simp; done) | (go_simp; with_reducible rfl))
  try simp only [Act.put, List.setIfInBounds_toArray, List.set_cons_zero, List.set_cons_succ]
  refine wpAnyH_take (i := 4) (v := ?_) (by simp only [List.getElem?_toArray, List.getElem?_cons_succ, List.getElem?_cons_zero]; rfl) (by kernel_rfl) (by kernel_rfl) (by kernel_rfl) (by exact fun _ _ _ h => h) (Or.inl ⟨by rfl, ?_⟩) (by assumption) ?_; rotate_left; focus (intro w hSw; (try dsimp only at hSw); first | (go_simp; done) | (go_simp; with_reducible rfl))
  try simp only [Act.put, List.setIfInBounds_toArray, List.set_cons_zero, List.set_cons_succ]
  refine wpAnyH_take (i := 6) (v := ?_) (by simp only [List.getElem?_toArray, List.getElem?_cons_succ, List.getElem?_cons_zero]; rfl) (by kernel_rfl) (by kernel_rfl) (by kernel_rfl) (by exact fun _ _ _ h => h) (Or.inl ⟨by rfl, ?_⟩) (by assumption) ?_; rotate_left; focus (intro w hSw; (try dsimp only at hSw); first | (go_simp; done) | (go_simp; with_reducible rfl))
  try simp only [Act.put, List.setIfInBounds_toArray, List.set_cons_zero, List.set_cons_succ]
  refine wpAnyH_take (i := 7) (v := ?_) (by simp only [List.getElem?_toArray, List.getElem?_cons_succ, List.getElem?_cons_zero]; rfl) (by kernel_rfl) (by kernel_rfl) (by kernel_rfl) (by exact fun _ _ _ h => h) (Or.inl ⟨by rfl, ?_⟩) (by assumption) ?_; rotate_left; focus (intro w hSw; (try dsimp only at hSw); first | (go_simp; done) | (go_simp; with_reducible rfl))
  try simp only [Act.put, List.setIfInBounds_toArray, List.set_cons_zero, List.set_cons_succ]
  refine wpAnyH_take (i := 8) (v := ?_) (by simp only [List.getElem?_toArray, List.getElem?_cons_succ, List.getElem?_cons_zero]; rfl) (by kernel_rfl) (by kernel_rfl) (by kernel_rfl) (by exact fun _ _ _ h => h) (Or.inl ⟨by rfl, ?_⟩) (by assumption) ?_; rotate_left; focus (intro w hSw; (try dsimp only at hSw); first | (go_simp; done) | (go_simp; with_reducible rfl))
  try simp only [Act.put, List.setIfInBounds_toArray, List.set_cons_zero, List.set_cons_succ]
  refine wpAnyH_take (i := 9) (v := ?_) (by simp only [List.getElem?_toArray, List.getElem?_cons_succ, List.getElem?_cons_zero]; rfl) (by kernel_rfl) (by kernel_rfl) (by kernel_rfl) (by exact fun _ _ _ h => h) (Or.inl ⟨by rfl, ?_⟩) (by assumption) ?_; rotate_left; focus (intro w hSw; (try dsimp only at hSw); first | (go_simp; done) | (go_simp; with_reducible rfl))
  try simp only [Act.put, List.setIfInBounds_toArray, List.set_cons_zero, List.set_cons_succ]
  refine wpAnyH_take (i := 10) (v := ?_) (by simp only [List.getElem?_toArray, List.getElem?_cons_succ, List.getElem?_cons_zero]; rfl) (by kernel_rfl) (by kernel_rfl) (by kernel_rfl) (by exact fun _ _ _ h => h) (Or.inl ⟨by rfl, ?_⟩) (by assumption) ?_; rotate_left; focus (intro w hSw; (try dsimp only at hSw); first | (go_simp; done) | (go_simp; with_reducible rfl))
  try simp only [Act.put, List.setIfInBounds_toArray, List.set_cons_zero, List.set_cons_succ]
  refine wpAnyH_take (i := 12) (v := ?_) (by simp only [List.getElem?_toArray, List.getElem?_cons_succ, List.getElem?_cons_zero]; rfl) (by kernel_rfl) (by kernel_rfl) (by kernel_rfl) (by exact fun _ _ _ h => h) (Or.inl ⟨by rfl, ?_⟩) (by assumption) ?_; rotate_left; focus (intro w hSw; (try dsimp only at hSw); first | (go_simp; done) | (go_simp; with_reducible rfl))
  try simp only [Act.put, List.setIfInBounds_toArray, List.set_cons_zero, List.set_cons_succ]
  refine wpAnyH_ready (rs := [5]) (by kernel_rfl) (by simp) ?_
  refine AllReadyH.cons rfl (fun K hK => ?_) AllReadyH.nil
  rw [if_pos (by rfl)]
  go_simp
  go_at_call 51
  have kB := hHeld.2.2.2.2.2.2.2.2.2.2.2
  refine (specRoutePoints _ _ d fr _ r _ (Rd.out.below (B3.out.trans (kB.out.mono B3.out.size))) (Rr.out.below (B3.out.trans (kB.out.mono B3.out.size))) Nd.out).mono ?_
  rw [HPT.out]
  rintro e wq3_5 ⟨vp, rfl, hop, hbk⟩
  have ST5 := Lib.hid (OwnInt.sl hop (by have := HFEW.out; omega))
  obtain ⟨Ap, cp, rfl⟩ := own_form hop
  clear hop
  have HBK := kB.out.trans (hbk.mono kB.out.size)
  have QS := Lib.hid (show wq3_5.cell? ⟨w.heap.size, 0, none⟩ = some (.int .i64 f.mean) ∧ wq3_5.cell? ⟨w.heap.size, 1, none⟩ = some (.slice Af0 f.parts.length cf0) ∧ wq3_5.cell? ⟨w.heap.size, 2, none⟩ = some (.slice Af1 f.surges.length cf1) ∧ wq3_5.cell? ⟨w.heap.size + 1, 0, none⟩ = some (.slice Ad0 d.points.length cd0) ∧ wq3_5.cell? ⟨w.heap.size + 1, 1, none⟩ = some (.slice Ad1 d.segs.length cd1) ∧ wq3_5.cell? ⟨w.heap.size + 2, 0, none⟩ = some (.string s.name) ∧ wq3_5.cell? ⟨w.heap.size + 2, 1, none⟩ = some (.int .i64 s.length) ∧ wq3_5.cell? ⟨w.heap.size + 2, 2, none⟩ = some (.int .i64 s.draught) ∧ wq3_5.cell? ⟨w.heap.size + 2, 3, none⟩ = some (.int .i64 s.line) ∧ wq3_5.cell? ⟨w.heap.size + 2, 4, none⟩ = some (.int .i64 s.tugs) ∧ wq3_5.cell? ⟨w.heap.size + 2, 5, none⟩ = some (.bool s.slow) ∧ Hid (Below w3.heap.size w3 wq3_5) from ⟨cell_onV Ff0.out HBK, cell_onV Ff1.out HBK, cell_onV Ff2.out HBK, cell_onV Fd0.out HBK, cell_onV Fd1.out HBK, cell_onV Fs0.out HBK, cell_onV Fs1.out HBK, cell_onV Fs2.out HBK, cell_onV Fs3.out HBK, cell_onV Fs4.out HBK, cell_onV Fs5.out HBK, Lib.hid HBK⟩)
  clear hbk kB hHeld HBK
  go_simp
  refine hK.out _ _ ?_ (fun hHeld => ?_)
  · (try dsimp only); exact QS.out
  clear hK K
  try simp only [Act.put, List.setIfInBounds_toArray, List.set_cons_zero, List.set_cons_succ]
  refine wpAnyH_ready (rs := [11]) (by kernel_rfl) (by simp) ?_
  refine AllReadyH.cons rfl (fun K hK => ?_) AllReadyH.nil
  rw [if_pos (by rfl)]
  go_simp
  go_at_call 52
  have kB := hHeld.2.2.2.2.2.2.2.2.2.2.2
  refine (l08Starts_any _ _ f _ _ d s _ r _ (Rf.out.below (B3.out.trans (kB.out.mono B3.out.size))) (Rd.out.below (B3.out.trans (kB.out.mono B3.out.size))) (Rr.out.below (B3.out.trans (kB.out.mono B3.out.size))) Nd.out Ns.out).mono ?_
  rintro e wq3_11 ⟨vw, rows, rfl, hrows, hrw, hbk⟩
  have ST11 := Lib.hid (ST5.out.below hbk)
  have RW := Lib.hid hrw
  have HRO := Lib.hid hrows
  obtain ⟨Aw, cw, rfl⟩ := SlOf.form hrw.1
  clear hrw hrows
  have HBK := kB.out.trans (hbk.mono kB.out.size)
  have QS := Lib.hid (show wq3_11.cell? ⟨w.heap.size, 0, none⟩ = some (.int .i64 f.mean) ∧ wq3_11.cell? ⟨w.heap.size, 1, none⟩ = some (.slice Af0 f.parts.length cf0) ∧ wq3_11.cell? ⟨w.heap.size, 2, none⟩ = some (.slice Af1 f.surges.length cf1) ∧ wq3_11.cell? ⟨w.heap.size + 1, 0, none⟩ = some (.slice Ad0 d.points.length cd0) ∧ wq3_11.cell? ⟨w.heap.size + 1, 1, none⟩ = some (.slice Ad1 d.segs.length cd1) ∧ wq3_11.cell? ⟨w.heap.size + 2, 0, none⟩ = some (.string s.name) ∧ wq3_11.cell? ⟨w.heap.size + 2, 1, none⟩ = some (.int .i64 s.length) ∧ wq3_11.cell? ⟨w.heap.size + 2, 2, none⟩ = some (.int .i64 s.draught) ∧ wq3_11.cell? ⟨w.heap.size + 2, 3, none⟩ = some (.int .i64 s.line) ∧ wq3_11.cell? ⟨w.heap.size + 2, 4, none⟩ = some (.int .i64 s.tugs) ∧ wq3_11.cell? ⟨w.heap.size + 2, 5, none⟩ = some (.bool s.slow) ∧ Hid (Below w3.heap.size w3 wq3_11) from ⟨cell_onV Ff0.out HBK, cell_onV Ff1.out HBK, cell_onV Ff2.out HBK, cell_onV Fd0.out HBK, cell_onV Fd1.out HBK, cell_onV Fs0.out HBK, cell_onV Fs1.out HBK, cell_onV Fs2.out HBK, cell_onV Fs3.out HBK, cell_onV Fs4.out HBK, cell_onV Fs5.out HBK, Lib.hid HBK⟩)
  clear hbk kB hHeld HBK
  go_simp
  refine hK.out _ _ ?_ (fun hHeld => ?_)
  · (try dsimp only); exact QS.out
  clear hK K
  try simp only [Act.put, List.setIfInBounds_toArray, List.set_cons_zero, List.set_cons_succ]
  refine wpAnyH_ready (rs := [13]) (by kernel_rfl) (by simp) ?_
  refine AllReadyH.cons rfl (fun K hK => ?_) AllReadyH.nil
  rw [if_pos (by rfl)]
  go_simp
  go_at_call 50
  have kB := hHeld.2.2.2.2.2.2.2.2.2.2.2
  refine (l08Sail_any _ _ d s _ pts _ r _ rows st f fr _ (Rd.out.below (B3.out.trans (kB.out.mono B3.out.size))) ST11.out (Rr.out.below (B3.out.trans (kB.out.mono B3.out.size))) RW.out Nd.out Ns.out HPP.out HPT.out HRO.out).mono ?_
  rintro e wq3_13 ⟨vo, rfl, hoo, hbk⟩
  have OO := Lib.hid (own_lo (base' := w.heap.size) hoo (Nat.le_trans B3.out.size kB.out.size))
  obtain ⟨Ao, co, rfl⟩ := own_form hoo
  clear hoo
  have HBK := kB.out.trans (hbk.mono kB.out.size)
  have QS := Lib.hid (show wq3_13.cell? ⟨w.heap.size, 0, none⟩ = some (.int .i64 f.mean) ∧ wq3_13.cell? ⟨w.heap.size, 1, none⟩ = some (.slice Af0 f.parts.length cf0) ∧ wq3_13.cell? ⟨w.heap.size, 2, none⟩ = some (.slice Af1 f.surges.length cf1) ∧ wq3_13.cell? ⟨w.heap.size + 1, 0, none⟩ = some (.slice Ad0 d.points.length cd0) ∧ wq3_13.cell? ⟨w.heap.size + 1, 1, none⟩ = some (.slice Ad1 d.segs.length cd1) ∧ wq3_13.cell? ⟨w.heap.size + 2, 0, none⟩ = some (.string s.name) ∧ wq3_13.cell? ⟨w.heap.size + 2, 1, none⟩ = some (.int .i64 s.length) ∧ wq3_13.cell? ⟨w.heap.size + 2, 2, none⟩ = some (.int .i64 s.draught) ∧ wq3_13.cell? ⟨w.heap.size + 2, 3, none⟩ = some (.int .i64 s.line) ∧ wq3_13.cell? ⟨w.heap.size + 2, 4, none⟩ = some (.int .i64 s.tugs) ∧ wq3_13.cell? ⟨w.heap.size + 2, 5, none⟩ = some (.bool s.slow) ∧ Hid (Below w3.heap.size w3 wq3_13) from ⟨cell_onV Ff0.out HBK, cell_onV Ff1.out HBK, cell_onV Ff2.out HBK, cell_onV Fd0.out HBK, cell_onV Fd1.out HBK, cell_onV Fs0.out HBK, cell_onV Fs1.out HBK, cell_onV Fs2.out HBK, cell_onV Fs3.out HBK, cell_onV Fs4.out HBK, cell_onV Fs5.out HBK, Lib.hid HBK⟩)
  clear hbk kB hHeld HBK
  go_simp
  refine hK.out _ _ ?_ (fun hHeld => ?_)
  · (try dsimp only); exact QS.out
  clear hK K
  try simp only [Act.put, List.setIfInBounds_toArray, List.set_cons_zero, List.set_cons_succ]
  refine wpAnyH_take (i := 14) (v := ?_) (by simp only [List.getElem?_toArray, List.getElem?_cons_succ, List.getElem?_cons_zero]; rfl) (by kernel_rfl) (by kernel_rfl) (by kernel_rfl) (by exact fun _ _ _ h => h) (Or.inl ⟨by rfl, ?_⟩) (by assumption) ?_; rotate_left; focus (intro w hSw; (try dsimp only at hSw); first | (go_simp; done) | (go_simp; with_reducible rfl))
  try simp only [Act.put, List.setIfInBounds_toArray, List.set_cons_zero, List.set_cons_succ]
  refine wpAnyH_take (i := 15) (v := ?_) (by simp only [List.getElem?_toArray, List.getElem?_cons_succ, List.getElem?_cons_zero]; rfl) (by kernel_rfl) (by kernel_rfl) (by kernel_rfl) (by exact fun _ _ _ h => h) (Or.inl ⟨by rfl, ?_⟩) (by assumption) ?_; rotate_left; focus (intro w hSw; (try dsimp only at hSw); first | (go_simp; done) | (go_simp; with_reducible rfl))
  try simp only [Act.put, List.setIfInBounds_toArray, List.set_cons_zero, List.set_cons_succ]
  refine wpAnyH_take (i := 16) (v := ?_) (by simp only [List.getElem?_toArray, List.getElem?_cons_succ, List.getElem?_cons_zero]; rfl) (by kernel_rfl) (by kernel_rfl) (by kernel_rfl) (by exact fun _ _ _ h => h) (Or.inl ⟨by rfl, ?_⟩) (by assumption) ?_; rotate_left; focus (intro w hSw; (try dsimp only at hSw); first | (go_simp; done) | (go_simp; with_reducible rfl))
  try simp only [Act.put, List.setIfInBounds_toArray, List.set_cons_zero, List.set_cons_succ]
  refine wpAnyH_take (i := 17) (v := ?_) (by simp only [List.getElem?_toArray, List.getElem?_cons_succ, List.getElem?_cons_zero]; rfl) (by kernel_rfl) (by kernel_rfl) (by kernel_rfl) (by exact fun _ _ _ h => h) (Or.inl ⟨by rfl, ?_⟩) (by assumption) ?_; rotate_left; focus (intro w hSw; (try dsimp only at hSw); first | (go_simp; done) | (go_simp; with_reducible rfl))
  try simp only [Act.put, List.setIfInBounds_toArray, List.set_cons_zero, List.set_cons_succ]
  refine wpAnyH_done (by kernel_rfl) ?_ _
  go_wp2
  refine bodyPost_ret (v := .tuple #[.slice Ao ((sailO f d s fr r st).getD []).length co, .bool (sailO f d s fr r st).isSome]) (by simp [results, Tryz.results19, go_sem, *]) rfl ⟨_, rfl, OO.out, B3.out.trans (hHeld.2.2.2.2.2.2.2.2.2.2.2.out.mono B3.out.size)⟩
set_option maxHeartbeats 8000000 in
theorem specFirstSail (yf0 yf1 : Value) (f : ForecastD) (yd0 yd1 : Value) (d : ChartD) (s : ShipD) (fr : Int) (yr : Value) (r : List Int) (st : Int) (w : World) (rf : RdForecast w yf0 yf1 f) (rd : RdChart w yd0 yd1 d) (rr : SlInt w yr r) (fd : ∀ x ∈ d.points, PointD.wf x) (fs : s.wf) :
    Calls Tryz.prog 28 #[.agg #[.int .i64 f.mean, yf0, yf1], .agg #[yd0, yd1], s.val, .int .i64 fr, yr, .int .i64 st] w (SailPost (firstSail f d s fr r st) w) := by
  have Rf := Lib.hid rf
  obtain ⟨rf0, rf1⟩ := rf
  obtain ⟨Af0, cf0, rfl⟩ := SlOf.form rf0
  obtain ⟨Af1, cf1, rfl⟩ := SlOf.form rf1
  clear rf0 rf1
  have Rd := Lib.hid rd
  obtain ⟨rd0, rd1⟩ := rd
  obtain ⟨Ad0, cd0, rfl⟩ := SlOf.form rd0
  obtain ⟨Ad1, cd1, rfl⟩ := SlOf.form rd1
  have Nd := Lib.hid fd
  clear fd
  clear rd0 rd1
  have Ns := Lib.hid fs
  clear fs
  have Rr := Lib.hid rr
  obtain ⟨Ar, cr, rfl⟩ := SlOf.form rr
  clear rr
  obtain ⟨W0, hW0⟩ : ∃ W0, W0 = (((w.alloc (.cells #[.int .i64 f.mean, .slice Af0 f.parts.length cf0, .slice Af1 f.surges.length cf1] 44)).alloc (.cells #[.slice Ad0 d.points.length cd0, .slice Ad1 d.segs.length cd1] 49)).alloc (.cells #[.string s.name, .int .i64 s.length, .int .i64 s.draught, .int .i64 s.line, .int .i64 s.tugs, .bool s.slow] 65)) := ⟨_, rfl⟩
  have B := Lib.hid (((Joins.below_alloc1 w (.cells #[.int .i64 f.mean, .slice Af0 f.parts.length cf0, .slice Af1 f.surges.length cf1] 44)).trans ((Joins.below_alloc1 (w.alloc (.cells #[.int .i64 f.mean, .slice Af0 f.parts.length cf0, .slice Af1 f.surges.length cf1] 44)) (.cells #[.slice Ad0 d.points.length cd0, .slice Ad1 d.segs.length cd1] 49)).mono (by simp; try omega))).trans ((Joins.below_alloc1 ((w.alloc (.cells #[.int .i64 f.mean, .slice Af0 f.parts.length cf0, .slice Af1 f.surges.length cf1] 44)).alloc (.cells #[.slice Ad0 d.points.length cd0, .slice Ad1 d.segs.length cd1] 49)) (.cells #[.string s.name, .int .i64 s.length, .int .i64 s.draught, .int .i64 s.line, .int .i64 s.tugs, .bool s.slow] 65)).mono (by simp; try omega)))
  have Kf := Lib.hid (((Blk.new w #[.int .i64 f.mean, .slice Af0 f.parts.length cf0, .slice Af1 f.surges.length cf1] 44).below (Joins.below_alloc1 _ (.cells #[.slice Ad0 d.points.length cd0, .slice Ad1 d.segs.length cd1] 49))).below (Joins.below_alloc1 _ (.cells #[.string s.name, .int .i64 s.length, .int .i64 s.draught, .int .i64 s.line, .int .i64 s.tugs, .bool s.slow] 65)))
  have Kd := Lib.hid ((Blk.new (w.alloc (.cells #[.int .i64 f.mean, .slice Af0 f.parts.length cf0, .slice Af1 f.surges.length cf1] 44)) #[.slice Ad0 d.points.length cd0, .slice Ad1 d.segs.length cd1] 49).below (Joins.below_alloc1 _ (.cells #[.string s.name, .int .i64 s.length, .int .i64 s.draught, .int .i64 s.line, .int .i64 s.tugs, .bool s.slow] 65)))
  rw [World.size_alloc] at Kd
  have Ks := Lib.hid (Blk.new ((w.alloc (.cells #[.int .i64 f.mean, .slice Af0 f.parts.length cf0, .slice Af1 f.surges.length cf1] 44)).alloc (.cells #[.slice Ad0 d.points.length cd0, .slice Ad1 d.segs.length cd1] 49)) #[.string s.name, .int .i64 s.length, .int .i64 s.draught, .int .i64 s.line, .int .i64 s.tugs, .bool s.slow] 65)
  rw [World.size_alloc, World.size_alloc] at Ks
  have HW0 := Lib.hid hW0
  rw [← hW0] at B Kf Kd Ks
  clear hW0
  have hdl := Rd.out.2.1
  have hrl := Rr.out.1
  obtain ⟨b1, hb1⟩ : ∃ b, fcB f.mean f.parts f.surges = b := ⟨_, rfl⟩
  have H1 := Lib.hid hb1
  obtain ⟨b2, hb2⟩ : ∃ b, shipB s = b := ⟨_, rfl⟩
  have H2 := Lib.hid hb2
  obtain ⟨b3, hb3⟩ : ∃ b, routeB d fr r = b := ⟨_, rfl⟩
  have H3 := Lib.hid hb3
  obtain ⟨b4, hb4⟩ : ∃ b, ((r.length : Int) == 0) = b := ⟨_, rfl⟩
  have H4 := Lib.hid hb4
  have HP := Lib.hid (show sailPre f d s fr r = (b1 && b2 && b3 && !b4) by unfold sailPre; rw [hb1, hb2, hb3, ← hb4]; congr 2; cases r <;> simp <;> omega)
  clear hb1 hb2 hb3
  cases b1 with
  | false =>
    have E := Lib.hid (firstSail_bad (ready := st) (HP.out.trans (by simp)))
    clear HP
    go_enter Tryz.func28, Tryz.ntmps28
    have vf0 : W0.cell? ⟨w.heap.size, 0, none⟩ = some (.int .i64 f.mean) := Kf.out.cell 0
    have vf1 : W0.cell? ⟨w.heap.size, 1, none⟩ = some (.slice Af0 f.parts.length cf0) := Kf.out.cell 1
    have vf2 : W0.cell? ⟨w.heap.size, 2, none⟩ = some (.slice Af1 f.surges.length cf1) := Kf.out.cell 2
    have vd0 : W0.cell? ⟨w.heap.size + 1, 0, none⟩ = some (.slice Ad0 d.points.length cd0) := Kd.out.cell 0
    have vd1 : W0.cell? ⟨w.heap.size + 1, 1, none⟩ = some (.slice Ad1 d.segs.length cd1) := Kd.out.cell 1
    have vs0 : W0.cell? ⟨w.heap.size + 2, 0, none⟩ = some (.string s.name) := Ks.out.cell 0
    have vs1 : W0.cell? ⟨w.heap.size + 2, 1, none⟩ = some (.int .i64 s.length) := Ks.out.cell 1
    have vs2 : W0.cell? ⟨w.heap.size + 2, 2, none⟩ = some (.int .i64 s.draught) := Ks.out.cell 2
    have vs3 : W0.cell? ⟨w.heap.size + 2, 3, none⟩ = some (.int .i64 s.line) := Ks.out.cell 3
    have vs4 : W0.cell? ⟨w.heap.size + 2, 4, none⟩ = some (.int .i64 s.tugs) := Ks.out.cell 4
    have vs5 : W0.cell? ⟨w.heap.size + 2, 5, none⟩ = some (.bool s.slow) := Ks.out.cell 5
    go_wp2_with fail
    rw [← HW0.out]
    clear vf0 vf1 vf2 vd0 vd1 vs0 vs1 vs2 vs3 vs4 vs5
    refine (specForecastOk f.mean _ _ f.parts f.surges _ (Rf.out.below B.out).1 (Rf.out.below B.out).2).mono ?_
    rw [H1.out]
    rintro e w1 ⟨rfl, hb1⟩
    have B1 := Lib.hid (B.out.trans (hb1.mono B.out.size))
    have Kf_1 := Lib.hid (Kf.out.below hb1)
    have Kd_1 := Lib.hid (Kd.out.below hb1)
    have Ks_1 := Lib.hid (Ks.out.below hb1)
    clear hb1
    go_wp2
    refine bodyPost_ret (v := .tuple #[.slice none 0 0, .bool false]) (by simp [results, Tryz.results28, go_sem, *]) rfl (SailPost.no E.out B1.out)
  | true =>
  cases b2 with
  | false =>
    have E := Lib.hid (firstSail_bad (ready := st) (HP.out.trans (by simp)))
    clear HP
    go_enter Tryz.func28, Tryz.ntmps28
    have vf0 : W0.cell? ⟨w.heap.size, 0, none⟩ = some (.int .i64 f.mean) := Kf.out.cell 0
    have vf1 : W0.cell? ⟨w.heap.size, 1, none⟩ = some (.slice Af0 f.parts.length cf0) := Kf.out.cell 1
    have vf2 : W0.cell? ⟨w.heap.size, 2, none⟩ = some (.slice Af1 f.surges.length cf1) := Kf.out.cell 2
    have vd0 : W0.cell? ⟨w.heap.size + 1, 0, none⟩ = some (.slice Ad0 d.points.length cd0) := Kd.out.cell 0
    have vd1 : W0.cell? ⟨w.heap.size + 1, 1, none⟩ = some (.slice Ad1 d.segs.length cd1) := Kd.out.cell 1
    have vs0 : W0.cell? ⟨w.heap.size + 2, 0, none⟩ = some (.string s.name) := Ks.out.cell 0
    have vs1 : W0.cell? ⟨w.heap.size + 2, 1, none⟩ = some (.int .i64 s.length) := Ks.out.cell 1
    have vs2 : W0.cell? ⟨w.heap.size + 2, 2, none⟩ = some (.int .i64 s.draught) := Ks.out.cell 2
    have vs3 : W0.cell? ⟨w.heap.size + 2, 3, none⟩ = some (.int .i64 s.line) := Ks.out.cell 3
    have vs4 : W0.cell? ⟨w.heap.size + 2, 4, none⟩ = some (.int .i64 s.tugs) := Ks.out.cell 4
    have vs5 : W0.cell? ⟨w.heap.size + 2, 5, none⟩ = some (.bool s.slow) := Ks.out.cell 5
    go_wp2_with fail
    rw [← HW0.out]
    clear vf0 vf1 vf2 vd0 vd1 vs0 vs1 vs2 vs3 vs4 vs5
    refine (specForecastOk f.mean _ _ f.parts f.surges _ (Rf.out.below B.out).1 (Rf.out.below B.out).2).mono ?_
    rw [H1.out]
    rintro e w1 ⟨rfl, hb1⟩
    have B1 := Lib.hid (B.out.trans (hb1.mono B.out.size))
    have Kf_1 := Lib.hid (Kf.out.below hb1)
    have Kd_1 := Lib.hid (Kd.out.below hb1)
    have Ks_1 := Lib.hid (Ks.out.below hb1)
    clear hb1
    have vf0 : w1.cell? ⟨w.heap.size, 0, none⟩ = some (.int .i64 f.mean) := Kf_1.out.cell 0
    have vf1 : w1.cell? ⟨w.heap.size, 1, none⟩ = some (.slice Af0 f.parts.length cf0) := Kf_1.out.cell 1
    have vf2 : w1.cell? ⟨w.heap.size, 2, none⟩ = some (.slice Af1 f.surges.length cf1) := Kf_1.out.cell 2
    have vd0 : w1.cell? ⟨w.heap.size + 1, 0, none⟩ = some (.slice Ad0 d.points.length cd0) := Kd_1.out.cell 0
    have vd1 : w1.cell? ⟨w.heap.size + 1, 1, none⟩ = some (.slice Ad1 d.segs.length cd1) := Kd_1.out.cell 1
    have vs0 : w1.cell? ⟨w.heap.size + 2, 0, none⟩ = some (.string s.name) := Ks_1.out.cell 0
    have vs1 : w1.cell? ⟨w.heap.size + 2, 1, none⟩ = some (.int .i64 s.length) := Ks_1.out.cell 1
    have vs2 : w1.cell? ⟨w.heap.size + 2, 2, none⟩ = some (.int .i64 s.draught) := Ks_1.out.cell 2
    have vs3 : w1.cell? ⟨w.heap.size + 2, 3, none⟩ = some (.int .i64 s.line) := Ks_1.out.cell 3
    have vs4 : w1.cell? ⟨w.heap.size + 2, 4, none⟩ = some (.int .i64 s.tugs) := Ks_1.out.cell 4
    have vs5 : w1.cell? ⟨w.heap.size + 2, 5, none⟩ = some (.bool s.slow) := Ks_1.out.cell 5
    go_wp2_with fail
    clear vf0 vf1 vf2 vd0 vd1 vs0 vs1 vs2 vs3 vs4 vs5
    refine (specShipOk s _ Ns.out).mono ?_
    rw [H2.out]
    rintro e w2 ⟨rfl, hb2⟩
    have B2 := Lib.hid (B1.out.trans (hb2.mono B1.out.size))
    have Kf_2 := Lib.hid (Kf_1.out.below hb2)
    have Kd_2 := Lib.hid (Kd_1.out.below hb2)
    have Ks_2 := Lib.hid (Ks_1.out.below hb2)
    clear hb2
    go_wp2
    refine bodyPost_ret (v := .tuple #[.slice none 0 0, .bool false]) (by simp [results, Tryz.results28, go_sem, *]) rfl (SailPost.no E.out B2.out)
  | true =>
  cases b3 with
  | false =>
    have E := Lib.hid (firstSail_bad (ready := st) (HP.out.trans (by simp)))
    clear HP
    go_enter Tryz.func28, Tryz.ntmps28
    have vf0 : W0.cell? ⟨w.heap.size, 0, none⟩ = some (.int .i64 f.mean) := Kf.out.cell 0
    have vf1 : W0.cell? ⟨w.heap.size, 1, none⟩ = some (.slice Af0 f.parts.length cf0) := Kf.out.cell 1
    have vf2 : W0.cell? ⟨w.heap.size, 2, none⟩ = some (.slice Af1 f.surges.length cf1) := Kf.out.cell 2
    have vd0 : W0.cell? ⟨w.heap.size + 1, 0, none⟩ = some (.slice Ad0 d.points.length cd0) := Kd.out.cell 0
    have vd1 : W0.cell? ⟨w.heap.size + 1, 1, none⟩ = some (.slice Ad1 d.segs.length cd1) := Kd.out.cell 1
    have vs0 : W0.cell? ⟨w.heap.size + 2, 0, none⟩ = some (.string s.name) := Ks.out.cell 0
    have vs1 : W0.cell? ⟨w.heap.size + 2, 1, none⟩ = some (.int .i64 s.length) := Ks.out.cell 1
    have vs2 : W0.cell? ⟨w.heap.size + 2, 2, none⟩ = some (.int .i64 s.draught) := Ks.out.cell 2
    have vs3 : W0.cell? ⟨w.heap.size + 2, 3, none⟩ = some (.int .i64 s.line) := Ks.out.cell 3
    have vs4 : W0.cell? ⟨w.heap.size + 2, 4, none⟩ = some (.int .i64 s.tugs) := Ks.out.cell 4
    have vs5 : W0.cell? ⟨w.heap.size + 2, 5, none⟩ = some (.bool s.slow) := Ks.out.cell 5
    go_wp2_with fail
    rw [← HW0.out]
    clear vf0 vf1 vf2 vd0 vd1 vs0 vs1 vs2 vs3 vs4 vs5
    refine (specForecastOk f.mean _ _ f.parts f.surges _ (Rf.out.below B.out).1 (Rf.out.below B.out).2).mono ?_
    rw [H1.out]
    rintro e w1 ⟨rfl, hb1⟩
    have B1 := Lib.hid (B.out.trans (hb1.mono B.out.size))
    have Kf_1 := Lib.hid (Kf.out.below hb1)
    have Kd_1 := Lib.hid (Kd.out.below hb1)
    have Ks_1 := Lib.hid (Ks.out.below hb1)
    clear hb1
    have vf0 : w1.cell? ⟨w.heap.size, 0, none⟩ = some (.int .i64 f.mean) := Kf_1.out.cell 0
    have vf1 : w1.cell? ⟨w.heap.size, 1, none⟩ = some (.slice Af0 f.parts.length cf0) := Kf_1.out.cell 1
    have vf2 : w1.cell? ⟨w.heap.size, 2, none⟩ = some (.slice Af1 f.surges.length cf1) := Kf_1.out.cell 2
    have vd0 : w1.cell? ⟨w.heap.size + 1, 0, none⟩ = some (.slice Ad0 d.points.length cd0) := Kd_1.out.cell 0
    have vd1 : w1.cell? ⟨w.heap.size + 1, 1, none⟩ = some (.slice Ad1 d.segs.length cd1) := Kd_1.out.cell 1
    have vs0 : w1.cell? ⟨w.heap.size + 2, 0, none⟩ = some (.string s.name) := Ks_1.out.cell 0
    have vs1 : w1.cell? ⟨w.heap.size + 2, 1, none⟩ = some (.int .i64 s.length) := Ks_1.out.cell 1
    have vs2 : w1.cell? ⟨w.heap.size + 2, 2, none⟩ = some (.int .i64 s.draught) := Ks_1.out.cell 2
    have vs3 : w1.cell? ⟨w.heap.size + 2, 3, none⟩ = some (.int .i64 s.line) := Ks_1.out.cell 3
    have vs4 : w1.cell? ⟨w.heap.size + 2, 4, none⟩ = some (.int .i64 s.tugs) := Ks_1.out.cell 4
    have vs5 : w1.cell? ⟨w.heap.size + 2, 5, none⟩ = some (.bool s.slow) := Ks_1.out.cell 5
    go_wp2_with fail
    clear vf0 vf1 vf2 vd0 vd1 vs0 vs1 vs2 vs3 vs4 vs5
    refine (specShipOk s _ Ns.out).mono ?_
    rw [H2.out]
    rintro e w2 ⟨rfl, hb2⟩
    have B2 := Lib.hid (B1.out.trans (hb2.mono B1.out.size))
    have Kf_2 := Lib.hid (Kf_1.out.below hb2)
    have Kd_2 := Lib.hid (Kd_1.out.below hb2)
    have Ks_2 := Lib.hid (Ks_1.out.below hb2)
    clear hb2
    have vf0 : w2.cell? ⟨w.heap.size, 0, none⟩ = some (.int .i64 f.mean) := Kf_2.out.cell 0
    have vf1 : w2.cell? ⟨w.heap.size, 1, none⟩ = some (.slice Af0 f.parts.length cf0) := Kf_2.out.cell 1
    have vf2 : w2.cell? ⟨w.heap.size, 2, none⟩ = some (.slice Af1 f.surges.length cf1) := Kf_2.out.cell 2
    have vd0 : w2.cell? ⟨w.heap.size + 1, 0, none⟩ = some (.slice Ad0 d.points.length cd0) := Kd_2.out.cell 0
    have vd1 : w2.cell? ⟨w.heap.size + 1, 1, none⟩ = some (.slice Ad1 d.segs.length cd1) := Kd_2.out.cell 1
    have vs0 : w2.cell? ⟨w.heap.size + 2, 0, none⟩ = some (.string s.name) := Ks_2.out.cell 0
    have vs1 : w2.cell? ⟨w.heap.size + 2, 1, none⟩ = some (.int .i64 s.length) := Ks_2.out.cell 1
    have vs2 : w2.cell? ⟨w.heap.size + 2, 2, none⟩ = some (.int .i64 s.draught) := Ks_2.out.cell 2
    have vs3 : w2.cell? ⟨w.heap.size + 2, 3, none⟩ = some (.int .i64 s.line) := Ks_2.out.cell 3
    have vs4 : w2.cell? ⟨w.heap.size + 2, 4, none⟩ = some (.int .i64 s.tugs) := Ks_2.out.cell 4
    have vs5 : w2.cell? ⟨w.heap.size + 2, 5, none⟩ = some (.bool s.slow) := Ks_2.out.cell 5
    go_wp2_with fail
    clear vf0 vf1 vf2 vd0 vd1 vs0 vs1 vs2 vs3 vs4 vs5
    refine (specRouteOk _ _ d fr _ r _ (Rd.out.below B2.out) (Rr.out.below B2.out) Nd.out).mono ?_
    rw [H3.out]
    rintro e w3 ⟨rfl, hb3⟩
    have B3 := Lib.hid (B2.out.trans (hb3.mono B2.out.size))
    have Kf_3 := Lib.hid (Kf_2.out.below hb3)
    have Kd_3 := Lib.hid (Kd_2.out.below hb3)
    have Ks_3 := Lib.hid (Ks_2.out.below hb3)
    clear hb3
    go_wp2
    refine bodyPost_ret (v := .tuple #[.slice none 0 0, .bool false]) (by simp [results, Tryz.results28, go_sem, *]) rfl (SailPost.no E.out B3.out)
  | true =>
  cases b4 with
  | true =>
    have E := Lib.hid (firstSail_bad (ready := st) (HP.out.trans (by simp)))
    clear HP
    go_enter Tryz.func28, Tryz.ntmps28
    have vf0 : W0.cell? ⟨w.heap.size, 0, none⟩ = some (.int .i64 f.mean) := Kf.out.cell 0
    have vf1 : W0.cell? ⟨w.heap.size, 1, none⟩ = some (.slice Af0 f.parts.length cf0) := Kf.out.cell 1
    have vf2 : W0.cell? ⟨w.heap.size, 2, none⟩ = some (.slice Af1 f.surges.length cf1) := Kf.out.cell 2
    have vd0 : W0.cell? ⟨w.heap.size + 1, 0, none⟩ = some (.slice Ad0 d.points.length cd0) := Kd.out.cell 0
    have vd1 : W0.cell? ⟨w.heap.size + 1, 1, none⟩ = some (.slice Ad1 d.segs.length cd1) := Kd.out.cell 1
    have vs0 : W0.cell? ⟨w.heap.size + 2, 0, none⟩ = some (.string s.name) := Ks.out.cell 0
    have vs1 : W0.cell? ⟨w.heap.size + 2, 1, none⟩ = some (.int .i64 s.length) := Ks.out.cell 1
    have vs2 : W0.cell? ⟨w.heap.size + 2, 2, none⟩ = some (.int .i64 s.draught) := Ks.out.cell 2
    have vs3 : W0.cell? ⟨w.heap.size + 2, 3, none⟩ = some (.int .i64 s.line) := Ks.out.cell 3
    have vs4 : W0.cell? ⟨w.heap.size + 2, 4, none⟩ = some (.int .i64 s.tugs) := Ks.out.cell 4
    have vs5 : W0.cell? ⟨w.heap.size + 2, 5, none⟩ = some (.bool s.slow) := Ks.out.cell 5
    go_wp2_with fail
    rw [← HW0.out]
    clear vf0 vf1 vf2 vd0 vd1 vs0 vs1 vs2 vs3 vs4 vs5
    refine (specForecastOk f.mean _ _ f.parts f.surges _ (Rf.out.below B.out).1 (Rf.out.below B.out).2).mono ?_
    rw [H1.out]
    rintro e w1 ⟨rfl, hb1⟩
    have B1 := Lib.hid (B.out.trans (hb1.mono B.out.size))
    have Kf_1 := Lib.hid (Kf.out.below hb1)
    have Kd_1 := Lib.hid (Kd.out.below hb1)
    have Ks_1 := Lib.hid (Ks.out.below hb1)
    clear hb1
    have vf0 : w1.cell? ⟨w.heap.size, 0, none⟩ = some (.int .i64 f.mean) := Kf_1.out.cell 0
    have vf1 : w1.cell? ⟨w.heap.size, 1, none⟩ = some (.slice Af0 f.parts.length cf0) := Kf_1.out.cell 1
    have vf2 : w1.cell? ⟨w.heap.size, 2, none⟩ = some (.slice Af1 f.surges.length cf1) := Kf_1.out.cell 2
    have vd0 : w1.cell? ⟨w.heap.size + 1, 0, none⟩ = some (.slice Ad0 d.points.length cd0) := Kd_1.out.cell 0
    have vd1 : w1.cell? ⟨w.heap.size + 1, 1, none⟩ = some (.slice Ad1 d.segs.length cd1) := Kd_1.out.cell 1
    have vs0 : w1.cell? ⟨w.heap.size + 2, 0, none⟩ = some (.string s.name) := Ks_1.out.cell 0
    have vs1 : w1.cell? ⟨w.heap.size + 2, 1, none⟩ = some (.int .i64 s.length) := Ks_1.out.cell 1
    have vs2 : w1.cell? ⟨w.heap.size + 2, 2, none⟩ = some (.int .i64 s.draught) := Ks_1.out.cell 2
    have vs3 : w1.cell? ⟨w.heap.size + 2, 3, none⟩ = some (.int .i64 s.line) := Ks_1.out.cell 3
    have vs4 : w1.cell? ⟨w.heap.size + 2, 4, none⟩ = some (.int .i64 s.tugs) := Ks_1.out.cell 4
    have vs5 : w1.cell? ⟨w.heap.size + 2, 5, none⟩ = some (.bool s.slow) := Ks_1.out.cell 5
    go_wp2_with fail
    clear vf0 vf1 vf2 vd0 vd1 vs0 vs1 vs2 vs3 vs4 vs5
    refine (specShipOk s _ Ns.out).mono ?_
    rw [H2.out]
    rintro e w2 ⟨rfl, hb2⟩
    have B2 := Lib.hid (B1.out.trans (hb2.mono B1.out.size))
    have Kf_2 := Lib.hid (Kf_1.out.below hb2)
    have Kd_2 := Lib.hid (Kd_1.out.below hb2)
    have Ks_2 := Lib.hid (Ks_1.out.below hb2)
    clear hb2
    have vf0 : w2.cell? ⟨w.heap.size, 0, none⟩ = some (.int .i64 f.mean) := Kf_2.out.cell 0
    have vf1 : w2.cell? ⟨w.heap.size, 1, none⟩ = some (.slice Af0 f.parts.length cf0) := Kf_2.out.cell 1
    have vf2 : w2.cell? ⟨w.heap.size, 2, none⟩ = some (.slice Af1 f.surges.length cf1) := Kf_2.out.cell 2
    have vd0 : w2.cell? ⟨w.heap.size + 1, 0, none⟩ = some (.slice Ad0 d.points.length cd0) := Kd_2.out.cell 0
    have vd1 : w2.cell? ⟨w.heap.size + 1, 1, none⟩ = some (.slice Ad1 d.segs.length cd1) := Kd_2.out.cell 1
    have vs0 : w2.cell? ⟨w.heap.size + 2, 0, none⟩ = some (.string s.name) := Ks_2.out.cell 0
    have vs1 : w2.cell? ⟨w.heap.size + 2, 1, none⟩ = some (.int .i64 s.length) := Ks_2.out.cell 1
    have vs2 : w2.cell? ⟨w.heap.size + 2, 2, none⟩ = some (.int .i64 s.draught) := Ks_2.out.cell 2
    have vs3 : w2.cell? ⟨w.heap.size + 2, 3, none⟩ = some (.int .i64 s.line) := Ks_2.out.cell 3
    have vs4 : w2.cell? ⟨w.heap.size + 2, 4, none⟩ = some (.int .i64 s.tugs) := Ks_2.out.cell 4
    have vs5 : w2.cell? ⟨w.heap.size + 2, 5, none⟩ = some (.bool s.slow) := Ks_2.out.cell 5
    go_wp2_with fail
    clear vf0 vf1 vf2 vd0 vd1 vs0 vs1 vs2 vs3 vs4 vs5
    refine (specRouteOk _ _ d fr _ r _ (Rd.out.below B2.out) (Rr.out.below B2.out) Nd.out).mono ?_
    rw [H3.out]
    rintro e w3 ⟨rfl, hb3⟩
    have B3 := Lib.hid (B2.out.trans (hb3.mono B2.out.size))
    have Kf_3 := Lib.hid (Kf_2.out.below hb3)
    have Kd_3 := Lib.hid (Kd_2.out.below hb3)
    have Ks_3 := Lib.hid (Ks_2.out.below hb3)
    clear hb3
    go_wp2
    refine bodyPost_ret (v := .tuple #[.slice none 0 0, .bool false]) (by simp [results, Tryz.results28, go_sem, *]) rfl (SailPost.no E.out B3.out)
  | false =>
  have HPP := Lib.hid (show sailPre f d s fr r = true from HP.out.trans (by simp))
  have HFEW := Lib.hid (rte_few H3.out)
  obtain ⟨pts, hpts⟩ : ∃ p, rteL d fr r = p := ⟨_, rfl⟩
  have HPT := Lib.hid hpts
  rw [hpts] at HFEW
  clear HP hpts
  go_enter Tryz.func28, Tryz.ntmps28
  have vf0 : W0.cell? ⟨w.heap.size, 0, none⟩ = some (.int .i64 f.mean) := Kf.out.cell 0
  have vf1 : W0.cell? ⟨w.heap.size, 1, none⟩ = some (.slice Af0 f.parts.length cf0) := Kf.out.cell 1
  have vf2 : W0.cell? ⟨w.heap.size, 2, none⟩ = some (.slice Af1 f.surges.length cf1) := Kf.out.cell 2
  have vd0 : W0.cell? ⟨w.heap.size + 1, 0, none⟩ = some (.slice Ad0 d.points.length cd0) := Kd.out.cell 0
  have vd1 : W0.cell? ⟨w.heap.size + 1, 1, none⟩ = some (.slice Ad1 d.segs.length cd1) := Kd.out.cell 1
  have vs0 : W0.cell? ⟨w.heap.size + 2, 0, none⟩ = some (.string s.name) := Ks.out.cell 0
  have vs1 : W0.cell? ⟨w.heap.size + 2, 1, none⟩ = some (.int .i64 s.length) := Ks.out.cell 1
  have vs2 : W0.cell? ⟨w.heap.size + 2, 2, none⟩ = some (.int .i64 s.draught) := Ks.out.cell 2
  have vs3 : W0.cell? ⟨w.heap.size + 2, 3, none⟩ = some (.int .i64 s.line) := Ks.out.cell 3
  have vs4 : W0.cell? ⟨w.heap.size + 2, 4, none⟩ = some (.int .i64 s.tugs) := Ks.out.cell 4
  have vs5 : W0.cell? ⟨w.heap.size + 2, 5, none⟩ = some (.bool s.slow) := Ks.out.cell 5
  go_wp2_with fail
  rw [← HW0.out]
  clear vf0 vf1 vf2 vd0 vd1 vs0 vs1 vs2 vs3 vs4 vs5
  refine (specForecastOk f.mean _ _ f.parts f.surges _ (Rf.out.below B.out).1 (Rf.out.below B.out).2).mono ?_
  rw [H1.out]
  rintro e w1 ⟨rfl, hb1⟩
  have B1 := Lib.hid (B.out.trans (hb1.mono B.out.size))
  have Kf_1 := Lib.hid (Kf.out.below hb1)
  have Kd_1 := Lib.hid (Kd.out.below hb1)
  have Ks_1 := Lib.hid (Ks.out.below hb1)
  clear hb1
  have vf0 : w1.cell? ⟨w.heap.size, 0, none⟩ = some (.int .i64 f.mean) := Kf_1.out.cell 0
  have vf1 : w1.cell? ⟨w.heap.size, 1, none⟩ = some (.slice Af0 f.parts.length cf0) := Kf_1.out.cell 1
  have vf2 : w1.cell? ⟨w.heap.size, 2, none⟩ = some (.slice Af1 f.surges.length cf1) := Kf_1.out.cell 2
  have vd0 : w1.cell? ⟨w.heap.size + 1, 0, none⟩ = some (.slice Ad0 d.points.length cd0) := Kd_1.out.cell 0
  have vd1 : w1.cell? ⟨w.heap.size + 1, 1, none⟩ = some (.slice Ad1 d.segs.length cd1) := Kd_1.out.cell 1
  have vs0 : w1.cell? ⟨w.heap.size + 2, 0, none⟩ = some (.string s.name) := Ks_1.out.cell 0
  have vs1 : w1.cell? ⟨w.heap.size + 2, 1, none⟩ = some (.int .i64 s.length) := Ks_1.out.cell 1
  have vs2 : w1.cell? ⟨w.heap.size + 2, 2, none⟩ = some (.int .i64 s.draught) := Ks_1.out.cell 2
  have vs3 : w1.cell? ⟨w.heap.size + 2, 3, none⟩ = some (.int .i64 s.line) := Ks_1.out.cell 3
  have vs4 : w1.cell? ⟨w.heap.size + 2, 4, none⟩ = some (.int .i64 s.tugs) := Ks_1.out.cell 4
  have vs5 : w1.cell? ⟨w.heap.size + 2, 5, none⟩ = some (.bool s.slow) := Ks_1.out.cell 5
  go_wp2_with fail
  clear vf0 vf1 vf2 vd0 vd1 vs0 vs1 vs2 vs3 vs4 vs5
  refine (specShipOk s _ Ns.out).mono ?_
  rw [H2.out]
  rintro e w2 ⟨rfl, hb2⟩
  have B2 := Lib.hid (B1.out.trans (hb2.mono B1.out.size))
  have Kf_2 := Lib.hid (Kf_1.out.below hb2)
  have Kd_2 := Lib.hid (Kd_1.out.below hb2)
  have Ks_2 := Lib.hid (Ks_1.out.below hb2)
  clear hb2
  have vf0 : w2.cell? ⟨w.heap.size, 0, none⟩ = some (.int .i64 f.mean) := Kf_2.out.cell 0
  have vf1 : w2.cell? ⟨w.heap.size, 1, none⟩ = some (.slice Af0 f.parts.length cf0) := Kf_2.out.cell 1
  have vf2 : w2.cell? ⟨w.heap.size, 2, none⟩ = some (.slice Af1 f.surges.length cf1) := Kf_2.out.cell 2
  have vd0 : w2.cell? ⟨w.heap.size + 1, 0, none⟩ = some (.slice Ad0 d.points.length cd0) := Kd_2.out.cell 0
  have vd1 : w2.cell? ⟨w.heap.size + 1, 1, none⟩ = some (.slice Ad1 d.segs.length cd1) := Kd_2.out.cell 1
  have vs0 : w2.cell? ⟨w.heap.size + 2, 0, none⟩ = some (.string s.name) := Ks_2.out.cell 0
  have vs1 : w2.cell? ⟨w.heap.size + 2, 1, none⟩ = some (.int .i64 s.length) := Ks_2.out.cell 1
  have vs2 : w2.cell? ⟨w.heap.size + 2, 2, none⟩ = some (.int .i64 s.draught) := Ks_2.out.cell 2
  have vs3 : w2.cell? ⟨w.heap.size + 2, 3, none⟩ = some (.int .i64 s.line) := Ks_2.out.cell 3
  have vs4 : w2.cell? ⟨w.heap.size + 2, 4, none⟩ = some (.int .i64 s.tugs) := Ks_2.out.cell 4
  have vs5 : w2.cell? ⟨w.heap.size + 2, 5, none⟩ = some (.bool s.slow) := Ks_2.out.cell 5
  go_wp2_with fail
  clear vf0 vf1 vf2 vd0 vd1 vs0 vs1 vs2 vs3 vs4 vs5
  refine (specRouteOk _ _ d fr _ r _ (Rd.out.below B2.out) (Rr.out.below B2.out) Nd.out).mono ?_
  rw [H3.out]
  rintro e w3 ⟨rfl, hb3⟩
  have B3 := Lib.hid (B2.out.trans (hb3.mono B2.out.size))
  have Kf_3 := Lib.hid (Kf_2.out.below hb3)
  have Kd_3 := Lib.hid (Kd_2.out.below hb3)
  have Ks_3 := Lib.hid (Ks_2.out.below hb3)
  clear hb3
  have vf0 : w3.cell? ⟨w.heap.size, 0, none⟩ = some (.int .i64 f.mean) := Kf_3.out.cell 0
  have vf1 : w3.cell? ⟨w.heap.size, 1, none⟩ = some (.slice Af0 f.parts.length cf0) := Kf_3.out.cell 1
  have vf2 : w3.cell? ⟨w.heap.size, 2, none⟩ = some (.slice Af1 f.surges.length cf1) := Kf_3.out.cell 2
  have vd0 : w3.cell? ⟨w.heap.size + 1, 0, none⟩ = some (.slice Ad0 d.points.length cd0) := Kd_3.out.cell 0
  have vd1 : w3.cell? ⟨w.heap.size + 1, 1, none⟩ = some (.slice Ad1 d.segs.length cd1) := Kd_3.out.cell 1
  have vs0 : w3.cell? ⟨w.heap.size + 2, 0, none⟩ = some (.string s.name) := Ks_3.out.cell 0
  have vs1 : w3.cell? ⟨w.heap.size + 2, 1, none⟩ = some (.int .i64 s.length) := Ks_3.out.cell 1
  have vs2 : w3.cell? ⟨w.heap.size + 2, 2, none⟩ = some (.int .i64 s.draught) := Ks_3.out.cell 2
  have vs3 : w3.cell? ⟨w.heap.size + 2, 3, none⟩ = some (.int .i64 s.line) := Ks_3.out.cell 3
  have vs4 : w3.cell? ⟨w.heap.size + 2, 4, none⟩ = some (.int .i64 s.tugs) := Ks_3.out.cell 4
  have vs5 : w3.cell? ⟨w.heap.size + 2, 5, none⟩ = some (.bool s.slow) := Ks_3.out.cell 5
  go_wp2_with fail
  clear vf0 vf1 vf2 vd0 vd1 vs0 vs1 vs2 vs3 vs4 vs5
  refine (l08Starts_any _ _ f _ _ d s _ r _ (Rf.out.below B3.out) (Rd.out.below B3.out) (Rr.out.below B3.out) Nd.out Ns.out).mono ?_
  rintro e w4 ⟨vw, rows, rfl, hrows, hrw, hb4⟩
  have B4 := Lib.hid (B3.out.trans (hb4.mono B3.out.size))
  have Kf_4 := Lib.hid (Kf_3.out.below hb4)
  have Kd_4 := Lib.hid (Kd_3.out.below hb4)
  have Ks_4 := Lib.hid (Ks_3.out.below hb4)
  have RW4 := Lib.hid hrw
  have HRO := Lib.hid hrows
  obtain ⟨Aw, cw, rfl⟩ := SlOf.form hrw.1
  clear hrw hrows
  clear hb4
  have vf0 : w4.cell? ⟨w.heap.size, 0, none⟩ = some (.int .i64 f.mean) := Kf_4.out.cell 0
  have vf1 : w4.cell? ⟨w.heap.size, 1, none⟩ = some (.slice Af0 f.parts.length cf0) := Kf_4.out.cell 1
  have vf2 : w4.cell? ⟨w.heap.size, 2, none⟩ = some (.slice Af1 f.surges.length cf1) := Kf_4.out.cell 2
  have vd0 : w4.cell? ⟨w.heap.size + 1, 0, none⟩ = some (.slice Ad0 d.points.length cd0) := Kd_4.out.cell 0
  have vd1 : w4.cell? ⟨w.heap.size + 1, 1, none⟩ = some (.slice Ad1 d.segs.length cd1) := Kd_4.out.cell 1
  have vs0 : w4.cell? ⟨w.heap.size + 2, 0, none⟩ = some (.string s.name) := Ks_4.out.cell 0
  have vs1 : w4.cell? ⟨w.heap.size + 2, 1, none⟩ = some (.int .i64 s.length) := Ks_4.out.cell 1
  have vs2 : w4.cell? ⟨w.heap.size + 2, 2, none⟩ = some (.int .i64 s.draught) := Ks_4.out.cell 2
  have vs3 : w4.cell? ⟨w.heap.size + 2, 3, none⟩ = some (.int .i64 s.line) := Ks_4.out.cell 3
  have vs4 : w4.cell? ⟨w.heap.size + 2, 4, none⟩ = some (.int .i64 s.tugs) := Ks_4.out.cell 4
  have vs5 : w4.cell? ⟨w.heap.size + 2, 5, none⟩ = some (.bool s.slow) := Ks_4.out.cell 5
  go_wp2_with fail
  clear vf0 vf1 vf2 vd0 vd1 vs0 vs1 vs2 vs3 vs4 vs5
  refine (specRoutePoints _ _ d fr _ r _ (Rd.out.below B4.out) (Rr.out.below B4.out) Nd.out).mono ?_
  rw [HPT.out]
  rintro e w5 ⟨vp, rfl, hop, hb5⟩
  have B5 := Lib.hid (B4.out.trans (hb5.mono B4.out.size))
  have Kf_5 := Lib.hid (Kf_4.out.below hb5)
  have Kd_5 := Lib.hid (Kd_4.out.below hb5)
  have Ks_5 := Lib.hid (Ks_4.out.below hb5)
  have RW5 := Lib.hid (RW4.out.below hb5)
  have ST5 := Lib.hid (OwnInt.sl hop (by have := HFEW.out; omega))
  obtain ⟨Ap, cp, rfl⟩ := own_form hop
  clear hop RW4
  clear hb5
  obtain ⟨m0, hm0⟩ : ∃ z, max 0 st = z := ⟨_, rfl⟩
  have E0 := Lib.hid (show firstSail f d s fr r st = firstO f d s fr r m0 (2881 - m0).toNat by unfold firstSail; rw [hm0])
  have hm1 : 0 ≤ m0 := by omega
  have elo : (if 0 < st then st else 0) = m0 := by rw [← hm0]; split <;> omega
  clear hm0
  go_wp2
  go_loopw [16] (fun p wr => ∃ m : Int, p = .int .i64 m ∧ 0 ≤ m ∧ (m0 ≤ m) ∧ Hid (firstSail f d s fr r st = firstO f d s fr r m (2881 - m).toNat) ∧ (m ≤ 2881 ∨ m = m0) ∧ Hid (Below w5.heap.size w5 wr)) (fun p _ => (2881 - intOf p).toNat)
  case atStart => exact ⟨m0, rfl, hm1, Int.le_refl _, E0, .inr rfl, Lib.hid (Below.refl _ _)⟩
  case round =>
    clear E0
    obtain ⟨m, rfl, hp0, hpm, hE, -, hb⟩ := hrel
    have BR := Lib.hid (B5.out.trans (hb.out.mono B5.out.size))
    have Kf_r := Lib.hid (Kf_5.out.below hb.out)
    have Kd_r := Lib.hid (Kd_5.out.below hb.out)
    have Ks_r := Lib.hid (Ks_5.out.below hb.out)
    by_cases hlt : m ≤ 2880
    rotate_left
    · have E := Lib.hid (show firstSail f d s fr r st = none by rw [hE.out, show (2881 - m).toNat = 0 by omega]; rfl)
      go_wp2
      refine bodyPost_ret (v := .tuple #[.slice none 0 0, .bool false]) (by simp [results, Tryz.results28, go_sem, *]) rfl (SailPost.no E.out BR.out)
    have HST := Lib.hid (show firstSail f d s fr r st = (match sailO f d s fr r m with | some out => some out | none => firstO f d s fr r (m + 1) (2881 - (m + 1)).toNat) by rw [hE.out, show (2881 - m).toNat = (2881 - (m + 1)).toNat + 1 by omega]; rfl)
    have vf0 : wr.cell? ⟨w.heap.size, 0, none⟩ = some (.int .i64 f.mean) := Kf_r.out.cell 0
    have vf1 : wr.cell? ⟨w.heap.size, 1, none⟩ = some (.slice Af0 f.parts.length cf0) := Kf_r.out.cell 1
    have vf2 : wr.cell? ⟨w.heap.size, 2, none⟩ = some (.slice Af1 f.surges.length cf1) := Kf_r.out.cell 2
    have vd0 : wr.cell? ⟨w.heap.size + 1, 0, none⟩ = some (.slice Ad0 d.points.length cd0) := Kd_r.out.cell 0
    have vd1 : wr.cell? ⟨w.heap.size + 1, 1, none⟩ = some (.slice Ad1 d.segs.length cd1) := Kd_r.out.cell 1
    have vs0 : wr.cell? ⟨w.heap.size + 2, 0, none⟩ = some (.string s.name) := Ks_r.out.cell 0
    have vs1 : wr.cell? ⟨w.heap.size + 2, 1, none⟩ = some (.int .i64 s.length) := Ks_r.out.cell 1
    have vs2 : wr.cell? ⟨w.heap.size + 2, 2, none⟩ = some (.int .i64 s.draught) := Ks_r.out.cell 2
    have vs3 : wr.cell? ⟨w.heap.size + 2, 3, none⟩ = some (.int .i64 s.line) := Ks_r.out.cell 3
    have vs4 : wr.cell? ⟨w.heap.size + 2, 4, none⟩ = some (.int .i64 s.tugs) := Ks_r.out.cell 4
    have vs5 : wr.cell? ⟨w.heap.size + 2, 5, none⟩ = some (.bool s.slow) := Ks_r.out.cell 5
    go_wp2_with fail
    clear vf0 vf1 vf2 vd0 vd1 vs0 vs1 vs2 vs3 vs4 vs5
    refine (l08Sail_any _ _ d s _ pts _ r _ rows m f fr _ (Rd.out.below BR.out) (ST5.out.below hb.out) (Rr.out.below BR.out) (RW5.out.below hb.out) Nd.out Ns.out HPP.out HPT.out HRO.out).mono ?_
    rintro e w6 ⟨vo, rfl, hoo, hb6⟩
    have B6 := Lib.hid (BR.out.trans (hb6.mono BR.out.size))
    have Kf_6 := Lib.hid (Kf_r.out.below hb6)
    have Kd_6 := Lib.hid (Kd_r.out.below hb6)
    have Ks_6 := Lib.hid (Ks_r.out.below hb6)
    have OO := Lib.hid hoo
    have hbz := Lib.hid (hb.out.trans (hb6.mono hb.out.size))
    obtain ⟨Ao, co, rfl⟩ := own_form hoo
    clear hoo
    clear hb6
    obtain ⟨x, hx⟩ : ∃ x, sailO f d s fr r m = x := ⟨_, rfl⟩
    rw [hx] at HST OO ⊢
    clear hx
    cases x with
    | some out =>
      have E := Lib.hid (show firstSail f d s fr r st = some out from HST.out)
      have OW := Lib.hid (own_lo (base' := w.heap.size) OO.out (by have := BR.out.size; omega))
      simp only [Option.getD_some, Option.isSome_some] at OW ⊢
      go_wp2
      refine bodyPost_ret (v := .tuple #[.slice Ao out.length co, .bool true]) (by simp [results, Tryz.results28, go_sem, *]) rfl (SailPost.yes E.out OW.out B6.out)
    | none =>
      have E := Lib.hid (show firstSail f d s fr r st = firstO f d s fr r (m + 1) (2881 - (m + 1)).toNat from HST.out)
      simp only [Option.getD_none, Option.isSome_none] at OO ⊢
      have wm : IntKind.i64.wrap (m + 1) = m + 1 := by rw [IntKind.wrap_i64]; omega
      go_wp2
      go_roundw
      case rel => exact ⟨m + 1, by first | rfl | go_num, by omega, by omega, E, .inl (by omega), hbz⟩
      case measure => simp [intOf]; omega
end Go.Proofs.YtooeikimoheecaaGreat
