
/- What ExactIsSafePassage and ExactSailRoute and ExactFirstSail rests on, part 29: contracts and mathematics. -/
import Derived.Test.YtooeikimoheecaaGreatGr25
import Derived.Test.YtooeikimoheecaaGreatGr27
import Derived.StillTailTactics
import Derived.Deep.DeepCutAuto
namespace Go.Proofs.YtooeikimoheecaaGreat
open Go.RowKit
set_option maxRecDepth 100000
set_option maxHeartbeats 8000000 in
theorem specIsSafePassage (yf0 yf1 : Value) (f : ForecastD) (yd0 yd1 : Value) (d : ChartD) (yl : Value) (l : List ShipD) (p : PassageD) (w : World) (rf : RdForecast w yf0 yf1 f) (rd : RdChart w yd0 yd1 d) (rl : SlShip w yl l) (fd : ∀ x ∈ d.points, PointD.wf x) (fl : ∀ x ∈ l, ShipD.wf x) :
    Calls Tryz.prog 9 #[.agg #[.int .i64 f.mean, yf0, yf1], .agg #[yd0, yd1], yl, p.val] w (fun e w' => e = .returned (.bool (safeB f d l p)) ∧ Below w.heap.size w w') := by
  have Rf := Lib.hid rf
  obtain ⟨rf0, rf1⟩ := rf
  obtain ⟨Af0, cf0, rfl⟩ := SlOf.form rf0
  obtain ⟨Af1, cf1, rfl⟩ := SlOf.form rf1
  clear rf0 rf1
  have Rd := Lib.hid rd
  obtain ⟨rd0, rd1⟩ := rd
  obtain ⟨Ad0, cd0, rfl⟩ := SlOf.form rd0
  obtain ⟨Ad1, cd1, rfl⟩ := SlOf.form rd1
  have Nd := Lib.hid fd
  clear fd
  clear rd0 rd1
  have Rl := Lib.hid rl
  obtain ⟨Al, cl, rfl⟩ := SlOf.form rl
  clear rl
  have Nl := Lib.hid fl
  clear fl
  obtain ⟨W0, hW0⟩ : ∃ W0, W0 = (((w.alloc (.cells #[.int .i64 f.mean, .slice Af0 f.parts.length cf0, .slice Af1 f.surges.length cf1] 44)).alloc (.cells #[.slice Ad0 d.points.length cd0, .slice Ad1 d.segs.length cd1] 49)).alloc (.cells #[.int .i64 p.ship, .int .i64 p.segment, .bool p.toward, .int .i64 p.start, .int .i64 p.stop] 53)) := ⟨_, rfl⟩
  have B := Lib.hid (((Joins.below_alloc1 w (.cells #[.int .i64 f.mean, .slice Af0 f.parts.length cf0, .slice Af1 f.surges.length cf1] 44)).trans ((Joins.below_alloc1 (w.alloc (.cells #[.int .i64 f.mean, .slice Af0 f.parts.length cf0, .slice Af1 f.surges.length cf1] 44)) (.cells #[.slice Ad0 d.points.length cd0, .slice Ad1 d.segs.length cd1] 49)).mono (by simp; try omega))).trans ((Joins.below_alloc1 ((w.alloc (.cells #[.int .i64 f.mean, .slice Af0 f.parts.length cf0, .slice Af1 f.surges.length cf1] 44)).alloc (.cells #[.slice Ad0 d.points.length cd0, .slice Ad1 d.segs.length cd1] 49)) (.cells #[.int .i64 p.ship, .int .i64 p.segment, .bool p.toward, .int .i64 p.start, .int .i64 p.stop] 53)).mono (by simp; try omega)))
  have Kf := Lib.hid (((Blk.new w #[.int .i64 f.mean, .slice Af0 f.parts.length cf0, .slice Af1 f.surges.length cf1] 44).below (Joins.below_alloc1 _ (.cells #[.slice Ad0 d.points.length cd0, .slice Ad1 d.segs.length cd1] 49))).below (Joins.below_alloc1 _ (.cells #[.int .i64 p.ship, .int .i64 p.segment, .bool p.toward, .int .i64 p.start, .int .i64 p.stop] 53)))
  have Kd := Lib.hid ((Blk.new (w.alloc (.cells #[.int .i64 f.mean, .slice Af0 f.parts.length cf0, .slice Af1 f.surges.length cf1] 44)) #[.slice Ad0 d.points.length cd0, .slice Ad1 d.segs.length cd1] 49).below (Joins.below_alloc1 _ (.cells #[.int .i64 p.ship, .int .i64 p.segment, .bool p.toward, .int .i64 p.start, .int .i64 p.stop] 53)))
  rw [World.size_alloc] at Kd
  have Kp := Lib.hid (Blk.new ((w.alloc (.cells #[.int .i64 f.mean, .slice Af0 f.parts.length cf0, .slice Af1 f.surges.length cf1] 44)).alloc (.cells #[.slice Ad0 d.points.length cd0, .slice Ad1 d.segs.length cd1] 49)) #[.int .i64 p.ship, .int .i64 p.segment, .bool p.toward, .int .i64 p.start, .int .i64 p.stop] 53)
  rw [World.size_alloc, World.size_alloc] at Kp
  have HW0 := Lib.hid hW0
  rw [← hW0] at B Kf Kd Kp
  clear hW0
  have hdl := Rd.out.2.1
  have hll := Rl.out.1
  obtain ⟨b1, hb1⟩ : ∃ b, passB d l p = b := ⟨_, rfl⟩
  have Hb1 := Lib.hid hb1
  cases b1 with
  | false =>
    have E := Lib.hid (safeB_bad (f := f) hb1)
    clear hb1
    go_enter Tryz.func9, Tryz.ntmps9
    have Ff0 := Lib.hid (show W0.cell? ⟨w.heap.size, 0, none⟩ = some (.int .i64 f.mean) from Kf.out.cell 0)
    have Ff1 := Lib.hid (show W0.cell? ⟨w.heap.size, 1, none⟩ = some (.slice Af0 f.parts.length cf0) from Kf.out.cell 1)
    have Ff2 := Lib.hid (show W0.cell? ⟨w.heap.size, 2, none⟩ = some (.slice Af1 f.surges.length cf1) from Kf.out.cell 2)
    have Fd0 := Lib.hid (show W0.cell? ⟨w.heap.size + 1, 0, none⟩ = some (.slice Ad0 d.points.length cd0) from Kd.out.cell 0)
    have Fd1 := Lib.hid (show W0.cell? ⟨w.heap.size + 1, 1, none⟩ = some (.slice Ad1 d.segs.length cd1) from Kd.out.cell 1)
    have Fp0 := Lib.hid (show W0.cell? ⟨w.heap.size + 2, 0, none⟩ = some (.int .i64 p.ship) from Kp.out.cell 0)
    have Fp1 := Lib.hid (show W0.cell? ⟨w.heap.size + 2, 1, none⟩ = some (.int .i64 p.segment) from Kp.out.cell 1)
    have Fp2 := Lib.hid (show W0.cell? ⟨w.heap.size + 2, 2, none⟩ = some (.bool p.toward) from Kp.out.cell 2)
    have Fp3 := Lib.hid (show W0.cell? ⟨w.heap.size + 2, 3, none⟩ = some (.int .i64 p.start) from Kp.out.cell 3)
    have Fp4 := Lib.hid (show W0.cell? ⟨w.heap.size + 2, 4, none⟩ = some (.int .i64 p.stop) from Kp.out.cell 4)
    have DD := Lib.hid ((Below.refl W0.heap.size W0).drew)
    have vFf0 := Ff0.out
    have vFf1 := Ff1.out
    have vFf2 := Ff2.out
    have vFd0 := Fd0.out
    have vFd1 := Fd1.out
    have vFp0 := Fp0.out
    have vFp1 := Fp1.out
    have vFp2 := Fp2.out
    have vFp3 := Fp3.out
    have vFp4 := Fp4.out
    go_upto_region 1 with fail
    rw [← HW0.out]
    refine wp_region_held_drew (S := (fun w' => w'.cell? ⟨w.heap.size, 0, none⟩ = some (.int .i64 f.mean) ∧ w'.cell? ⟨w.heap.size, 1, none⟩ = some (.slice Af0 f.parts.length cf0) ∧ w'.cell? ⟨w.heap.size, 2, none⟩ = some (.slice Af1 f.surges.length cf1) ∧ w'.cell? ⟨w.heap.size + 1, 0, none⟩ = some (.slice Ad0 d.points.length cd0) ∧ w'.cell? ⟨w.heap.size + 1, 1, none⟩ = some (.slice Ad1 d.segs.length cd1) ∧ w'.cell? ⟨w.heap.size + 2, 0, none⟩ = some (.int .i64 p.ship) ∧ w'.cell? ⟨w.heap.size + 2, 1, none⟩ = some (.int .i64 p.segment) ∧ w'.cell? ⟨w.heap.size + 2, 2, none⟩ = some (.bool p.toward) ∧ w'.cell? ⟨w.heap.size + 2, 3, none⟩ = some (.int .i64 p.start) ∧ w'.cell? ⟨w.heap.size + 2, 4, none⟩ = some (.int .i64 p.stop) ∧ Hid (Below W0.heap.size W0 w'))) (by kernel_rfl) ?_ (fun hHeld => ?_)
    · (try dsimp only); go_keep
    refine wpAnyH_take (i := 0) (v := ?_) (by simp only [List.getElem?_toArray, List.getElem?_cons_zero]; rfl) (by kernel_rfl) (by kernel_rfl) (by kernel_rfl) (by exact fun _ _ _ h => h) (Or.inl ⟨by rfl, ?_⟩) (by assumption) ?_; rotate_left; focus (intro w hSw; (try dsimp only at hSw); first | (go_simp; done) | (go_simp; with_reducible rfl))
    try simp only [Act.put, List.setIfInBounds_toArray, List.set_cons_zero, List.set_cons_succ]
    refine wpAnyH_take (i := 1) (v := ?_) (by simp only [List.getElem?_toArray, List.getElem?_cons_succ, List.getElem?_cons_zero]; rfl) (by kernel_rfl) (by kernel_rfl) (by kernel_rfl) (by exact fun _ _ _ h => h) (Or.inl ⟨by rfl, ?_⟩) (by assumption) ?_; rotate_left; focus (intro w hSw; (try dsimp only at hSw); first | (go_simp; done) | (go_simp; with_reducible rfl))
    try simp only [Act.put, List.setIfInBounds_toArray, List.set_cons_zero, List.set_cons_succ]
    refine wpAnyH_take (i := 2) (v := ?_) (by simp only [List.getElem?_toArray, List.getElem?_cons_succ, List.getElem?_cons_zero]; rfl) (by kernel_rfl) (by kernel_rfl) (by kernel_rfl) (by exact fun _ _ _ h => h) (Or.inl ⟨by rfl, ?_⟩) (by assumption) ?_; rotate_left; focus (intro w hSw; (try dsimp only at hSw); first | (go_simp; done) | (go_simp; with_reducible rfl))
    try simp only [Act.put, List.setIfInBounds_toArray, List.set_cons_zero, List.set_cons_succ]
    refine wpAnyH_ready (rs := [3]) (by kernel_rfl) (by simp) ?_
    refine AllReadyH.cons rfl (fun K hK => ?_) AllReadyH.nil
    rw [if_pos (by rfl)]
    go_simp
    go_at_call 34
    have kB := hHeld.2.2.2.2.2.2.2.2.2.2
    refine (specPassageOk _ _ d _ l p _ (Rd.out.below (B.out.trans (kB.out.mono B.out.size))) (Rl.out.below (B.out.trans (kB.out.mono B.out.size))) Nd.out Nl.out).mono ?_
    rw [Hb1.out]
    rintro e wq0_3 ⟨rfl, hbk⟩
    have HBK := kB.out.trans (hbk.mono kB.out.size)
    have QS := Lib.hid (show wq0_3.cell? ⟨w.heap.size, 0, none⟩ = some (.int .i64 f.mean) ∧ wq0_3.cell? ⟨w.heap.size, 1, none⟩ = some (.slice Af0 f.parts.length cf0) ∧ wq0_3.cell? ⟨w.heap.size, 2, none⟩ = some (.slice Af1 f.surges.length cf1) ∧ wq0_3.cell? ⟨w.heap.size + 1, 0, none⟩ = some (.slice Ad0 d.points.length cd0) ∧ wq0_3.cell? ⟨w.heap.size + 1, 1, none⟩ = some (.slice Ad1 d.segs.length cd1) ∧ wq0_3.cell? ⟨w.heap.size + 2, 0, none⟩ = some (.int .i64 p.ship) ∧ wq0_3.cell? ⟨w.heap.size + 2, 1, none⟩ = some (.int .i64 p.segment) ∧ wq0_3.cell? ⟨w.heap.size + 2, 2, none⟩ = some (.bool p.toward) ∧ wq0_3.cell? ⟨w.heap.size + 2, 3, none⟩ = some (.int .i64 p.start) ∧ wq0_3.cell? ⟨w.heap.size + 2, 4, none⟩ = some (.int .i64 p.stop) ∧ Hid (Below W0.heap.size W0 wq0_3) from ⟨cell_onV Ff0.out HBK, cell_onV Ff1.out HBK, cell_onV Ff2.out HBK, cell_onV Fd0.out HBK, cell_onV Fd1.out HBK, cell_onV Fp0.out HBK, cell_onV Fp1.out HBK, cell_onV Fp2.out HBK, cell_onV Fp3.out HBK, cell_onV Fp4.out HBK, Lib.hid HBK⟩)
    clear hbk kB hHeld HBK
    go_simp
    refine hK.out _ _ ?_ (fun hHeld => ?_)
    · (try dsimp only); exact QS.out
    clear hK K
    try simp only [Act.put, List.setIfInBounds_toArray, List.set_cons_zero, List.set_cons_succ]
    refine wpAnyH_take (i := 4) (v := ?_) (by simp only [List.getElem?_toArray, List.getElem?_cons_succ, List.getElem?_cons_zero]; rfl) (by kernel_rfl) (by kernel_rfl) (by kernel_rfl) (by exact fun _ _ _ h => h) (Or.inl ⟨by rfl, ?_⟩) (by assumption) ?_; rotate_left; focus (intro w hSw; (try dsimp only at hSw); first | (go_simp; done) | (go_simp; with_reducible rfl))
    try simp only [Act.put, List.setIfInBounds_toArray, List.set_cons_zero, List.set_cons_succ]
    refine wpAnyH_take (i := 5) (v := undef) (by simp only [List.getElem?_toArray, List.getElem?_cons_succ, List.getElem?_cons_zero]; rfl) (by kernel_rfl) (by kernel_rfl) (by kernel_rfl) (by exact fun _ _ _ h => h) (Or.inr ⟨by rfl, rfl⟩) (by assumption) ?_
    try simp only [Act.put, List.setIfInBounds_toArray, List.set_cons_zero, List.set_cons_succ]
    refine wpAnyH_take (i := 6) (v := undef) (by simp only [List.getElem?_toArray, List.getElem?_cons_succ, List.getElem?_cons_zero]; rfl) (by kernel_rfl) (by kernel_rfl) (by kernel_rfl) (by exact fun _ _ _ h => h) (Or.inr ⟨by rfl, rfl⟩) (by assumption) ?_
    try simp only [Act.put, List.setIfInBounds_toArray, List.set_cons_zero, List.set_cons_succ]
    refine wpAnyH_take (i := 7) (v := undef) (by simp only [List.getElem?_toArray, List.getElem?_cons_succ, List.getElem?_cons_zero]; rfl) (by kernel_rfl) (by kernel_rfl) (by kernel_rfl) (by exact fun _ _ _ h => h) (Or.inr ⟨by rfl, rfl⟩) (by assumption) ?_
    try simp only [Act.put, List.setIfInBounds_toArray, List.set_cons_zero, List.set_cons_succ]
    refine wpAnyH_take (i := 8) (v := undef) (by simp only [List.getElem?_toArray, List.getElem?_cons_succ, List.getElem?_cons_zero]; rfl) (by kernel_rfl) (by kernel_rfl) (by kernel_rfl) (by exact fun _ _ _ h => h) (Or.inr ⟨by rfl, rfl⟩) (by assumption) ?_
    try simp only [Act.put, List.setIfInBounds_toArray, List.set_cons_zero, List.set_cons_succ]
    refine wpAnyH_take (i := 9) (v := undef) (by simp only [List.getElem?_toArray, List.getElem?_cons_succ, List.getElem?_cons_zero]; rfl) (by kernel_rfl) (by kernel_rfl) (by kernel_rfl) (by exact fun _ _ _ h => h) (Or.inr ⟨by rfl, rfl⟩) (by assumption) ?_
    try simp only [Act.put, List.setIfInBounds_toArray, List.set_cons_zero, List.set_cons_succ]
    refine wpAnyH_take (i := 10) (v := undef) (by simp only [List.getElem?_toArray, List.getElem?_cons_succ, List.getElem?_cons_zero]; rfl) (by kernel_rfl) (by kernel_rfl) (by kernel_rfl) (by exact fun _ _ _ h => h) (Or.inr ⟨by rfl, rfl⟩) (by assumption) ?_
    try simp only [Act.put, List.setIfInBounds_toArray, List.set_cons_zero, List.set_cons_succ]
    refine wpAnyH_take (i := 11) (v := undef) (by simp only [List.getElem?_toArray, List.getElem?_cons_succ, List.getElem?_cons_zero]; rfl) (by kernel_rfl) (by kernel_rfl) (by kernel_rfl) (by exact fun _ _ _ h => h) (Or.inr ⟨by rfl, rfl⟩) (by assumption) ?_
    try simp only [Act.put, List.setIfInBounds_toArray, List.set_cons_zero, List.set_cons_succ]
    refine wpAnyH_take (i := 12) (v := undef) (by simp only [List.getElem?_toArray, List.getElem?_cons_succ, List.getElem?_cons_zero]; rfl) (by kernel_rfl) (by kernel_rfl) (by kernel_rfl) (by exact fun _ _ _ h => h) (Or.inr ⟨by rfl, rfl⟩) (by assumption) ?_
    try simp only [Act.put, List.setIfInBounds_toArray, List.set_cons_zero, List.set_cons_succ]
    refine wpAnyH_take (i := 13) (v := undef) (by simp only [List.getElem?_toArray, List.getElem?_cons_succ, List.getElem?_cons_zero]; rfl) (by kernel_rfl) (by kernel_rfl) (by kernel_rfl) (by exact fun _ _ _ h => h) (Or.inr ⟨by rfl, rfl⟩) (by assumption) ?_
    try simp only [Act.put, List.setIfInBounds_toArray, List.set_cons_zero, List.set_cons_succ]
    refine wpAnyH_take (i := 14) (v := undef) (by simp only [List.getElem?_toArray, List.getElem?_cons_succ, List.getElem?_cons_zero]; rfl) (by kernel_rfl) (by kernel_rfl) (by kernel_rfl) (by exact fun _ _ _ h => h) (Or.inr ⟨by rfl, rfl⟩) (by assumption) ?_
    try simp only [Act.put, List.setIfInBounds_toArray, List.set_cons_zero, List.set_cons_succ]
    refine wpAnyH_take (i := 15) (v := undef) (by simp only [List.getElem?_toArray, List.getElem?_cons_succ, List.getElem?_cons_zero]; rfl) (by kernel_rfl) (by kernel_rfl) (by kernel_rfl) (by exact fun _ _ _ h => h) (Or.inr ⟨by rfl, rfl⟩) (by assumption) ?_
    try simp only [Act.put, List.setIfInBounds_toArray, List.set_cons_zero, List.set_cons_succ]
    refine wpAnyH_take (i := 16) (v := undef) (by simp only [List.getElem?_toArray, List.getElem?_cons_succ, List.getElem?_cons_zero]; rfl) (by kernel_rfl) (by kernel_rfl) (by kernel_rfl) (by exact fun _ _ _ h => h) (Or.inr ⟨by rfl, rfl⟩) (by assumption) ?_
    try simp only [Act.put, List.setIfInBounds_toArray, List.set_cons_zero, List.set_cons_succ]
    refine wpAnyH_take (i := 17) (v := ?_) (by simp only [List.getElem?_toArray, List.getElem?_cons_succ, List.getElem?_cons_zero]; rfl) (by kernel_rfl) (by kernel_rfl) (by kernel_rfl) (by exact fun _ _ _ h => h) (Or.inl ⟨by rfl, ?_⟩) (by assumption) ?_; rotate_left; focus (intro w hSw; (try dsimp only at hSw); first | (go_simp; done) | (go_simp; with_reducible rfl))
    try simp only [Act.put, List.setIfInBounds_toArray, List.set_cons_zero, List.set_cons_succ]
    refine wpAnyH_take (i := 18) (v := ?_) (by simp only [List.getElem?_toArray, List.getElem?_cons_succ, List.getElem?_cons_zero]; rfl) (by kernel_rfl) (by kernel_rfl) (by kernel_rfl) (by exact fun _ _ _ h => h) (Or.inl ⟨by rfl, ?_⟩) (by assumption) ?_; rotate_left; focus (intro w hSw; (try dsimp only at hSw); first | (go_simp; done) | (go_simp; with_reducible rfl))
    try simp only [Act.put, List.setIfInBounds_toArray, List.set_cons_zero, List.set_cons_succ]
    refine wpAnyH_done (by kernel_rfl) ?_ _
    go_wp2
    go_ret
    exact ⟨ret_bool E.out.symm, B.out.trans (hHeld.2.2.2.2.2.2.2.2.2.2.out.mono B.out.size)⟩
  | true =>
  have hpre : passPre d l p = true := by
    have := hb1
    unfold passB at this
    simp only [Bool.and_eq_true] at this
    exact this.1
  have hb3 : inB p.ship 0 ((l.length : Int) - 1) = true := by
    have := hpre
    unfold passPre at this
    simp only [Bool.and_eq_true] at this
    exact this.1.1.2
  obtain ⟨s, hs, hx, i0, il⟩ := shipAt_in hb3
  have E0 := Lib.hid (safeB_ok (f := f) hb1 hs)
  have HX := Lib.hid (List.mem_of_getElem? hx)
  obtain ⟨k, hk⟩ : ∃ k : Nat, p.ship = (k : Int) := ⟨p.ship.toNat, by omega⟩
  rw [hk] at hx il
  simp only [Int.toNat_natCast] at hx il
  rw [hk] at Kp
  have HK := Lib.hid hk
  have Hbk := Lib.hid (show passB d l ⟨(k : Int), p.segment, p.toward, p.start, p.stop⟩ = true by rw [← HK.out]; exact Hb1.out)
  rcases Rl.out.2 with ⟨he, _⟩ | ⟨g, o, c, e, hpos, hcap, hc⟩
  · rw [he] at il; simp at il
  injection e with hA _ hcp
  subst hA hcp
  obtain ⟨q0, q1, q2, q3, q4, q5⟩ := SlShip.cells hc k s hx
  have Y0 := Lib.hid q0
  have Y1 := Lib.hid q1
  have Y2 := Lib.hid q2
  have Y3 := Lib.hid q3
  have Y4 := Lib.hid q4
  have Y5 := Lib.hid q5
  obtain ⟨b2, hb2⟩ : ∃ b, startB false f d p.segment s p.start = b := ⟨_, rfl⟩
  have Hb2 := Lib.hid hb2
  have E := Lib.hid (E0.out.trans hb2)
  clear q0 q1 q2 q3 q4 q5 hc hx hs i0 hb1 hb2 hb3 hpre hk E0
  have FY0 := Lib.hid (show W0.cell? ⟨g, o + k * 6, none⟩ = some (.string s.name) from cell_onV Y0.out B.out)
  have FY1 := Lib.hid (show W0.cell? ⟨g, o + k * 6 + 1, none⟩ = some (.int .i64 s.length) from cell_onV Y1.out B.out)
  have FY2 := Lib.hid (show W0.cell? ⟨g, o + k * 6 + 2, none⟩ = some (.int .i64 s.draught) from cell_onV Y2.out B.out)
  have FY3 := Lib.hid (show W0.cell? ⟨g, o + k * 6 + 3, none⟩ = some (.int .i64 s.line) from cell_onV Y3.out B.out)
  have FY4 := Lib.hid (show W0.cell? ⟨g, o + k * 6 + 4, none⟩ = some (.int .i64 s.tugs) from cell_onV Y4.out B.out)
  have FY5 := Lib.hid (show W0.cell? ⟨g, o + k * 6 + 5, none⟩ = some (.bool s.slow) from cell_onV Y5.out B.out)
  go_enter Tryz.func9, Tryz.ntmps9
  have Ff0 := Lib.hid (show W0.cell? ⟨w.heap.size, 0, none⟩ = some (.int .i64 f.mean) from Kf.out.cell 0)
  have Ff1 := Lib.hid (show W0.cell? ⟨w.heap.size, 1, none⟩ = some (.slice Af0 f.parts.length cf0) from Kf.out.cell 1)
  have Ff2 := Lib.hid (show W0.cell? ⟨w.heap.size, 2, none⟩ = some (.slice Af1 f.surges.length cf1) from Kf.out.cell 2)
  have Fd0 := Lib.hid (show W0.cell? ⟨w.heap.size + 1, 0, none⟩ = some (.slice Ad0 d.points.length cd0) from Kd.out.cell 0)
  have Fd1 := Lib.hid (show W0.cell? ⟨w.heap.size + 1, 1, none⟩ = some (.slice Ad1 d.segs.length cd1) from Kd.out.cell 1)
  have Fp0 := Lib.hid (show W0.cell? ⟨w.heap.size + 2, 0, none⟩ = some (.int .i64 (k : Int)) from Kp.out.cell 0)
  have Fp1 := Lib.hid (show W0.cell? ⟨w.heap.size + 2, 1, none⟩ = some (.int .i64 p.segment) from Kp.out.cell 1)
  have Fp2 := Lib.hid (show W0.cell? ⟨w.heap.size + 2, 2, none⟩ = some (.bool p.toward) from Kp.out.cell 2)
  have Fp3 := Lib.hid (show W0.cell? ⟨w.heap.size + 2, 3, none⟩ = some (.int .i64 p.start) from Kp.out.cell 3)
  have Fp4 := Lib.hid (show W0.cell? ⟨w.heap.size + 2, 4, none⟩ = some (.int .i64 p.stop) from Kp.out.cell 4)
  have DD := Lib.hid ((Below.refl W0.heap.size W0).drew)
  have vFf0 := Ff0.out
  have vFf1 := Ff1.out
  have vFf2 := Ff2.out
  have vFd0 := Fd0.out
  have vFd1 := Fd1.out
  have vFp0 := Fp0.out
  have vFp1 := Fp1.out
  have vFp2 := Fp2.out
  have vFp3 := Fp3.out
  have vFp4 := Fp4.out
  have vFY0 := FY0.out
  have vFY1 := FY1.out
  have vFY2 := FY2.out
  have vFY3 := FY3.out
  have vFY4 := FY4.out
  have vFY5 := FY5.out
  go_upto_region 1 with fail
  rw [← HW0.out]
  refine wp_region_held_drew (S := (fun w' => w'.cell? ⟨w.heap.size, 0, none⟩ = some (.int .i64 f.mean) ∧ w'.cell? ⟨w.heap.size, 1, none⟩ = some (.slice Af0 f.parts.length cf0) ∧ w'.cell? ⟨w.heap.size, 2, none⟩ = some (.slice Af1 f.surges.length cf1) ∧ w'.cell? ⟨w.heap.size + 1, 0, none⟩ = some (.slice Ad0 d.points.length cd0) ∧ w'.cell? ⟨w.heap.size + 1, 1, none⟩ = some (.slice Ad1 d.segs.length cd1) ∧ w'.cell? ⟨w.heap.size + 2, 0, none⟩ = some (.int .i64 (k : Int)) ∧ w'.cell? ⟨w.heap.size + 2, 1, none⟩ = some (.int .i64 p.segment) ∧ w'.cell? ⟨w.heap.size + 2, 2, none⟩ = some (.bool p.toward) ∧ w'.cell? ⟨w.heap.size + 2, 3, none⟩ = some (.int .i64 p.start) ∧ w'.cell? ⟨w.heap.size + 2, 4, none⟩ = some (.int .i64 p.stop) ∧ w'.cell? ⟨g, o + k * 6, none⟩ = some (.string s.name) ∧ w'.cell? ⟨g, o + k * 6 + 1, none⟩ = some (.int .i64 s.length) ∧ w'.cell? ⟨g, o + k * 6 + 2, none⟩ = some (.int .i64 s.draught) ∧ w'.cell? ⟨g, o + k * 6 + 3, none⟩ = some (.int .i64 s.line) ∧ w'.cell? ⟨g, o + k * 6 + 4, none⟩ = some (.int .i64 s.tugs) ∧ w'.cell? ⟨g, o + k * 6 + 5, none⟩ = some (.bool s.slow) ∧ Hid (Below W0.heap.size W0 w'))) (by kernel_rfl) ?_ (fun hHeld => ?_)
  · (try dsimp only); go_keep
  refine wpAnyH_take (i := 0) (v := ?_) (by simp only [List.getElem?_toArray, List.getElem?_cons_zero]; rfl) (by kernel_rfl) (by kernel_rfl) (by kernel_rfl) (by exact fun _ _ _ h => h) (Or.inl ⟨by rfl, ?_⟩) (by assumption) ?_; rotate_left; focus (intro w hSw; (try dsimp only at hSw); first | (go_simp; done) | (go_simp; with_reducible rfl))
  try simp only [Act.put, List.setIfInBounds_toArray, List.set_cons_zero, List.set_cons_succ]
  refine wpAnyH_take (i := 1) (v := ?_) (by simp only [List.getElem?_toArray, List.getElem?_cons_succ, List.getElem?_cons_zero]; rfl) (by kernel_rfl) (by kernel_rfl) (by kernel_rfl) (by exact fun _ _ _ h => h) (Or.inl ⟨by rfl, ?_⟩) (by assumption) ?_; rotate_left; focus (intro w hSw; (try dsimp only at hSw); first | (go_simp; done) | (go_simp; with_reducible rfl))
  try simp only [Act.put, List.setIfInBounds_toArray, List.set_cons_zero, List.set_cons_succ]
  refine wpAnyH_take (i := 2) (v := ?_) (by simp only [List.getElem?_toArray, List.getElem?_cons_succ, List.getElem?_cons_zero]; rfl) (by kernel_rfl) (by kernel_rfl) (by kernel_rfl) (by exact fun _ _ _ h => h) (Or.inl ⟨by rfl, ?_⟩) (by assumption) ?_; rotate_left; focus (intro w hSw; (try dsimp only at hSw); first | (go_simp; done) | (go_simp; with_reducible rfl))
  try simp only [Act.put, List.setIfInBounds_toArray, List.set_cons_zero, List.set_cons_succ]
  refine wpAnyH_ready (rs := [3]) (by kernel_rfl) (by simp) ?_
  refine AllReadyH.cons rfl (fun K hK => ?_) AllReadyH.nil
  rw [if_pos (by rfl)]
  go_simp
  go_at_call 34
  have kB := hHeld.2.2.2.2.2.2.2.2.2.2.2.2.2.2.2.2
  refine (specPassageOk _ _ d _ l ⟨(k : Int), p.segment, p.toward, p.start, p.stop⟩ _ (Rd.out.below (B.out.trans (kB.out.mono B.out.size))) (Rl.out.below (B.out.trans (kB.out.mono B.out.size))) Nd.out Nl.out).mono ?_
  rw [Hbk.out]
  rintro e wq0_3 ⟨rfl, hbk⟩
  have HBK := kB.out.trans (hbk.mono kB.out.size)
  have QS := Lib.hid (show wq0_3.cell? ⟨w.heap.size, 0, none⟩ = some (.int .i64 f.mean) ∧ wq0_3.cell? ⟨w.heap.size, 1, none⟩ = some (.slice Af0 f.parts.length cf0) ∧ wq0_3.cell? ⟨w.heap.size, 2, none⟩ = some (.slice Af1 f.surges.length cf1) ∧ wq0_3.cell? ⟨w.heap.size + 1, 0, none⟩ = some (.slice Ad0 d.points.length cd0) ∧ wq0_3.cell? ⟨w.heap.size + 1, 1, none⟩ = some (.slice Ad1 d.segs.length cd1) ∧ wq0_3.cell? ⟨w.heap.size + 2, 0, none⟩ = some (.int .i64 (k : Int)) ∧ wq0_3.cell? ⟨w.heap.size + 2, 1, none⟩ = some (.int .i64 p.segment) ∧ wq0_3.cell? ⟨w.heap.size + 2, 2, none⟩ = some (.bool p.toward) ∧ wq0_3.cell? ⟨w.heap.size + 2, 3, none⟩ = some (.int .i64 p.start) ∧ wq0_3.cell? ⟨w.heap.size + 2, 4, none⟩ = some (.int .i64 p.stop) ∧ wq0_3.cell? ⟨g, o + k * 6, none⟩ = some (.string s.name) ∧ wq0_3.cell? ⟨g, o + k * 6 + 1, none⟩ = some (.int .i64 s.length) ∧ wq0_3.cell? ⟨g, o + k * 6 + 2, none⟩ = some (.int .i64 s.draught) ∧ wq0_3.cell? ⟨g, o + k * 6 + 3, none⟩ = some (.int .i64 s.line) ∧ wq0_3.cell? ⟨g, o + k * 6 + 4, none⟩ = some (.int .i64 s.tugs) ∧ wq0_3.cell? ⟨g, o + k * 6 + 5, none⟩ = some (.bool s.slow) ∧ Hid (Below W0.heap.size W0 wq0_3) from ⟨cell_onV Ff0.out HBK, cell_onV Ff1.out HBK, cell_onV Ff2.out HBK, cell_onV Fd0.out HBK, cell_onV Fd1.out HBK, cell_onV Fp0.out HBK, cell_onV Fp1.out HBK, cell_onV Fp2.out HBK, cell_onV Fp3.out HBK, cell_onV Fp4.out HBK, cell_onV FY0.out HBK, cell_onV FY1.out HBK, cell_onV FY2.out HBK, cell_onV FY3.out HBK, cell_onV FY4.out HBK, cell_onV FY5.out HBK, Lib.hid HBK⟩)
  clear hbk kB hHeld HBK
  go_simp
  refine hK.out _ _ ?_ (fun hHeld => ?_)
  · (try dsimp only); exact QS.out
  clear hK K
  try simp only [Act.put, List.setIfInBounds_toArray, List.set_cons_zero, List.set_cons_succ]
  refine wpAnyH_take (i := 4) (v := ?_) (by simp only [List.getElem?_toArray, List.getElem?_cons_succ, List.getElem?_cons_zero]; rfl) (by kernel_rfl) (by kernel_rfl) (by kernel_rfl) (by exact fun _ _ _ h => h) (Or.inl ⟨by rfl, ?_⟩) (by assumption) ?_; rotate_left; focus (intro w hSw; (try dsimp only at hSw); first | (go_simp; done) | (go_simp; with_reducible rfl))
  try simp only [Act.put, List.setIfInBounds_toArray, List.set_cons_zero, List.set_cons_succ]
  refine wpAnyH_take (i := 5) (v := ?_) (by simp only [List.getElem?_toArray, List.getElem?_cons_succ, List.getElem?_cons_zero]; rfl) (by kernel_rfl) (by kernel_rfl) (by kernel_rfl) (by exact fun _ _ _ h => h) (Or.inl ⟨by rfl, ?_⟩) (by assumption) ?_; rotate_left; focus (intro w hSw; (try dsimp only at hSw); first | (go_simp; done) | (go_simp; with_reducible rfl))
  try simp only [Act.put, List.setIfInBounds_toArray, List.set_cons_zero, List.set_cons_succ]
  refine wpAnyH_take (i := 6) (v := ?_) (by simp only [List.getElem?_toArray, List.getElem?_cons_succ, List.getElem?_cons_zero]; rfl) (by kernel_rfl) (by kernel_rfl) (by kernel_rfl) (by exact fun _ _ _ h => h) (Or.inl ⟨by rfl, ?_⟩) (by assumption) ?_; rotate_left; focus (intro w hSw; (try dsimp only at hSw); first | (go_simp; done) | (go_simp; with_reducible rfl))
  try simp only [Act.put, List.setIfInBounds_toArray, List.set_cons_zero, List.set_cons_succ]
  refine wpAnyH_take (i := 7) (v := ?_) (by simp only [List.getElem?_toArray, List.getElem?_cons_succ, List.getElem?_cons_zero]; rfl) (by kernel_rfl) (by kernel_rfl) (by kernel_rfl) (by exact fun _ _ _ h => h) (Or.inl ⟨by rfl, ?_⟩) (by assumption) ?_; rotate_left; focus (intro w hSw; (try dsimp only at hSw); first | (go_simp; done) | (go_simp; with_reducible rfl))
  try simp only [Act.put, List.setIfInBounds_toArray, List.set_cons_zero, List.set_cons_succ]
  refine wpAnyH_take (i := 8) (v := ?_) (by simp only [List.getElem?_toArray, List.getElem?_cons_succ, List.getElem?_cons_zero]; rfl) (by kernel_rfl) (by kernel_rfl) (by kernel_rfl) (by exact fun _ _ _ h => h) (Or.inl ⟨by rfl, ?_⟩) (by assumption) ?_; rotate_left; focus (intro w hSw; (try dsimp only at hSw); first | (go_simp; done) | (go_simp; with_reducible rfl))
  try simp only [Act.put, List.setIfInBounds_toArray, List.set_cons_zero, List.set_cons_succ]
  refine wpAnyH_take (i := 9) (v := ?_) (by simp only [List.getElem?_toArray, List.getElem?_cons_succ, List.getElem?_cons_zero]; rfl) (by kernel_rfl) (by kernel_rfl) (by kernel_rfl) (by exact fun _ _ _ h => h) (Or.inl ⟨by rfl, ?_⟩) (by assumption) ?_; rotate_left; focus (intro w hSw; (try dsimp only at hSw); first | (go_simp; done) | (go_simp; with_reducible rfl))
  try simp only [Act.put, List.setIfInBounds_toArray, List.set_cons_zero, List.set_cons_succ]
  refine wpAnyH_take (i := 10) (v := ?_) (by simp only [List.getElem?_toArray, List.getElem?_cons_succ, List.getElem?_cons_zero]; rfl) (by kernel_rfl) (by kernel_rfl) (by kernel_rfl) (by exact fun _ _ _ h => h) (Or.inl ⟨by rfl, ?_⟩) (by assumption) ?_; rotate_left; focus (intro w hSw; (try dsimp only at hSw); first | (go_simp; done) | (go_simp; with_reducible rfl))
  try simp only [Act.put, List.setIfInBounds_toArray, List.set_cons_zero, List.set_cons_succ]
  refine wpAnyH_take (i := 11) (v := ?_) (by simp only [List.getElem?_toArray, List.getElem?_cons_succ, List.getElem?_cons_zero]; rfl) (by kernel_rfl) (by kernel_rfl) (by kernel_rfl) (by exact fun _ _ _ h => h) (Or.inl ⟨by rfl, ?_⟩) (by assumption) ?_; rotate_left; focus (intro w hSw; (try dsimp only at hSw); first | (go_simp; done) | (go_simp; with_reducible rfl))
  try simp only [Act.put, List.setIfInBounds_toArray, List.set_cons_zero, List.set_cons_succ]
  refine wpAnyH_take (i := 12) (v := ?_) (by simp only [List.getElem?_toArray, List.getElem?_cons_succ, List.getElem?_cons_zero]; rfl) (by kernel_rfl) (by kernel_rfl) (by kernel_rfl) (by exact fun _ _ _ h => h) (Or.inl ⟨by rfl, ?_⟩) (by assumption) ?_; rotate_left; focus (intro w hSw; (try dsimp only at hSw); first | (go_simp; done) | (go_simp; with_reducible rfl))
  try simp only [Act.put, List.setIfInBounds_toArray, List.set_cons_zero, List.set_cons_succ]
  refine wpAnyH_take (i := 13) (v := ?_) (by simp only [List.getElem?_toArray, List.getElem?_cons_succ, List.getElem?_cons_zero]; rfl) (by kernel_rfl) (by kernel_rfl) (by kernel_rfl) (by exact fun _ _ _ h => h) (Or.inl ⟨by rfl, ?_⟩) (by assumption) ?_; rotate_left; focus (intro w hSw; (try dsimp only at hSw); first | (go_simp; done) | (go_simp; with_reducible rfl))
  try simp only [Act.put, List.setIfInBounds_toArray, List.set_cons_zero, List.set_cons_succ]
  refine wpAnyH_take (i := 14) (v := ?_) (by simp only [List.getElem?_toArray, List.getElem?_cons_succ, List.getElem?_cons_zero]; rfl) (by kernel_rfl) (by kernel_rfl) (by kernel_rfl) (by exact fun _ _ _ h => h) (Or.inl ⟨by rfl, ?_⟩) (by assumption) ?_; rotate_left; focus (intro w hSw; (try dsimp only at hSw); first | (go_simp; done) | (go_simp; with_reducible rfl))
  try simp only [Act.put, List.setIfInBounds_toArray, List.set_cons_zero, List.set_cons_succ]
  refine wpAnyH_take (i := 15) (v := ?_) (by simp only [List.getElem?_toArray, List.getElem?_cons_succ, List.getElem?_cons_zero]; rfl) (by kernel_rfl) (by kernel_rfl) (by kernel_rfl) (by exact fun _ _ _ h => h) (Or.inl ⟨by rfl, ?_⟩) (by assumption) ?_; rotate_left; focus (intro w hSw; (try dsimp only at hSw); first | (go_simp; done) | (go_simp; with_reducible rfl))
  try simp only [Act.put, List.setIfInBounds_toArray, List.set_cons_zero, List.set_cons_succ]
  refine wpAnyH_ready (rs := [16]) (by kernel_rfl) (by simp) ?_
  refine AllReadyH.cons rfl (fun K hK => ?_) AllReadyH.nil
  rw [if_pos (by rfl)]
  go_simp
  go_at_call 35
  have kB := hHeld.2.2.2.2.2.2.2.2.2.2.2.2.2.2.2.2
  refine (specIsSure _ _ f _ _ d p.segment s p.start _ (Rf.out.below (B.out.trans (kB.out.mono B.out.size))) (Rd.out.below (B.out.trans (kB.out.mono B.out.size))) Nd.out (Nl.out s HX.out)).mono ?_
  rw [Hb2.out]
  rintro e wq0_16 ⟨rfl, hbk⟩
  have HBK := kB.out.trans (hbk.mono kB.out.size)
  have QS := Lib.hid (show wq0_16.cell? ⟨w.heap.size, 0, none⟩ = some (.int .i64 f.mean) ∧ wq0_16.cell? ⟨w.heap.size, 1, none⟩ = some (.slice Af0 f.parts.length cf0) ∧ wq0_16.cell? ⟨w.heap.size, 2, none⟩ = some (.slice Af1 f.surges.length cf1) ∧ wq0_16.cell? ⟨w.heap.size + 1, 0, none⟩ = some (.slice Ad0 d.points.length cd0) ∧ wq0_16.cell? ⟨w.heap.size + 1, 1, none⟩ = some (.slice Ad1 d.segs.length cd1) ∧ wq0_16.cell? ⟨w.heap.size + 2, 0, none⟩ = some (.int .i64 (k : Int)) ∧ wq0_16.cell? ⟨w.heap.size + 2, 1, none⟩ = some (.int .i64 p.segment) ∧ wq0_16.cell? ⟨w.heap.size + 2, 2, none⟩ = some (.bool p.toward) ∧ wq0_16.cell? ⟨w.heap.size + 2, 3, none⟩ = some (.int .i64 p.start) ∧ wq0_16.cell? ⟨w.heap.size + 2, 4, none⟩ = some (.int .i64 p.stop) ∧ wq0_16.cell? ⟨g, o + k * 6, none⟩ = some (.string s.name) ∧ wq0_16.cell? ⟨g, o + k * 6 + 1, none⟩ = some (.int .i64 s.length) ∧ wq0_16.cell? ⟨g, o + k * 6 + 2, none⟩ = some (.int .i64 s.draught) ∧ wq0_16.cell? ⟨g, o + k * 6 + 3, none⟩ = some (.int .i64 s.line) ∧ wq0_16.cell? ⟨g, o + k * 6 + 4, none⟩ = some (.int .i64 s.tugs) ∧ wq0_16.cell? ⟨g, o + k * 6 + 5, none⟩ = some (.bool s.slow) ∧ Hid (Below W0.heap.size W0 wq0_16) from ⟨cell_onV Ff0.out HBK, cell_onV Ff1.out HBK, cell_onV Ff2.out HBK, cell_onV Fd0.out HBK, cell_onV Fd1.out HBK, cell_onV Fp0.out HBK, cell_onV Fp1.out HBK, cell_onV Fp2.out HBK, cell_onV Fp3.out HBK, cell_onV Fp4.out HBK, cell_onV FY0.out HBK, cell_onV FY1.out HBK, cell_onV FY2.out HBK, cell_onV FY3.out HBK, cell_onV FY4.out HBK, cell_onV FY5.out HBK, Lib.hid HBK⟩)
  clear hbk kB hHeld HBK
  go_simp
  refine hK.out _ _ ?_ (fun hHeld => ?_)
  · (try dsimp only); exact QS.out
  clear hK K
  try simp only [Act.put, List.setIfInBounds_toArray, List.set_cons_zero, List.set_cons_succ]
  refine wpAnyH_take (i := 17) (v := ?_) (by simp only [List.getElem?_toArray, List.getElem?_cons_succ, List.getElem?_cons_zero]; rfl) (by kernel_rfl) (by kernel_rfl) (by kernel_rfl) (by exact fun _ _ _ h => h) (Or.inl ⟨by rfl, ?_⟩) (by assumption) ?_; rotate_left; focus (intro w hSw; (try dsimp only at hSw); first | (go_simp; done) | (go_simp; with_reducible rfl))
  try simp only [Act.put, List.setIfInBounds_toArray, List.set_cons_zero, List.set_cons_succ]
  refine wpAnyH_take (i := 18) (v := ?_) (by simp only [List.getElem?_toArray, List.getElem?_cons_succ, List.getElem?_cons_zero]; rfl) (by kernel_rfl) (by kernel_rfl) (by kernel_rfl) (by exact fun _ _ _ h => h) (Or.inl ⟨by rfl, ?_⟩) (by assumption) ?_; rotate_left; focus (intro w hSw; (try dsimp only at hSw); first | (go_simp; done) | (go_simp; with_reducible rfl))
  try simp only [Act.put, List.setIfInBounds_toArray, List.set_cons_zero, List.set_cons_succ]
  refine wpAnyH_done (by kernel_rfl) ?_ _
  go_wp2
  go_ret
  exact ⟨ret_bool (by first | (rw [E.out]; done) | (rw [E.out]; simp)), B.out.trans (hHeld.2.2.2.2.2.2.2.2.2.2.2.2.2.2.2.2.out.mono B.out.size)⟩
end Go.Proofs.YtooeikimoheecaaGreat
