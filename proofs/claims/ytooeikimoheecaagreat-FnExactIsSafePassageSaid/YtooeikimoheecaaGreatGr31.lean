
/- What ExactIsSafePassage and ExactSailRoute and ExactFirstSail rests on, part 31: contracts and mathematics. -/
import Derived.Test.YtooeikimoheecaaGreatGr28
import Derived.Test.YtooeikimoheecaaGreatGr26
import Derived.StillTailTactics
import Derived.Deep.DeepCutAuto
import Derived.Test.YtooeikimoheecaaGreatGr30
import Derived.Test.YtooeikimoheecaaGreatGr6
import Derived.Test.YtooeikimoheecaaGreatGr1
import Derived.Test.YtooeikimoheecaaGreatGr7
import Derived.Test.YtooeikimoheecaaGreatGr3
namespace Go.Proofs.YtooeikimoheecaaGreat
open Go.RowKit
set_option maxRecDepth 100000
set_option maxHeartbeats 8000000 in
theorem implIsSafePassage (yf0 yf1 : Value) (f : ForecastD) (yd0 yd1 : Value) (d : ChartD) (yl : Value) (l : List ShipD) (p : PassageD) (w : World) (rf : RdForecast w yf0 yf1 f) (rd : RdChart w yd0 yd1 d) (rl : SlShip w yl l) (fd : ∀ x ∈ d.points, PointD.wf x) (fl : ∀ x ∈ l, ShipD.wf x) :
    Calls Tryz.prog 14 #[.agg #[.int .i64 f.mean, yf0, yf1], .agg #[yd0, yd1], yl, p.val] w (fun e w' => e = .returned (.bool (safeB f d l p)) ∧ Below w.heap.size w w') := by
  have Rf := Lib.hid rf
  obtain ⟨rf0, rf1⟩ := rf
  obtain ⟨Af0, cf0, rfl⟩ := SlOf.form rf0
  obtain ⟨Af1, cf1, rfl⟩ := SlOf.form rf1
  clear rf0 rf1
  have Rd := Lib.hid rd
  obtain ⟨rd0, rd1⟩ := rd
  obtain ⟨Ad0, cd0, rfl⟩ := SlOf.form rd0
  obtain ⟨Ad1, cd1, rfl⟩ := SlOf.form rd1
  have Nd := Lib.hid fd
  clear fd
  clear rd0 rd1
  have Rl := Lib.hid rl
  obtain ⟨Al, cl, rfl⟩ := SlOf.form rl
  clear rl
  have Nl := Lib.hid fl
  clear fl
  obtain ⟨W0, hW0⟩ : ∃ W0, W0 = (((w.alloc (.cells #[.int .i64 f.mean, .slice Af0 f.parts.length cf0, .slice Af1 f.surges.length cf1] 44)).alloc (.cells #[.slice Ad0 d.points.length cd0, .slice Ad1 d.segs.length cd1] 49)).alloc (.cells #[.int .i64 p.ship, .int .i64 p.segment, .bool p.toward, .int .i64 p.start, .int .i64 p.stop] 53)) := ⟨_, rfl⟩
  have B := Lib.hid (((Joins.below_alloc1 w (.cells #[.int .i64 f.mean, .slice Af0 f.parts.length cf0, .slice Af1 f.surges.length cf1] 44)).trans ((Joins.below_alloc1 (w.alloc (.cells #[.int .i64 f.mean, .slice Af0 f.parts.length cf0, .slice Af1 f.surges.length cf1] 44)) (.cells #[.slice Ad0 d.points.length cd0, .slice Ad1 d.segs.length cd1] 49)).mono (by simp; try omega))).trans ((Joins.below_alloc1 ((w.alloc (.cells #[.int .i64 f.mean, .slice Af0 f.parts.length cf0, .slice Af1 f.surges.length cf1] 44)).alloc (.cells #[.slice Ad0 d.points.length cd0, .slice Ad1 d.segs.length cd1] 49)) (.cells #[.int .i64 p.ship, .int .i64 p.segment, .bool p.toward, .int .i64 p.start, .int .i64 p.stop] 53)).mono (by simp; try omega)))
  have Kf := Lib.hid (((Blk.new w #[.int .i64 f.mean, .slice Af0 f.parts.length cf0, .slice Af1 f.surges.length cf1] 44).below (Joins.below_alloc1 _ (.cells #[.slice Ad0 d.points.length cd0, .slice Ad1 d.segs.length cd1] 49))).below (Joins.below_alloc1 _ (.cells #[.int .i64 p.ship, .int .i64 p.segment, .bool p.toward, .int .i64 p.start, .int .i64 p.stop] 53)))
  have Kd := Lib.hid ((Blk.new (w.alloc (.cells #[.int .i64 f.mean, .slice Af0 f.parts.length cf0, .slice Af1 f.surges.length cf1] 44)) #[.slice Ad0 d.points.length cd0, .slice Ad1 d.segs.length cd1] 49).below (Joins.below_alloc1 _ (.cells #[.int .i64 p.ship, .int .i64 p.segment, .bool p.toward, .int .i64 p.start, .int .i64 p.stop] 53)))
  rw [World.size_alloc] at Kd
  have Kp := Lib.hid (Blk.new ((w.alloc (.cells #[.int .i64 f.mean, .slice Af0 f.parts.length cf0, .slice Af1 f.surges.length cf1] 44)).alloc (.cells #[.slice Ad0 d.points.length cd0, .slice Ad1 d.segs.length cd1] 49)) #[.int .i64 p.ship, .int .i64 p.segment, .bool p.toward, .int .i64 p.start, .int .i64 p.stop] 53)
  rw [World.size_alloc, World.size_alloc] at Kp
  have HW0 := Lib.hid hW0
  rw [← hW0] at B Kf Kd Kp
  clear hW0
  have hdl := Rd.out.2.1
  have hll := Rl.out.1
  obtain ⟨b1, hb1⟩ : ∃ b, passB d l p = b := ⟨_, rfl⟩
  have Hb1 := Lib.hid hb1
  cases b1 with
  | false =>
    have E := Lib.hid (safeB_bad (f := f) hb1)
    clear hb1
    go_enter Tryz.func14, Tryz.ntmps14
    have Ff0 := Lib.hid (show W0.cell? ⟨w.heap.size, 0, none⟩ = some (.int .i64 f.mean) from Kf.out.cell 0)
    have Ff1 := Lib.hid (show W0.cell? ⟨w.heap.size, 1, none⟩ = some (.slice Af0 f.parts.length cf0) from Kf.out.cell 1)
    have Ff2 := Lib.hid (show W0.cell? ⟨w.heap.size, 2, none⟩ = some (.slice Af1 f.surges.length cf1) from Kf.out.cell 2)
    have Fd0 := Lib.hid (show W0.cell? ⟨w.heap.size + 1, 0, none⟩ = some (.slice Ad0 d.points.length cd0) from Kd.out.cell 0)
    have Fd1 := Lib.hid (show W0.cell? ⟨w.heap.size + 1, 1, none⟩ = some (.slice Ad1 d.segs.length cd1) from Kd.out.cell 1)
    have Fp0 := Lib.hid (show W0.cell? ⟨w.heap.size + 2, 0, none⟩ = some (.int .i64 p.ship) from Kp.out.cell 0)
    have Fp1 := Lib.hid (show W0.cell? ⟨w.heap.size + 2, 1, none⟩ = some (.int .i64 p.segment) from Kp.out.cell 1)
    have Fp2 := Lib.hid (show W0.cell? ⟨w.heap.size + 2, 2, none⟩ = some (.bool p.toward) from Kp.out.cell 2)
    have Fp3 := Lib.hid (show W0.cell? ⟨w.heap.size + 2, 3, none⟩ = some (.int .i64 p.start) from Kp.out.cell 3)
    have Fp4 := Lib.hid (show W0.cell? ⟨w.heap.size + 2, 4, none⟩ = some (.int .i64 p.stop) from Kp.out.cell 4)
    have DD := Lib.hid ((Below.refl W0.heap.size W0).drew)
    have vFf0 := Ff0.out
    have vFf1 := Ff1.out
    have vFf2 := Ff2.out
    have vFd0 := Fd0.out
    have vFd1 := Fd1.out
    have vFp0 := Fp0.out
    have vFp1 := Fp1.out
    have vFp2 := Fp2.out
    have vFp3 := Fp3.out
    have vFp4 := Fp4.out
    go_upto_region 1 with fail
    rw [← HW0.out]
    refine wp_region_held_drew (S := (fun w' => w'.cell? ⟨w.heap.size, 0, none⟩ = some (.int .i64 f.mean) ∧ w'.cell? ⟨w.heap.size, 1, none⟩ = some (.slice Af0 f.parts.length cf0) ∧ w'.cell? ⟨w.heap.size, 2, none⟩ = some (.slice Af1 f.surges.length cf1) ∧ w'.cell? ⟨w.heap.size + 1, 0, none⟩ = some (.slice Ad0 d.points.length cd0) ∧ w'.cell? ⟨w.heap.size + 1, 1, none⟩ = some (.slice Ad1 d.segs.length cd1) ∧ w'.cell? ⟨w.heap.size + 2, 0, none⟩ = some (.int .i64 p.ship) ∧ w'.cell? ⟨w.heap.size + 2, 1, none⟩ = some (.int .i64 p.segment) ∧ w'.cell? ⟨w.heap.size + 2, 2, none⟩ = some (.bool p.toward) ∧ w'.cell? ⟨w.heap.size + 2, 3, none⟩ = some (.int .i64 p.start) ∧ w'.cell? ⟨w.heap.size + 2, 4, none⟩ = some (.int .i64 p.stop) ∧ Hid (Below W0.heap.size W0 w'))) (by kernel_rfl) ?_ (fun hHeld => ?_)
    · (try dsimp only); go_keep
    refine wpAnyH_take (i := 0) (v := ?_) (by simp only [List.getElem?_toArray, List.getElem?_cons_zero]; rfl) (by kernel_rfl) (by kernel_rfl) (by kernel_rfl) (by exact fun _ _ _ h => h) (Or.inl ⟨by rfl, ?_⟩) (by assumption) ?_; rotate_left; focus (intro w hSw; (try dsimp only at hSw); first | (go_simp; done) | (go_simp; with_reducible rfl))
    try simp only [Act.put, List.setIfInBounds_toArray, List.set_cons_zero, List.set_cons_succ]
    refine wpAnyH_take (i := 1) (v := ?_) (by simp only [List.getElem?_toArray, List.getElem?_cons_succ, List.getElem?_cons_zero]; rfl) (by kernel_rfl) (by kernel_rfl) (by kernel_rfl) (by exact fun _ _ _ h => h) (Or.inl ⟨by rfl, ?_⟩) (by assumption) ?_; rotate_left; focus (intro w hSw; (try dsimp only at hSw); first | (go_simp; done) | (go_simp; with_reducible rfl))
    try simp only [Act.put, List.setIfInBounds_toArray, List.set_cons_zero, List.set_cons_succ]
    refine wpAnyH_take (i := 2) (v := ?_) (by simp only [List.getElem?_toArray, List.getElem?_cons_succ, List.getElem?_cons_zero]; rfl) (by kernel_rfl) (by kernel_rfl) (by kernel_rfl) (by exact fun _ _ _ h => h) (Or.inl ⟨by rfl, ?_⟩) (by assumption) ?_; rotate_left; focus (intro w hSw; (try dsimp only at hSw); first | (go_simp; done) | (go_simp; with_reducible rfl))
    try simp only [Act.put, List.setIfInBounds_toArray, List.set_cons_zero, List.set_cons_succ]
    refine wpAnyH_ready (rs := [3]) (by kernel_rfl) (by simp) ?_
    refine AllReadyH.cons rfl (fun K hK => ?_) AllReadyH.nil
    rw [if_pos (by rfl)]
    go_simp
    go_at_call 40
    have kB := hHeld.2.2.2.2.2.2.2.2.2.2
    refine (implPassageOk _ _ d _ l p _ (Rd.out.below (B.out.trans (kB.out.mono B.out.size))) (Rl.out.below (B.out.trans (kB.out.mono B.out.size))) Nd.out Nl.out).mono ?_
    rw [Hb1.out]
    rintro e wq0_3 ⟨rfl, hbk⟩
    have HBK := kB.out.trans (hbk.mono kB.out.size)
    have QS := Lib.hid (show wq0_3.cell? ⟨w.heap.size, 0, none⟩ = some (.int .i64 f.mean) ∧ wq0_3.cell? ⟨w.heap.size, 1, none⟩ = some (.slice Af0 f.parts.length cf0) ∧ wq0_3.cell? ⟨w.heap.size, 2, none⟩ = some (.slice Af1 f.surges.length cf1) ∧ wq0_3.cell? ⟨w.heap.size + 1, 0, none⟩ = some (.slice Ad0 d.points.length cd0) ∧ wq0_3.cell? ⟨w.heap.size + 1, 1, none⟩ = some (.slice Ad1 d.segs.length cd1) ∧ wq0_3.cell? ⟨w.heap.size + 2, 0, none⟩ = some (.int .i64 p.ship) ∧ wq0_3.cell? ⟨w.heap.size + 2, 1, none⟩ = some (.int .i64 p.segment) ∧ wq0_3.cell? ⟨w.heap.size + 2, 2, none⟩ = some (.bool p.toward) ∧ wq0_3.cell? ⟨w.heap.size + 2, 3, none⟩ = some (.int .i64 p.start) ∧ wq0_3.cell? ⟨w.heap.size + 2, 4, none⟩ = some (.int .i64 p.stop) ∧ Hid (Below W0.heap.size W0 wq0_3) from ⟨cell_onV Ff0.out HBK, cell_onV Ff1.out HBK, cell_onV Ff2.out HBK, cell_onV Fd0.out HBK, cell_onV Fd1.out HBK, cell_onV Fp0.out HBK, cell_onV Fp1.out HBK, cell_onV Fp2.out HBK, cell_onV Fp3.out HBK, cell_onV Fp4.out HBK, Lib.hid HBK⟩)
    clear hbk kB hHeld HBK
    go_simp
    refine hK.out _ _ ?_ (fun hHeld => ?_)
    · (try dsimp only); exact QS.out
    clear hK K
    try simp only [Act.put, List.setIfInBounds_toArray, List.set_cons_zero, List.set_cons_succ]
    refine wpAnyH_take (i := 4) (v := ?_) (by simp only [List.getElem?_toArray, List.getElem?_cons_succ, List.getElem?_cons_zero]; rfl) (by kernel_rfl) (by kernel_rfl) (by kernel_rfl) (by exact fun _ _ _ h => h) (Or.inl ⟨by rfl, ?_⟩) (by assumption) ?_; rotate_left; focus (intro w hSw; (try dsimp only at hSw); first | (go_simp; done) | (go_simp; with_reducible rfl))
    try simp only [Act.put, List.setIfInBounds_toArray, List.set_cons_zero, List.set_cons_succ]
    refine wpAnyH_take (i := 5) (v := undef) (by simp only [List.getElem?_toArray, List.getElem?_cons_succ, List.getElem?_cons_zero]; rfl) (by kernel_rfl) (by kernel_rfl) (by kernel_rfl) (by exact fun _ _ _ h => h) (Or.inr ⟨by rfl, rfl⟩) (by assumption) ?_
    try simp only [Act.put, List.setIfInBounds_toArray, List.set_cons_zero, List.set_cons_succ]
    refine wpAnyH_take (i := 6) (v := undef) (by simp only [List.getElem?_toArray, List.getElem?_cons_succ, List.getElem?_cons_zero]; rfl) (by kernel_rfl) (by kernel_rfl) (by kernel_rfl) (by exact fun _ _ _ h => h) (Or.inr ⟨by rfl, rfl⟩) (by assumption) ?_
    try simp only [Act.put, List.setIfInBounds_toArray, List.set_cons_zero, List.set_cons_succ]
    refine wpAnyH_take (i := 7) (v := undef) (by simp only [List.getElem?_toArray, List.getElem?_cons_succ, List.getElem?_cons_zero]; rfl) (by kernel_rfl) (by kernel_rfl) (by kernel_rfl) (by exact fun _ _ _ h => h) (Or.inr ⟨by rfl, rfl⟩) (by assumption) ?_
    try simp only [Act.put, List.setIfInBounds_toArray, List.set_cons_zero, List.set_cons_succ]
    refine wpAnyH_take (i := 8) (v := undef) (by simp only [List.getElem?_toArray, List.getElem?_cons_succ, List.getElem?_cons_zero]; rfl) (by kernel_rfl) (by kernel_rfl) (by kernel_rfl) (by exact fun _ _ _ h => h) (Or.inr ⟨by rfl, rfl⟩) (by assumption) ?_
    try simp only [Act.put, List.setIfInBounds_toArray, List.set_cons_zero, List.set_cons_succ]
    refine wpAnyH_take (i := 9) (v := undef) (by simp only [List.getElem?_toArray, List.getElem?_cons_succ, List.getElem?_cons_zero]; rfl) (by kernel_rfl) (by kernel_rfl) (by kernel_rfl) (by exact fun _ _ _ h => h) (Or.inr ⟨by rfl, rfl⟩) (by assumption) ?_
    try simp only [Act.put, List.setIfInBounds_toArray, List.set_cons_zero, List.set_cons_succ]
    refine wpAnyH_take (i := 10) (v := undef) (by simp only [List.getElem?_toArray, List.getElem?_cons_succ, List.getElem?_cons_zero]; rfl) (by kernel_rfl) (by kernel_rfl) (by kernel_rfl) (by exact fun _ _ _ h => h) (Or.inr ⟨by rfl, rfl⟩) (by assumption) ?_
    try simp only [Act.put, List.setIfInBounds_toArray, List.set_cons_zero, List.set_cons_succ]
    refine wpAnyH_take (i := 11) (v := undef) (by simp only [List.getElem?_toArray, List.getElem?_cons_succ, List.getElem?_cons_zero]; rfl) (by kernel_rfl) (by kernel_rfl) (by kernel_rfl) (by exact fun _ _ _ h => h) (Or.inr ⟨by rfl, rfl⟩) (by assumption) ?_
    try simp only [Act.put, List.setIfInBounds_toArray, List.set_cons_zero, List.set_cons_succ]
    refine wpAnyH_take (i := 12) (v := undef) (by simp only [List.getElem?_toArray, List.getElem?_cons_succ, List.getElem?_cons_zero]; rfl) (by kernel_rfl) (by kernel_rfl) (by kernel_rfl) (by exact fun _ _ _ h => h) (Or.inr ⟨by rfl, rfl⟩) (by assumption) ?_
    try simp only [Act.put, List.setIfInBounds_toArray, List.set_cons_zero, List.set_cons_succ]
    refine wpAnyH_take (i := 13) (v := undef) (by simp only [List.getElem?_toArray, List.getElem?_cons_succ, List.getElem?_cons_zero]; rfl) (by kernel_rfl) (by kernel_rfl) (by kernel_rfl) (by exact fun _ _ _ h => h) (Or.inr ⟨by rfl, rfl⟩) (by assumption) ?_
    try simp only [Act.put, List.setIfInBounds_toArray, List.set_cons_zero, List.set_cons_succ]
    refine wpAnyH_take (i := 14) (v := undef) (by simp only [List.getElem?_toArray, List.getElem?_cons_succ, List.getElem?_cons_zero]; rfl) (by kernel_rfl) (by kernel_rfl) (by kernel_rfl) (by exact fun _ _ _ h => h) (Or.inr ⟨by rfl, rfl⟩) (by assumption) ?_
    try simp only [Act.put, List.setIfInBounds_toArray, List.set_cons_zero, List.set_cons_succ]
    refine wpAnyH_take (i := 15) (v := undef) (by simp only [List.getElem?_toArray, List.getElem?_cons_succ, List.getElem?_cons_zero]; rfl) (by kernel_rfl) (by kernel_rfl) (by kernel_rfl) (by exact fun _ _ _ h => h) (Or.inr ⟨by rfl, rfl⟩) (by assumption) ?_
    try simp only [Act.put, List.setIfInBounds_toArray, List.set_cons_zero, List.set_cons_succ]
    refine wpAnyH_take (i := 16) (v := undef) (by simp only [List.getElem?_toArray, List.getElem?_cons_succ, List.getElem?_cons_zero]; rfl) (by kernel_rfl) (by kernel_rfl) (by kernel_rfl) (by exact fun _ _ _ h => h) (Or.inr ⟨by rfl, rfl⟩) (by assumption) ?_
    try simp only [Act.put, List.setIfInBounds_toArray, List.set_cons_zero, List.set_cons_succ]
    refine wpAnyH_take (i := 17) (v := ?_) (by simp only [List.getElem?_toArray, List.getElem?_cons_succ, List.getElem?_cons_zero]; rfl) (by kernel_rfl) (by kernel_rfl) (by kernel_rfl) (by exact fun _ _ _ h => h) (Or.inl ⟨by rfl, ?_⟩) (by assumption) ?_; rotate_left; focus (intro w hSw; (try dsimp only at hSw); first | (go_simp; done) | (go_simp; with_reducible rfl))
    try simp only [Act.put, List.setIfInBounds_toArray, List.set_cons_zero, List.set_cons_succ]
    refine wpAnyH_take (i := 18) (v := ?_) (by simp only [List.getElem?_toArray, List.getElem?_cons_succ, List.getElem?_cons_zero]; rfl) (by kernel_rfl) (by kernel_rfl) (by kernel_rfl) (by exact fun _ _ _ h => h) (Or.inl ⟨by rfl, ?_⟩) (by assumption) ?_; rotate_left; focus (intro w hSw; (try dsimp only at hSw); first | (go_simp; done) | (go_simp; with_reducible rfl))
    try simp only [Act.put, List.setIfInBounds_toArray, List.set_cons_zero, List.set_cons_succ]
    refine wpAnyH_done (by kernel_rfl) ?_ _
    go_wp2
    go_ret
    exact ⟨ret_bool E.out.symm, B.out.trans (hHeld.2.2.2.2.2.2.2.2.2.2.out.mono B.out.size)⟩
  | true =>
  have hpre : passPre d l p = true := by
    have := hb1
    unfold passB at this
    simp only [Bool.and_eq_true] at this
    exact this.1
  have hb3 : inB p.ship 0 ((l.length : Int) - 1) = true := by
    have := hpre
    unfold passPre at this
    simp only [Bool.and_eq_true] at this
    exact this.1.1.2
  obtain ⟨s, hs, hx, i0, il⟩ := shipAt_in hb3
  have E0 := Lib.hid (safeB_ok (f := f) hb1 hs)
  have HX := Lib.hid (List.mem_of_getElem? hx)
  obtain ⟨k, hk⟩ : ∃ k : Nat, p.ship = (k : Int) := ⟨p.ship.toNat, by omega⟩
  rw [hk] at hx il
  simp only [Int.toNat_natCast] at hx il
  rw [hk] at Kp
  have HK := Lib.hid hk
  have Hbk := Lib.hid (show passB d l ⟨(k : Int), p.segment, p.toward, p.start, p.stop⟩ = true by rw [← HK.out]; exact Hb1.out)
  rcases Rl.out.2 with ⟨he, _⟩ | ⟨g, o, c, e, hpos, hcap, hc⟩
  · rw [he] at il; simp at il
  injection e with hA _ hcp
  subst hA hcp
  obtain ⟨q0, q1, q2, q3, q4, q5⟩ := SlShip.cells hc k s hx
  have Y0 := Lib.hid q0
  have Y1 := Lib.hid q1
  have Y2 := Lib.hid q2
  have Y3 := Lib.hid q3
  have Y4 := Lib.hid q4
  have Y5 := Lib.hid q5
  obtain ⟨b2, hb2⟩ : ∃ b, startB false f d p.segment s p.start = b := ⟨_, rfl⟩
  have Hb2 := Lib.hid hb2
  have E := Lib.hid (E0.out.trans hb2)
  clear q0 q1 q2 q3 q4 q5 hc hx hs i0 hb1 hb2 hb3 hpre hk E0
  have FY0 := Lib.hid (show W0.cell? ⟨g, o + k * 6, none⟩ = some (.string s.name) from cell_onV Y0.out B.out)
  have FY1 := Lib.hid (show W0.cell? ⟨g, o + k * 6 + 1, none⟩ = some (.int .i64 s.length) from cell_onV Y1.out B.out)
  have FY2 := Lib.hid (show W0.cell? ⟨g, o + k * 6 + 2, none⟩ = some (.int .i64 s.draught) from cell_onV Y2.out B.out)
  have FY3 := Lib.hid (show W0.cell? ⟨g, o + k * 6 + 3, none⟩ = some (.int .i64 s.line) from cell_onV Y3.out B.out)
  have FY4 := Lib.hid (show W0.cell? ⟨g, o + k * 6 + 4, none⟩ = some (.int .i64 s.tugs) from cell_onV Y4.out B.out)
  have FY5 := Lib.hid (show W0.cell? ⟨g, o + k * 6 + 5, none⟩ = some (.bool s.slow) from cell_onV Y5.out B.out)
  go_enter Tryz.func14, Tryz.ntmps14
  have Ff0 := Lib.hid (show W0.cell? ⟨w.heap.size, 0, none⟩ = some (.int .i64 f.mean) from Kf.out.cell 0)
  have Ff1 := Lib.hid (show W0.cell? ⟨w.heap.size, 1, none⟩ = some (.slice Af0 f.parts.length cf0) from Kf.out.cell 1)
  have Ff2 := Lib.hid (show W0.cell? ⟨w.heap.size, 2, none⟩ = some (.slice Af1 f.surges.length cf1) from Kf.out.cell 2)
  have Fd0 := Lib.hid (show W0.cell? ⟨w.heap.size + 1, 0, none⟩ = some (.slice Ad0 d.points.length cd0) from Kd.out.cell 0)
  have Fd1 := Lib.hid (show W0.cell? ⟨w.heap.size + 1, 1, none⟩ = some (.slice Ad1 d.segs.length cd1) from Kd.out.cell 1)
  have Fp0 := Lib.hid (show W0.cell? ⟨w.heap.size + 2, 0, none⟩ = some (.int .i64 (k : Int)) from Kp.out.cell 0)
  have Fp1 := Lib.hid (show W0.cell? ⟨w.heap.size + 2, 1, none⟩ = some (.int .i64 p.segment) from Kp.out.cell 1)
  have Fp2 := Lib.hid (show W0.cell? ⟨w.heap.size + 2, 2, none⟩ = some (.bool p.toward) from Kp.out.cell 2)
  have Fp3 := Lib.hid (show W0.cell? ⟨w.heap.size + 2, 3, none⟩ = some (.int .i64 p.start) from Kp.out.cell 3)
  have Fp4 := Lib.hid (show W0.cell? ⟨w.heap.size + 2, 4, none⟩ = some (.int .i64 p.stop) from Kp.out.cell 4)
  have DD := Lib.hid ((Below.refl W0.heap.size W0).drew)
  have vFf0 := Ff0.out
  have vFf1 := Ff1.out
  have vFf2 := Ff2.out
  have vFd0 := Fd0.out
  have vFd1 := Fd1.out
  have vFp0 := Fp0.out
  have vFp1 := Fp1.out
  have vFp2 := Fp2.out
  have vFp3 := Fp3.out
  have vFp4 := Fp4.out
  have vFY0 := FY0.out
  have vFY1 := FY1.out
  have vFY2 := FY2.out
  have vFY3 := FY3.out
  have vFY4 := FY4.out
  have vFY5 := FY5.out
  go_upto_region 1 with fail
  rw [← HW0.out]
  refine wp_region_held_drew (S := (fun w' => w'.cell? ⟨w.heap.size, 0, none⟩ = some (.int .i64 f.mean) ∧ w'.cell? ⟨w.heap.size, 1, none⟩ = some (.slice Af0 f.parts.length cf0) ∧ w'.cell? ⟨w.heap.size, 2, none⟩ = some (.slice Af1 f.surges.length cf1) ∧ w'.cell? ⟨w.heap.size + 1, 0, none⟩ = some (.slice Ad0 d.points.length cd0) ∧ w'.cell? ⟨w.heap.size + 1, 1, none⟩ = some (.slice Ad1 d.segs.length cd1) ∧ w'.cell? ⟨w.heap.size + 2, 0, none⟩ = some (.int .i64 (k : Int)) ∧ w'.cell? ⟨w.heap.size + 2, 1, none⟩ = some (.int .i64 p.segment) ∧ w'.cell? ⟨w.heap.size + 2, 2, none⟩ = some (.bool p.toward) ∧ w'.cell? ⟨w.heap.size + 2, 3, none⟩ = some (.int .i64 p.start) ∧ w'.cell? ⟨w.heap.size + 2, 4, none⟩ = some (.int .i64 p.stop) ∧ w'.cell? ⟨g, o + k * 6, none⟩ = some (.string s.name) ∧ w'.cell? ⟨g, o + k * 6 + 1, none⟩ = some (.int .i64 s.length) ∧ w'.cell? ⟨g, o + k * 6 + 2, none⟩ = some (.int .i64 s.draught) ∧ w'.cell? ⟨g, o + k * 6 + 3, none⟩ = some (.int .i64 s.line) ∧ w'.cell? ⟨g, o + k * 6 + 4, none⟩ = some (.int .i64 s.tugs) ∧ w'.cell? ⟨g, o + k * 6 + 5, none⟩ = some (.bool s.slow) ∧ Hid (Below W0.heap.size W0 w'))) (by kernel_rfl) ?_ (fun hHeld => ?_)
  · (try dsimp only); go_keep
  refine wpAnyH_take (i := 0) (v := ?_) (by simp only [List.getElem?_toArray, List.getElem?_cons_zero]; rfl) (by kernel_rfl) (by kernel_rfl) (by kernel_rfl) (by exact fun _ _ _ h => h) (Or.inl ⟨by rfl, ?_⟩) (by assumption) ?_; rotate_left; focus (intro w hSw; (try dsimp only at hSw); first | (go_simp; done) | (go_simp; with_reducible rfl))
  try simp only [Act.put, List.setIfInBounds_toArray, List.set_cons_zero, List.set_cons_succ]
  refine wpAnyH_take (i := 1) (v := ?_) (by simp only [List.getElem?_toArray, List.getElem?_cons_succ, List.getElem?_cons_zero]; rfl) (by kernel_rfl) (by kernel_rfl) (by kernel_rfl) (by exact fun _ _ _ h => h) (Or.inl ⟨by rfl, ?_⟩) (by assumption) ?_; rotate_left; focus (intro w hSw; (try dsimp only at hSw); first | (go_simp; done) | (go_simp; with_reducible rfl))
  try simp only [Act.put, List.setIfInBounds_toArray, List.set_cons_zero, List.set_cons_succ]
  refine wpAnyH_take (i := 2) (v := ?_) (by simp only [List.getElem?_toArray, List.getElem?_cons_succ, List.getElem?_cons_zero]; rfl) (by kernel_rfl) (by kernel_rfl) (by kernel_rfl) (by exact fun _ _ _ h => h) (Or.inl ⟨by rfl, ?_⟩) (by assumption) ?_; rotate_left; focus (intro w hSw; (try dsimp only at hSw); first | (go_simp; done) | (go_simp; with_reducible rfl))
  try simp only [Act.put, List.setIfInBounds_toArray, List.set_cons_zero, List.set_cons_succ]
  refine wpAnyH_ready (rs := [3]) (by kernel_rfl) (by simp) ?_
  refine AllReadyH.cons rfl (fun K hK => ?_) AllReadyH.nil
  rw [if_pos (by rfl)]
  go_simp
  go_at_call 40
  have kB := hHeld.2.2.2.2.2.2.2.2.2.2.2.2.2.2.2.2
  refine (implPassageOk _ _ d _ l ⟨(k : Int), p.segment, p.toward, p.start, p.stop⟩ _ (Rd.out.below (B.out.trans (kB.out.mono B.out.size))) (Rl.out.below (B.out.trans (kB.out.mono B.out.size))) Nd.out Nl.out).mono ?_
  rw [Hbk.out]
  rintro e wq0_3 ⟨rfl, hbk⟩
  have HBK := kB.out.trans (hbk.mono kB.out.size)
  have QS := Lib.hid (show wq0_3.cell? ⟨w.heap.size, 0, none⟩ = some (.int .i64 f.mean) ∧ wq0_3.cell? ⟨w.heap.size, 1, none⟩ = some (.slice Af0 f.parts.length cf0) ∧ wq0_3.cell? ⟨w.heap.size, 2, none⟩ = some (.slice Af1 f.surges.length cf1) ∧ wq0_3.cell? ⟨w.heap.size + 1, 0, none⟩ = some (.slice Ad0 d.points.length cd0) ∧ wq0_3.cell? ⟨w.heap.size + 1, 1, none⟩ = some (.slice Ad1 d.segs.length cd1) ∧ wq0_3.cell? ⟨w.heap.size + 2, 0, none⟩ = some (.int .i64 (k : Int)) ∧ wq0_3.cell? ⟨w.heap.size + 2, 1, none⟩ = some (.int .i64 p.segment) ∧ wq0_3.cell? ⟨w.heap.size + 2, 2, none⟩ = some (.bool p.toward) ∧ wq0_3.cell? ⟨w.heap.size + 2, 3, none⟩ = some (.int .i64 p.start) ∧ wq0_3.cell? ⟨w.heap.size + 2, 4, none⟩ = some (.int .i64 p.stop) ∧ wq0_3.cell? ⟨g, o + k * 6, none⟩ = some (.string s.name) ∧ wq0_3.cell? ⟨g, o + k * 6 + 1, none⟩ = some (.int .i64 s.length) ∧ wq0_3.cell? ⟨g, o + k * 6 + 2, none⟩ = some (.int .i64 s.draught) ∧ wq0_3.cell? ⟨g, o + k * 6 + 3, none⟩ = some (.int .i64 s.line) ∧ wq0_3.cell? ⟨g, o + k * 6 + 4, none⟩ = some (.int .i64 s.tugs) ∧ wq0_3.cell? ⟨g, o + k * 6 + 5, none⟩ = some (.bool s.slow) ∧ Hid (Below W0.heap.size W0 wq0_3) from ⟨cell_onV Ff0.out HBK, cell_onV Ff1.out HBK, cell_onV Ff2.out HBK, cell_onV Fd0.out HBK, cell_onV Fd1.out HBK, cell_onV Fp0.out HBK, cell_onV Fp1.out HBK, cell_onV Fp2.out HBK, cell_onV Fp3.out HBK, cell_onV Fp4.out HBK, cell_onV FY0.out HBK, cell_onV FY1.out HBK, cell_onV FY2.out HBK, cell_onV FY3.out HBK, cell_onV FY4.out HBK, cell_onV FY5.out HBK, Lib.hid HBK⟩)
  clear hbk kB hHeld HBK
  go_simp
  refine hK.out _ _ ?_ (fun hHeld => ?_)
  · (try dsimp only); exact QS.out
  clear hK K
  try simp only [Act.put, List.setIfInBounds_toArray, List.set_cons_zero, List.set_cons_succ]
  refine wpAnyH_take (i := 4) (v := ?_) (by simp only [List.getElem?_toArray, List.getElem?_cons_succ, List.getElem?_cons_zero]; rfl) (by kernel_rfl) (by kernel_rfl) (by kernel_rfl) (by exact fun _ _ _ h => h) (Or.inl ⟨by rfl, ?_⟩) (by assumption) ?_; rotate_left; focus (intro w hSw; (try dsimp only at hSw); first | (go_simp; done) | (go_simp; with_reducible rfl))
  try simp only [Act.put, List.setIfInBounds_toArray, List.set_cons_zero, List.set_cons_succ]
  refine wpAnyH_take (i := 5) (v := ?_) (by simp only [List.getElem?_toArray, List.getElem?_cons_succ, List.getElem?_cons_zero]; rfl) (by kernel_rfl) (by kernel_rfl) (by kernel_rfl) (by exact fun _ _ _ h => h) (Or.inl ⟨by rfl, ?_⟩) (by assumption) ?_; rotate_left; focus (intro w hSw; (try dsimp only at hSw); first | (go_simp; done) | (go_simp; with_reducible rfl))
  try simp only [Act.put, List.setIfInBounds_toArray, List.set_cons_zero, List.set_cons_succ]
  refine wpAnyH_take (i := 6) (v := ?_) (by simp only [List.getElem?_toArray, List.getElem?_cons_succ, List.getElem?_cons_zero]; rfl) (by kernel_rfl) (by kernel_rfl) (by kernel_rfl) (by exact fun _ _ _ h => h) (Or.inl ⟨by rfl, ?_⟩) (by assumption) ?_; rotate_left; focus (intro w hSw; (try dsimp only at hSw); first | (go_simp; done) | (go_simp; with_reducible rfl))
  try simp only [Act.put, List.setIfInBounds_toArray, List.set_cons_zero, List.set_cons_succ]
  refine wpAnyH_take (i := 7) (v := ?_) (by simp only [List.getElem?_toArray, List.getElem?_cons_succ, List.getElem?_cons_zero]; rfl) (by kernel_rfl) (by kernel_rfl) (by kernel_rfl) (by exact fun _ _ _ h => h) (Or.inl ⟨by rfl, ?_⟩) (by assumption) ?_; rotate_left; focus (intro w hSw; (try dsimp only at hSw); first | (go_simp; done) | (go_simp; with_reducible rfl))
  try simp only [Act.put, List.setIfInBounds_toArray, List.set_cons_zero, List.set_cons_succ]
  refine wpAnyH_take (i := 8) (v := ?_) (by simp only [List.getElem?_toArray, List.getElem?_cons_succ, List.getElem?_cons_zero]; rfl) (by kernel_rfl) (by kernel_rfl) (by kernel_rfl) (by exact fun _ _ _ h => h) (Or.inl ⟨by rfl, ?_⟩) (by assumption) ?_; rotate_left; focus (intro w hSw; (try dsimp only at hSw); first | (go_simp; done) | (go_simp; with_reducible rfl))
  try simp only [Act.put, List.setIfInBounds_toArray, List.set_cons_zero, List.set_cons_succ]
  refine wpAnyH_take (i := 9) (v := ?_) (by simp only [List.getElem?_toArray, List.getElem?_cons_succ, List.getElem?_cons_zero]; rfl) (by kernel_rfl) (by kernel_rfl) (by kernel_rfl) (by exact fun _ _ _ h => h) (Or.inl ⟨by rfl, ?_⟩) (by assumption) ?_; rotate_left; focus (intro w hSw; (try dsimp only at hSw); first | (go_simp; done) | (go_simp; with_reducible rfl))
  try simp only [Act.put, List.setIfInBounds_toArray, List.set_cons_zero, List.set_cons_succ]
  refine wpAnyH_take (i := 10) (v := ?_) (by simp only [List.getElem?_toArray, List.getElem?_cons_succ, List.getElem?_cons_zero]; rfl) (by kernel_rfl) (by kernel_rfl) (by kernel_rfl) (by exact fun _ _ _ h => h) (Or.inl ⟨by rfl, ?_⟩) (by assumption) ?_; rotate_left; focus (intro w hSw; (try dsimp only at hSw); first | (go_simp; done) | (go_simp; with_reducible rfl))
  try simp only [Act.put, List.setIfInBounds_toArray, List.set_cons_zero, List.set_cons_succ]
  refine wpAnyH_take (i := 11) (v := ?_) (by simp only [List.getElem?_toArray, List.getElem?_cons_succ, List.getElem?_cons_zero]; rfl) (by kernel_rfl) (by kernel_rfl) (by kernel_rfl) (by exact fun _ _ _ h => h) (Or.inl ⟨by rfl, ?_⟩) (by assumption) ?_; rotate_left; focus (intro w hSw; (try dsimp only at hSw); first | (go_simp; done) | (go_simp; with_reducible rfl))
  try simp only [Act.put, List.setIfInBounds_toArray, List.set_cons_zero, List.set_cons_succ]
  refine wpAnyH_take (i := 12) (v := ?_) (by simp only [List.getElem?_toArray, List.getElem?_cons_succ, List.getElem?_cons_zero]; rfl) (by kernel_rfl) (by kernel_rfl) (by kernel_rfl) (by exact fun _ _ _ h => h) (Or.inl ⟨by rfl, ?_⟩) (by assumption) ?_; rotate_left; focus (intro w hSw; (try dsimp only at hSw); first | (go_simp; done) | (go_simp; with_reducible rfl))
  try simp only [Act.put, List.setIfInBounds_toArray, List.set_cons_zero, List.set_cons_succ]
  refine wpAnyH_take (i := 13) (v := ?_) (by simp only [List.getElem?_toArray, List.getElem?_cons_succ, List.getElem?_cons_zero]; rfl) (by kernel_rfl) (by kernel_rfl) (by kernel_rfl) (by exact fun _ _ _ h => h) (Or.inl ⟨by rfl, ?_⟩) (by assumption) ?_; rotate_left; focus (intro w hSw; (try dsimp only at hSw); first | (go_simp; done) | (go_simp; with_reducible rfl))
  try simp only [Act.put, List.setIfInBounds_toArray, List.set_cons_zero, List.set_cons_succ]
  refine wpAnyH_take (i := 14) (v := ?_) (by simp only [List.getElem?_toArray, List.getElem?_cons_succ, List.getElem?_cons_zero]; rfl) (by kernel_rfl) (by kernel_rfl) (by kernel_rfl) (by exact fun _ _ _ h => h) (Or.inl ⟨by rfl, ?_⟩) (by assumption) ?_; rotate_left; focus (intro w hSw; (try dsimp only at hSw); first | (go_simp; done) | (go_simp; with_reducible rfl))
  try simp only [Act.put, List.setIfInBounds_toArray, List.set_cons_zero, List.set_cons_succ]
  refine wpAnyH_take (i := 15) (v := ?_) (by simp only [List.getElem?_toArray, List.getElem?_cons_succ, List.getElem?_cons_zero]; rfl) (by kernel_rfl) (by kernel_rfl) (by kernel_rfl) (by exact fun _ _ _ h => h) (Or.inl ⟨by rfl, ?_⟩) (by assumption) ?_; rotate_left; focus (intro w hSw; (try dsimp only at hSw); first | (go_simp; done) | (go_simp; with_reducible rfl))
  try simp only [Act.put, List.setIfInBounds_toArray, List.set_cons_zero, List.set_cons_succ]
  refine wpAnyH_ready (rs := [16]) (by kernel_rfl) (by simp) ?_
  refine AllReadyH.cons rfl (fun K hK => ?_) AllReadyH.nil
  rw [if_pos (by rfl)]
  go_simp
  go_at_call 41
  have kB := hHeld.2.2.2.2.2.2.2.2.2.2.2.2.2.2.2.2
  refine (implIsSure _ _ f _ _ d p.segment s p.start _ (Rf.out.below (B.out.trans (kB.out.mono B.out.size))) (Rd.out.below (B.out.trans (kB.out.mono B.out.size))) Nd.out (Nl.out s HX.out)).mono ?_
  rw [Hb2.out]
  rintro e wq0_16 ⟨rfl, hbk⟩
  have HBK := kB.out.trans (hbk.mono kB.out.size)
  have QS := Lib.hid (show wq0_16.cell? ⟨w.heap.size, 0, none⟩ = some (.int .i64 f.mean) ∧ wq0_16.cell? ⟨w.heap.size, 1, none⟩ = some (.slice Af0 f.parts.length cf0) ∧ wq0_16.cell? ⟨w.heap.size, 2, none⟩ = some (.slice Af1 f.surges.length cf1) ∧ wq0_16.cell? ⟨w.heap.size + 1, 0, none⟩ = some (.slice Ad0 d.points.length cd0) ∧ wq0_16.cell? ⟨w.heap.size + 1, 1, none⟩ = some (.slice Ad1 d.segs.length cd1) ∧ wq0_16.cell? ⟨w.heap.size + 2, 0, none⟩ = some (.int .i64 (k : Int)) ∧ wq0_16.cell? ⟨w.heap.size + 2, 1, none⟩ = some (.int .i64 p.segment) ∧ wq0_16.cell? ⟨w.heap.size + 2, 2, none⟩ = some (.bool p.toward) ∧ wq0_16.cell? ⟨w.heap.size + 2, 3, none⟩ = some (.int .i64 p.start) ∧ wq0_16.cell? ⟨w.heap.size + 2, 4, none⟩ = some (.int .i64 p.stop) ∧ wq0_16.cell? ⟨g, o + k * 6, none⟩ = some (.string s.name) ∧ wq0_16.cell? ⟨g, o + k * 6 + 1, none⟩ = some (.int .i64 s.length) ∧ wq0_16.cell? ⟨g, o + k * 6 + 2, none⟩ = some (.int .i64 s.draught) ∧ wq0_16.cell? ⟨g, o + k * 6 + 3, none⟩ = some (.int .i64 s.line) ∧ wq0_16.cell? ⟨g, o + k * 6 + 4, none⟩ = some (.int .i64 s.tugs) ∧ wq0_16.cell? ⟨g, o + k * 6 + 5, none⟩ = some (.bool s.slow) ∧ Hid (Below W0.heap.size W0 wq0_16) from ⟨cell_onV Ff0.out HBK, cell_onV Ff1.out HBK, cell_onV Ff2.out HBK, cell_onV Fd0.out HBK, cell_onV Fd1.out HBK, cell_onV Fp0.out HBK, cell_onV Fp1.out HBK, cell_onV Fp2.out HBK, cell_onV Fp3.out HBK, cell_onV Fp4.out HBK, cell_onV FY0.out HBK, cell_onV FY1.out HBK, cell_onV FY2.out HBK, cell_onV FY3.out HBK, cell_onV FY4.out HBK, cell_onV FY5.out HBK, Lib.hid HBK⟩)
  clear hbk kB hHeld HBK
  go_simp
  refine hK.out _ _ ?_ (fun hHeld => ?_)
  · (try dsimp only); exact QS.out
  clear hK K
  try simp only [Act.put, List.setIfInBounds_toArray, List.set_cons_zero, List.set_cons_succ]
  refine wpAnyH_take (i := 17) (v := ?_) (by simp only [List.getElem?_toArray, List.getElem?_cons_succ, List.getElem?_cons_zero]; rfl) (by kernel_rfl) (by kernel_rfl) (by kernel_rfl) (by exact fun _ _ _ h => h) (Or.inl ⟨by rfl, ?_⟩) (by assumption) ?_; rotate_left; focus (intro w hSw; (try dsimp only at hSw); first | (go_simp; done) | (go_simp; with_reducible rfl))
  try simp only [Act.put, List.setIfInBounds_toArray, List.set_cons_zero, List.set_cons_succ]
  refine wpAnyH_take (i := 18) (v := ?_) (by simp only [List.getElem?_toArray, List.getElem?_cons_succ, List.getElem?_cons_zero]; rfl) (by kernel_rfl) (by kernel_rfl) (by kernel_rfl) (by exact fun _ _ _ h => h) (Or.inl ⟨by rfl, ?_⟩) (by assumption) ?_; rotate_left; focus (intro w hSw; (try dsimp only at hSw); first | (go_simp; done) | (go_simp; with_reducible rfl))
  try simp only [Act.put, List.setIfInBounds_toArray, List.set_cons_zero, List.set_cons_succ]
  refine wpAnyH_done (by kernel_rfl) ?_ _
  go_wp2
  go_ret
  exact ⟨ret_bool (by first | (rw [E.out]; done) | (rw [E.out]; simp)), B.out.trans (hHeld.2.2.2.2.2.2.2.2.2.2.2.2.2.2.2.2.out.mono B.out.size)⟩
end Go.Proofs.YtooeikimoheecaaGreat
namespace Go.Proofs.YtooeikimoheecaaGreat
open Go.RowKit
set_option maxRecDepth 100000
/-- A list of windows with the value that holds it. -/
structure WinR where
  v : Value
  sure : List WindowD
def WinR.cells (r : WinR) : List Value := [r.v]
theorem winRLen (r : WinR) : r.cells.length = 1 := rfl
/-- A list of rows of windows, read. -/
def RdWins (w : World) (v : Value) (rows : List WinR) : Prop := SlOf 1 WinR.cells w v rows ∧ ∀ r ∈ rows, SlWindow w r.v r.sure
theorem RdWins.below {w w' : World} {v : Value} {rows : List WinR} (h : RdWins w v rows) (hb : Below w.heap.size w w') : RdWins w' v rows := ⟨h.1.below hb, fun r hr => (h.2 r hr).below hb⟩
/-- What the rows hold is apart from the row's own block when this has grown. -/
theorem apart_next {W : World} {q v : Value} {g4 n4 cap4 : Nat} (ha : ApartV q v) (hv : ∀ g, v.ownBlock = some g → g < W.heap.size) (hor : q.ownBlock = some g4 ∨ g4 = W.heap.size) : ApartV (.slice (some ⟨g4, 0, none⟩) n4 cap4) v := fun b hb hv' => by
  simp [Value.ownBlock] at hb
  subst hb
  rcases hor with he | he
  · exact ha _ he hv'
  · have := hv _ hv'
    omega
/-- The lists that the rows hold are their own, and apart from the rows. -/
def HoldW (base : Nat) (w : World) (q : Value) (rows : List WinR) : Prop := ∀ r ∈ rows, OwnWindow w base r.v r.sure ∧ ApartV q r.v
theorem HoldW.nil (base : Nat) (w : World) (q : Value) : HoldW base w q [] := fun r hr => by simp at hr
theorem HoldW.below {base : Nat} {w w' : World} {q : Value} {rows : List WinR} (h : HoldW base w q rows) (hb : Below w.heap.size w w') : HoldW base w' q rows := fun r hr => ⟨own_below (h r hr).1 hb, (h r hr).2⟩
theorem HoldW.next {base : Nat} {W w4 : World} {q : Value} {rows : List WinR} {x : WinR} {g4 n4 cap4 : Nat} (h : HoldW base W q rows) (hx : OwnWindow W base x.v x.sure ∧ ApartV q x.v) (hg : W.grownBy w4 q.ownBlock) (hor : q.ownBlock = some g4 ∨ g4 = W.heap.size) :
    HoldW base w4 (.slice (some ⟨g4, 0, none⟩) n4 cap4) (rows ++ [x]) := fun r hr => by
  have hr' : OwnWindow W base r.v r.sure ∧ ApartV q r.v := by
    rcases List.mem_append.1 hr with h1 | h1
    · exact h r h1
    · rw [List.mem_singleton.1 h1]; exact hx
  exact ⟨own_kept hr'.1 hg (fun b hv he => hr'.2 b he hv), apart_next hr'.2 (fun g hg => (own_ge hr'.1 hg).2) hor⟩
theorem HoldW.rd {base : Nat} {w : World} {q : Value} {rows : List WinR} (h : HoldW base w q rows) (hl : ∀ r ∈ rows, r.sure.length ≤ 1000000000) : ∀ r ∈ rows, SlWindow w r.v r.sure := fun r hr => OwnWindow.sl (h r hr).1 (hl r hr)
/-- A value made behind the row's world is apart from the row. -/
theorem apart_young {w w' : World} {base b2 : Nat} {α β : Type} {k k2 : Nat} {cs : α → List Value} {cs2 : β → List Value} {t t2 : TypeId} {q v : Value} {l : List α} {m : List β} (hq : OwnOf k cs t w base q l) (hv : OwnOf k2 cs2 t2 w' b2 v m) (hb : w.heap.size ≤ b2) : ApartV q v := fun g hg hv' => by
  have h1 := (own_ge hq hg).2
  have h2 := (own_ge hv hv').1
  omega
/-- A leg in memory: the list of its sure starts, its minutes, and whether the ship may wait ahead of it. -/
structure LegR where
  win : WinR
  mins : Int
  wait : Bool
def LegR.cells (r : LegR) : List Value := [r.win.v, .int .i64 r.mins, .bool r.wait]
theorem legRLen (r : LegR) : r.cells.length = 3 := rfl
def LegR.d (r : LegR) : LegD := ⟨r.win.sure, r.mins, r.wait⟩
/-- Legs, read. -/
def RdLegs (w : World) (v : Value) (rows : List LegR) : Prop := SlOf 3 LegR.cells w v rows ∧ ∀ r ∈ rows, SlWindow w r.win.v r.win.sure
theorem RdLegs.below {w w' : World} {v : Value} {rows : List LegR} (h : RdLegs w v rows) (hb : Below w.heap.size w w') : RdLegs w' v rows := ⟨h.1.below hb, fun r hr => (h.2 r hr).below hb⟩
theorem LegR.at {w : World} {l : List LegR} {g o : Nat} (hc : ∀ i x, l[i]? = some x → ∀ j u, (LegR.cells x)[j]? = some u → w.cell? ⟨g, o + i * 3 + j, none⟩ = some u) (i : Nat) (x : LegR) (hx : l[i]? = some x) :
    w.cell? ⟨g, o + i * 3, none⟩ = some x.win.v ∧ w.cell? ⟨g, o + i * 3 + 1, none⟩ = some (.int .i64 x.mins) ∧ w.cell? ⟨g, o + i * 3 + 2, none⟩ = some (.bool x.wait) := ⟨hc i x hx 0 _ rfl, hc i x hx 1 _ rfl, hc i x hx 2 _ rfl⟩
theorem WinR.at {w : World} {l : List WinR} {g o : Nat} (hc : ∀ i x, l[i]? = some x → ∀ j u, (WinR.cells x)[j]? = some u → w.cell? ⟨g, o + i * 1 + j, none⟩ = some u) (i : Nat) (x : WinR) (hx : l[i]? = some x) :
    w.cell? ⟨g, o + i, none⟩ = some x.v := by
  have := hc i x hx 0 _ rfl
  simpa using this
end Go.Proofs.YtooeikimoheecaaGreat
