
/- What ExactIsSafePassage and ExactSailRoute and ExactFirstSail rests on, part 28: contracts and mathematics. -/
import Derived.Test.YtooeikimoheecaaGreatGr25
import Derived.Test.YtooeikimoheecaaGreatGr9
import Derived.Test.YtooeikimoheecaaGreatGr8
import Derived.StillTailTactics
import Derived.Deep.DeepCutAuto
namespace Go.Proofs.YtooeikimoheecaaGreat
open Go.RowKit
set_option maxRecDepth 100000
set_option maxHeartbeats 8000000 in
theorem implPassageOk (yd0 yd1 : Value) (d : ChartD) (yl : Value) (l : List ShipD) (p : PassageD) (w : World) (rd : RdChart w yd0 yd1 d) (rl : SlShip w yl l) (fd : ∀ x ∈ d.points, PointD.wf x) (fl : ∀ x ∈ l, ShipD.wf x) :
    Calls Tryz.prog 40 #[.agg #[yd0, yd1], yl, p.val] w (fun e w' => e = .returned (.bool (passB d l p)) ∧ Below w.heap.size w w') := by
  have Rd := Lib.hid rd
  obtain ⟨rd0, rd1⟩ := rd
  obtain ⟨Ad0, cd0, rfl⟩ := SlOf.form rd0
  obtain ⟨Ad1, cd1, rfl⟩ := SlOf.form rd1
  have Nd := Lib.hid fd
  clear fd
  clear rd0 rd1
  have Rl := Lib.hid rl
  obtain ⟨Al, cl, rfl⟩ := SlOf.form rl
  clear rl
  have Nl := Lib.hid fl
  clear fl
  obtain ⟨W0, hW0⟩ : ∃ W0, W0 = ((w.alloc (.cells #[.slice Ad0 d.points.length cd0, .slice Ad1 d.segs.length cd1] 49)).alloc (.cells #[.int .i64 p.ship, .int .i64 p.segment, .bool p.toward, .int .i64 p.start, .int .i64 p.stop] 53)) := ⟨_, rfl⟩
  have B := Lib.hid ((Joins.below_alloc1 w (.cells #[.slice Ad0 d.points.length cd0, .slice Ad1 d.segs.length cd1] 49)).trans ((Joins.below_alloc1 (w.alloc (.cells #[.slice Ad0 d.points.length cd0, .slice Ad1 d.segs.length cd1] 49)) (.cells #[.int .i64 p.ship, .int .i64 p.segment, .bool p.toward, .int .i64 p.start, .int .i64 p.stop] 53)).mono (by simp; try omega)))
  have Kd := Lib.hid ((Blk.new w #[.slice Ad0 d.points.length cd0, .slice Ad1 d.segs.length cd1] 49).below (Joins.below_alloc1 _ (.cells #[.int .i64 p.ship, .int .i64 p.segment, .bool p.toward, .int .i64 p.start, .int .i64 p.stop] 53)))
  have Kp := Lib.hid (Blk.new (w.alloc (.cells #[.slice Ad0 d.points.length cd0, .slice Ad1 d.segs.length cd1] 49)) #[.int .i64 p.ship, .int .i64 p.segment, .bool p.toward, .int .i64 p.start, .int .i64 p.stop] 53)
  rw [World.size_alloc] at Kp
  have HW0 := Lib.hid hW0
  rw [← hW0] at B Kd Kp
  clear hW0
  have hdl := Rd.out.2.1
  have hll := Rl.out.1
  obtain ⟨b2, hb2⟩ : ∃ b, fleetB l = b := ⟨_, rfl⟩
  have Hb2 := Lib.hid hb2
  obtain ⟨b3, hb3⟩ : ∃ b, inB p.ship 0 ((l.length : Int) - 1) = b := ⟨_, rfl⟩
  have Hb3 := Lib.hid hb3
  cases b2 with
  | false =>
    clear hb3
    have E := Lib.hid (show passB d l p = false from passB_bad (by unfold passPre; rw [Hb2.out]; simp))
    go_enter Tryz.func40, Tryz.ntmps40
    have Fd0 := Lib.hid (show W0.cell? ⟨w.heap.size, 0, none⟩ = some (.slice Ad0 d.points.length cd0) from Kd.out.cell 0)
    have Fd1 := Lib.hid (show W0.cell? ⟨w.heap.size, 1, none⟩ = some (.slice Ad1 d.segs.length cd1) from Kd.out.cell 1)
    have Fp0 := Lib.hid (show W0.cell? ⟨w.heap.size + 1, 0, none⟩ = some (.int .i64 p.ship) from Kp.out.cell 0)
    have Fp1 := Lib.hid (show W0.cell? ⟨w.heap.size + 1, 1, none⟩ = some (.int .i64 p.segment) from Kp.out.cell 1)
    have Fp2 := Lib.hid (show W0.cell? ⟨w.heap.size + 1, 2, none⟩ = some (.bool p.toward) from Kp.out.cell 2)
    have Fp3 := Lib.hid (show W0.cell? ⟨w.heap.size + 1, 3, none⟩ = some (.int .i64 p.start) from Kp.out.cell 3)
    have Fp4 := Lib.hid (show W0.cell? ⟨w.heap.size + 1, 4, none⟩ = some (.int .i64 p.stop) from Kp.out.cell 4)
    have DD := Lib.hid ((Below.refl W0.heap.size W0).drew)
    have vFd0 := Fd0.out
    have vFd1 := Fd1.out
    have vFp0 := Fp0.out
    have vFp1 := Fp1.out
    have vFp2 := Fp2.out
    have vFp3 := Fp3.out
    have vFp4 := Fp4.out
    go_upto_region 1 with fail
    rw [← HW0.out]
    refine wp_region_held_drew (S := (fun w' => w'.cell? ⟨w.heap.size, 0, none⟩ = some (.slice Ad0 d.points.length cd0) ∧ w'.cell? ⟨w.heap.size, 1, none⟩ = some (.slice Ad1 d.segs.length cd1) ∧ w'.cell? ⟨w.heap.size + 1, 0, none⟩ = some (.int .i64 p.ship) ∧ w'.cell? ⟨w.heap.size + 1, 1, none⟩ = some (.int .i64 p.segment) ∧ w'.cell? ⟨w.heap.size + 1, 2, none⟩ = some (.bool p.toward) ∧ w'.cell? ⟨w.heap.size + 1, 3, none⟩ = some (.int .i64 p.start) ∧ w'.cell? ⟨w.heap.size + 1, 4, none⟩ = some (.int .i64 p.stop) ∧ Hid (Below W0.heap.size W0 w'))) (by kernel_rfl) ?_ (fun hHeld => ?_)
    · (try dsimp only); go_keep
    refine wpAnyH_take (i := 0) (v := ?_) (by simp only [List.getElem?_toArray, List.getElem?_cons_zero]; rfl) (by kernel_rfl) (by kernel_rfl) (by kernel_rfl) (by exact fun _ _ _ h => h) (Or.inl ⟨by rfl, ?_⟩) (by assumption) ?_; rotate_left; focus (intro w hSw; (try dsimp only at hSw); first | (go_simp; done) | (go_simp; with_reducible rfl))
    try simp only [Act.put, List.setIfInBounds_toArray, List.set_cons_zero, List.set_cons_succ]
    refine wpAnyH_ready (rs := [1]) (by kernel_rfl) (by simp) ?_
    refine AllReadyH.cons rfl (fun K hK => ?_) AllReadyH.nil
    rw [if_pos (by rfl)]
    go_simp
    go_at_call 71
    have kB := hHeld.2.2.2.2.2.2.2
    refine (implFleetOk _ l _ (Rl.out.below (B.out.trans (kB.out.mono B.out.size))) Nl.out).mono ?_
    rw [Hb2.out]
    rintro e wq0_1 ⟨rfl, hbk⟩
    have HBK := kB.out.trans (hbk.mono kB.out.size)
    have QS := Lib.hid (show wq0_1.cell? ⟨w.heap.size, 0, none⟩ = some (.slice Ad0 d.points.length cd0) ∧ wq0_1.cell? ⟨w.heap.size, 1, none⟩ = some (.slice Ad1 d.segs.length cd1) ∧ wq0_1.cell? ⟨w.heap.size + 1, 0, none⟩ = some (.int .i64 p.ship) ∧ wq0_1.cell? ⟨w.heap.size + 1, 1, none⟩ = some (.int .i64 p.segment) ∧ wq0_1.cell? ⟨w.heap.size + 1, 2, none⟩ = some (.bool p.toward) ∧ wq0_1.cell? ⟨w.heap.size + 1, 3, none⟩ = some (.int .i64 p.start) ∧ wq0_1.cell? ⟨w.heap.size + 1, 4, none⟩ = some (.int .i64 p.stop) ∧ Hid (Below W0.heap.size W0 wq0_1) from ⟨cell_onV Fd0.out HBK, cell_onV Fd1.out HBK, cell_onV Fp0.out HBK, cell_onV Fp1.out HBK, cell_onV Fp2.out HBK, cell_onV Fp3.out HBK, cell_onV Fp4.out HBK, Lib.hid HBK⟩)
    clear hbk kB hHeld HBK
    go_simp
    refine hK.out _ _ ?_ (fun hHeld => ?_)
    · (try dsimp only); exact QS.out
    clear hK K
    try simp only [Act.put, List.setIfInBounds_toArray, List.set_cons_zero, List.set_cons_succ]
    refine wpAnyH_take (i := 2) (v := ?_) (by simp only [List.getElem?_toArray, List.getElem?_cons_succ, List.getElem?_cons_zero]; rfl) (by kernel_rfl) (by kernel_rfl) (by kernel_rfl) (by exact fun _ _ _ h => h) (Or.inl ⟨by rfl, ?_⟩) (by assumption) ?_; rotate_left; focus (intro w hSw; (try dsimp only at hSw); first | (go_simp; done) | (go_simp; with_reducible rfl))
    try simp only [Act.put, List.setIfInBounds_toArray, List.set_cons_zero, List.set_cons_succ]
    refine wpAnyH_take (i := 3) (v := ?_) (by simp only [List.getElem?_toArray, List.getElem?_cons_succ, List.getElem?_cons_zero]; rfl) (by kernel_rfl) (by kernel_rfl) (by kernel_rfl) (by exact fun _ _ _ h => h) (Or.inl ⟨by rfl, ?_⟩) (by assumption) ?_; rotate_left; focus (intro w hSw; (try dsimp only at hSw); first | (go_simp; done) | (go_simp; with_reducible rfl))
    try simp only [Act.put, List.setIfInBounds_toArray, List.set_cons_zero, List.set_cons_succ]
    refine wpAnyH_take (i := 4) (v := undef) (by simp only [List.getElem?_toArray, List.getElem?_cons_succ, List.getElem?_cons_zero]; rfl) (by kernel_rfl) (by kernel_rfl) (by kernel_rfl) (by exact fun _ _ _ h => h) (Or.inr ⟨by rfl, rfl⟩) (by assumption) ?_
    try simp only [Act.put, List.setIfInBounds_toArray, List.set_cons_zero, List.set_cons_succ]
    refine wpAnyH_take (i := 5) (v := undef) (by simp only [List.getElem?_toArray, List.getElem?_cons_succ, List.getElem?_cons_zero]; rfl) (by kernel_rfl) (by kernel_rfl) (by kernel_rfl) (by exact fun _ _ _ h => h) (Or.inr ⟨by rfl, rfl⟩) (by assumption) ?_
    try simp only [Act.put, List.setIfInBounds_toArray, List.set_cons_zero, List.set_cons_succ]
    refine wpAnyH_take (i := 6) (v := undef) (by simp only [List.getElem?_toArray, List.getElem?_cons_succ, List.getElem?_cons_zero]; rfl) (by kernel_rfl) (by kernel_rfl) (by kernel_rfl) (by exact fun _ _ _ h => h) (Or.inr ⟨by rfl, rfl⟩) (by assumption) ?_
    try simp only [Act.put, List.setIfInBounds_toArray, List.set_cons_zero, List.set_cons_succ]
    refine wpAnyH_take (i := 7) (v := undef) (by simp only [List.getElem?_toArray, List.getElem?_cons_succ, List.getElem?_cons_zero]; rfl) (by kernel_rfl) (by kernel_rfl) (by kernel_rfl) (by exact fun _ _ _ h => h) (Or.inr ⟨by rfl, rfl⟩) (by assumption) ?_
    try simp only [Act.put, List.setIfInBounds_toArray, List.set_cons_zero, List.set_cons_succ]
    refine wpAnyH_take (i := 8) (v := undef) (by simp only [List.getElem?_toArray, List.getElem?_cons_succ, List.getElem?_cons_zero]; rfl) (by kernel_rfl) (by kernel_rfl) (by kernel_rfl) (by exact fun _ _ _ h => h) (Or.inr ⟨by rfl, rfl⟩) (by assumption) ?_
    try simp only [Act.put, List.setIfInBounds_toArray, List.set_cons_zero, List.set_cons_succ]
    refine wpAnyH_take (i := 9) (v := undef) (by simp only [List.getElem?_toArray, List.getElem?_cons_succ, List.getElem?_cons_zero]; rfl) (by kernel_rfl) (by kernel_rfl) (by kernel_rfl) (by exact fun _ _ _ h => h) (Or.inr ⟨by rfl, rfl⟩) (by assumption) ?_
    try simp only [Act.put, List.setIfInBounds_toArray, List.set_cons_zero, List.set_cons_succ]
    refine wpAnyH_take (i := 10) (v := ?_) (by simp only [List.getElem?_toArray, List.getElem?_cons_succ, List.getElem?_cons_zero]; rfl) (by kernel_rfl) (by kernel_rfl) (by kernel_rfl) (by exact fun _ _ _ h => h) (Or.inl ⟨by rfl, ?_⟩) (by assumption) ?_; rotate_left; focus (intro w hSw; (try dsimp only at hSw); first | (go_simp; done) | (go_simp; with_reducible rfl))
    try simp only [Act.put, List.setIfInBounds_toArray, List.set_cons_zero, List.set_cons_succ]
    refine wpAnyH_take (i := 11) (v := ?_) (by simp only [List.getElem?_toArray, List.getElem?_cons_succ, List.getElem?_cons_zero]; rfl) (by kernel_rfl) (by kernel_rfl) (by kernel_rfl) (by exact fun _ _ _ h => h) (Or.inl ⟨by rfl, ?_⟩) (by assumption) ?_; rotate_left; focus (intro w hSw; (try dsimp only at hSw); first | (go_simp; done) | (go_simp; with_reducible rfl))
    try simp only [Act.put, List.setIfInBounds_toArray, List.set_cons_zero, List.set_cons_succ]
    refine wpAnyH_take (i := 12) (v := undef) (by simp only [List.getElem?_toArray, List.getElem?_cons_succ, List.getElem?_cons_zero]; rfl) (by kernel_rfl) (by kernel_rfl) (by kernel_rfl) (by exact fun _ _ _ h => h) (Or.inr ⟨by rfl, rfl⟩) (by assumption) ?_
    try simp only [Act.put, List.setIfInBounds_toArray, List.set_cons_zero, List.set_cons_succ]
    refine wpAnyH_take (i := 13) (v := undef) (by simp only [List.getElem?_toArray, List.getElem?_cons_succ, List.getElem?_cons_zero]; rfl) (by kernel_rfl) (by kernel_rfl) (by kernel_rfl) (by exact fun _ _ _ h => h) (Or.inr ⟨by rfl, rfl⟩) (by assumption) ?_
    try simp only [Act.put, List.setIfInBounds_toArray, List.set_cons_zero, List.set_cons_succ]
    refine wpAnyH_take (i := 14) (v := undef) (by simp only [List.getElem?_toArray, List.getElem?_cons_succ, List.getElem?_cons_zero]; rfl) (by kernel_rfl) (by kernel_rfl) (by kernel_rfl) (by exact fun _ _ _ h => h) (Or.inr ⟨by rfl, rfl⟩) (by assumption) ?_
    try simp only [Act.put, List.setIfInBounds_toArray, List.set_cons_zero, List.set_cons_succ]
    refine wpAnyH_take (i := 15) (v := undef) (by simp only [List.getElem?_toArray, List.getElem?_cons_succ, List.getElem?_cons_zero]; rfl) (by kernel_rfl) (by kernel_rfl) (by kernel_rfl) (by exact fun _ _ _ h => h) (Or.inr ⟨by rfl, rfl⟩) (by assumption) ?_
    try simp only [Act.put, List.setIfInBounds_toArray, List.set_cons_zero, List.set_cons_succ]
    refine wpAnyH_take (i := 16) (v := undef) (by simp only [List.getElem?_toArray, List.getElem?_cons_succ, List.getElem?_cons_zero]; rfl) (by kernel_rfl) (by kernel_rfl) (by kernel_rfl) (by exact fun _ _ _ h => h) (Or.inr ⟨by rfl, rfl⟩) (by assumption) ?_
    try simp only [Act.put, List.setIfInBounds_toArray, List.set_cons_zero, List.set_cons_succ]
    refine wpAnyH_take (i := 17) (v := undef) (by simp only [List.getElem?_toArray, List.getElem?_cons_succ, List.getElem?_cons_zero]; rfl) (by kernel_rfl) (by kernel_rfl) (by kernel_rfl) (by exact fun _ _ _ h => h) (Or.inr ⟨by rfl, rfl⟩) (by assumption) ?_
    try simp only [Act.put, List.setIfInBounds_toArray, List.set_cons_zero, List.set_cons_succ]
    refine wpAnyH_take (i := 18) (v := undef) (by simp only [List.getElem?_toArray, List.getElem?_cons_succ, List.getElem?_cons_zero]; rfl) (by kernel_rfl) (by kernel_rfl) (by kernel_rfl) (by exact fun _ _ _ h => h) (Or.inr ⟨by rfl, rfl⟩) (by assumption) ?_
    try simp only [Act.put, List.setIfInBounds_toArray, List.set_cons_zero, List.set_cons_succ]
    refine wpAnyH_take (i := 19) (v := undef) (by simp only [List.getElem?_toArray, List.getElem?_cons_succ, List.getElem?_cons_zero]; rfl) (by kernel_rfl) (by kernel_rfl) (by kernel_rfl) (by exact fun _ _ _ h => h) (Or.inr ⟨by rfl, rfl⟩) (by assumption) ?_
    try simp only [Act.put, List.setIfInBounds_toArray, List.set_cons_zero, List.set_cons_succ]
    refine wpAnyH_take (i := 20) (v := undef) (by simp only [List.getElem?_toArray, List.getElem?_cons_succ, List.getElem?_cons_zero]; rfl) (by kernel_rfl) (by kernel_rfl) (by kernel_rfl) (by exact fun _ _ _ h => h) (Or.inr ⟨by rfl, rfl⟩) (by assumption) ?_
    try simp only [Act.put, List.setIfInBounds_toArray, List.set_cons_zero, List.set_cons_succ]
    refine wpAnyH_take (i := 21) (v := undef) (by simp only [List.getElem?_toArray, List.getElem?_cons_succ, List.getElem?_cons_zero]; rfl) (by kernel_rfl) (by kernel_rfl) (by kernel_rfl) (by exact fun _ _ _ h => h) (Or.inr ⟨by rfl, rfl⟩) (by assumption) ?_
    try simp only [Act.put, List.setIfInBounds_toArray, List.set_cons_zero, List.set_cons_succ]
    refine wpAnyH_take (i := 22) (v := ?_) (by simp only [List.getElem?_toArray, List.getElem?_cons_succ, List.getElem?_cons_zero]; rfl) (by kernel_rfl) (by kernel_rfl) (by kernel_rfl) (by exact fun _ _ _ h => h) (Or.inl ⟨by rfl, ?_⟩) (by assumption) ?_; rotate_left; focus (intro w hSw; (try dsimp only at hSw); first | (go_simp; done) | (go_simp; with_reducible rfl))
    try simp only [Act.put, List.setIfInBounds_toArray, List.set_cons_zero, List.set_cons_succ]
    refine wpAnyH_take (i := 23) (v := ?_) (by simp only [List.getElem?_toArray, List.getElem?_cons_succ, List.getElem?_cons_zero]; rfl) (by kernel_rfl) (by kernel_rfl) (by kernel_rfl) (by exact fun _ _ _ h => h) (Or.inl ⟨by rfl, ?_⟩) (by assumption) ?_; rotate_left; focus (intro w hSw; (try dsimp only at hSw); first | (go_simp; done) | (go_simp; with_reducible rfl))
    try simp only [Act.put, List.setIfInBounds_toArray, List.set_cons_zero, List.set_cons_succ]
    refine wpAnyH_take (i := 24) (v := undef) (by simp only [List.getElem?_toArray, List.getElem?_cons_succ, List.getElem?_cons_zero]; rfl) (by kernel_rfl) (by kernel_rfl) (by kernel_rfl) (by exact fun _ _ _ h => h) (Or.inr ⟨by rfl, rfl⟩) (by assumption) ?_
    try simp only [Act.put, List.setIfInBounds_toArray, List.set_cons_zero, List.set_cons_succ]
    refine wpAnyH_take (i := 25) (v := undef) (by simp only [List.getElem?_toArray, List.getElem?_cons_succ, List.getElem?_cons_zero]; rfl) (by kernel_rfl) (by kernel_rfl) (by kernel_rfl) (by exact fun _ _ _ h => h) (Or.inr ⟨by rfl, rfl⟩) (by assumption) ?_
    try simp only [Act.put, List.setIfInBounds_toArray, List.set_cons_zero, List.set_cons_succ]
    refine wpAnyH_take (i := 26) (v := undef) (by simp only [List.getElem?_toArray, List.getElem?_cons_succ, List.getElem?_cons_zero]; rfl) (by kernel_rfl) (by kernel_rfl) (by kernel_rfl) (by exact fun _ _ _ h => h) (Or.inr ⟨by rfl, rfl⟩) (by assumption) ?_
    try simp only [Act.put, List.setIfInBounds_toArray, List.set_cons_zero, List.set_cons_succ]
    refine wpAnyH_take (i := 27) (v := undef) (by simp only [List.getElem?_toArray, List.getElem?_cons_succ, List.getElem?_cons_zero]; rfl) (by kernel_rfl) (by kernel_rfl) (by kernel_rfl) (by exact fun _ _ _ h => h) (Or.inr ⟨by rfl, rfl⟩) (by assumption) ?_
    try simp only [Act.put, List.setIfInBounds_toArray, List.set_cons_zero, List.set_cons_succ]
    refine wpAnyH_take (i := 28) (v := ?_) (by simp only [List.getElem?_toArray, List.getElem?_cons_succ, List.getElem?_cons_zero]; rfl) (by kernel_rfl) (by kernel_rfl) (by kernel_rfl) (by exact fun _ _ _ h => h) (Or.inl ⟨by rfl, ?_⟩) (by assumption) ?_; rotate_left; focus (intro w hSw; (try dsimp only at hSw); first | (go_simp; done) | (go_simp; with_reducible rfl))
    try simp only [Act.put, List.setIfInBounds_toArray, List.set_cons_zero, List.set_cons_succ]
    refine wpAnyH_done (by kernel_rfl) ?_ _
    go_wp2
    go_ret
    exact ⟨ret_bool E.out.symm, B.out.trans (hHeld.2.2.2.2.2.2.2.out.mono B.out.size)⟩
  | true =>
  cases b3 with
  | false =>
    have E := Lib.hid (show passB d l p = false from passB_bad (by unfold passPre; rw [Hb3.out]; simp))
    go_enter Tryz.func40, Tryz.ntmps40
    have Fd0 := Lib.hid (show W0.cell? ⟨w.heap.size, 0, none⟩ = some (.slice Ad0 d.points.length cd0) from Kd.out.cell 0)
    have Fd1 := Lib.hid (show W0.cell? ⟨w.heap.size, 1, none⟩ = some (.slice Ad1 d.segs.length cd1) from Kd.out.cell 1)
    have Fp0 := Lib.hid (show W0.cell? ⟨w.heap.size + 1, 0, none⟩ = some (.int .i64 p.ship) from Kp.out.cell 0)
    have Fp1 := Lib.hid (show W0.cell? ⟨w.heap.size + 1, 1, none⟩ = some (.int .i64 p.segment) from Kp.out.cell 1)
    have Fp2 := Lib.hid (show W0.cell? ⟨w.heap.size + 1, 2, none⟩ = some (.bool p.toward) from Kp.out.cell 2)
    have Fp3 := Lib.hid (show W0.cell? ⟨w.heap.size + 1, 3, none⟩ = some (.int .i64 p.start) from Kp.out.cell 3)
    have Fp4 := Lib.hid (show W0.cell? ⟨w.heap.size + 1, 4, none⟩ = some (.int .i64 p.stop) from Kp.out.cell 4)
    have DD := Lib.hid ((Below.refl W0.heap.size W0).drew)
    have vFd0 := Fd0.out
    have vFd1 := Fd1.out
    have vFp0 := Fp0.out
    have vFp1 := Fp1.out
    have vFp2 := Fp2.out
    have vFp3 := Fp3.out
    have vFp4 := Fp4.out
    go_upto_region 1 with fail
    rw [← HW0.out]
    refine wp_region_held_drew (S := (fun w' => w'.cell? ⟨w.heap.size, 0, none⟩ = some (.slice Ad0 d.points.length cd0) ∧ w'.cell? ⟨w.heap.size, 1, none⟩ = some (.slice Ad1 d.segs.length cd1) ∧ w'.cell? ⟨w.heap.size + 1, 0, none⟩ = some (.int .i64 p.ship) ∧ w'.cell? ⟨w.heap.size + 1, 1, none⟩ = some (.int .i64 p.segment) ∧ w'.cell? ⟨w.heap.size + 1, 2, none⟩ = some (.bool p.toward) ∧ w'.cell? ⟨w.heap.size + 1, 3, none⟩ = some (.int .i64 p.start) ∧ w'.cell? ⟨w.heap.size + 1, 4, none⟩ = some (.int .i64 p.stop) ∧ Hid (Below W0.heap.size W0 w'))) (by kernel_rfl) ?_ (fun hHeld => ?_)
    · (try dsimp only); go_keep
    refine wpAnyH_take (i := 0) (v := ?_) (by simp only [List.getElem?_toArray, List.getElem?_cons_zero]; rfl) (by kernel_rfl) (by kernel_rfl) (by kernel_rfl) (by exact fun _ _ _ h => h) (Or.inl ⟨by rfl, ?_⟩) (by assumption) ?_; rotate_left; focus (intro w hSw; (try dsimp only at hSw); first | (go_simp; done) | (go_simp; with_reducible rfl))
    try simp only [Act.put, List.setIfInBounds_toArray, List.set_cons_zero, List.set_cons_succ]
    refine wpAnyH_ready (rs := [1]) (by kernel_rfl) (by simp) ?_
    refine AllReadyH.cons rfl (fun K hK => ?_) AllReadyH.nil
    rw [if_pos (by rfl)]
    go_simp
    go_at_call 71
    have kB := hHeld.2.2.2.2.2.2.2
    refine (implFleetOk _ l _ (Rl.out.below (B.out.trans (kB.out.mono B.out.size))) Nl.out).mono ?_
    rw [Hb2.out]
    rintro e wq0_1 ⟨rfl, hbk⟩
    have HBK := kB.out.trans (hbk.mono kB.out.size)
    have QS := Lib.hid (show wq0_1.cell? ⟨w.heap.size, 0, none⟩ = some (.slice Ad0 d.points.length cd0) ∧ wq0_1.cell? ⟨w.heap.size, 1, none⟩ = some (.slice Ad1 d.segs.length cd1) ∧ wq0_1.cell? ⟨w.heap.size + 1, 0, none⟩ = some (.int .i64 p.ship) ∧ wq0_1.cell? ⟨w.heap.size + 1, 1, none⟩ = some (.int .i64 p.segment) ∧ wq0_1.cell? ⟨w.heap.size + 1, 2, none⟩ = some (.bool p.toward) ∧ wq0_1.cell? ⟨w.heap.size + 1, 3, none⟩ = some (.int .i64 p.start) ∧ wq0_1.cell? ⟨w.heap.size + 1, 4, none⟩ = some (.int .i64 p.stop) ∧ Hid (Below W0.heap.size W0 wq0_1) from ⟨cell_onV Fd0.out HBK, cell_onV Fd1.out HBK, cell_onV Fp0.out HBK, cell_onV Fp1.out HBK, cell_onV Fp2.out HBK, cell_onV Fp3.out HBK, cell_onV Fp4.out HBK, Lib.hid HBK⟩)
    clear hbk kB hHeld HBK
    go_simp
    refine hK.out _ _ ?_ (fun hHeld => ?_)
    · (try dsimp only); exact QS.out
    clear hK K
    try simp only [Act.put, List.setIfInBounds_toArray, List.set_cons_zero, List.set_cons_succ]
    refine wpAnyH_take (i := 2) (v := ?_) (by simp only [List.getElem?_toArray, List.getElem?_cons_succ, List.getElem?_cons_zero]; rfl) (by kernel_rfl) (by kernel_rfl) (by kernel_rfl) (by exact fun _ _ _ h => h) (Or.inl ⟨by rfl, ?_⟩) (by assumption) ?_; rotate_left; focus (intro w hSw; (try dsimp only at hSw); first | (go_simp; done) | (go_simp; with_reducible rfl))
    try simp only [Act.put, List.setIfInBounds_toArray, List.set_cons_zero, List.set_cons_succ]
    refine wpAnyH_take (i := 3) (v := ?_) (by simp only [List.getElem?_toArray, List.getElem?_cons_succ, List.getElem?_cons_zero]; rfl) (by kernel_rfl) (by kernel_rfl) (by kernel_rfl) (by exact fun _ _ _ h => h) (Or.inl ⟨by rfl, ?_⟩) (by assumption) ?_; rotate_left; focus (intro w hSw; (try dsimp only at hSw); first | (go_simp; done) | (go_simp; with_reducible rfl))
    try simp only [Act.put, List.setIfInBounds_toArray, List.set_cons_zero, List.set_cons_succ]
    refine wpAnyH_take (i := 4) (v := ?_) (by simp only [List.getElem?_toArray, List.getElem?_cons_succ, List.getElem?_cons_zero]; rfl) (by kernel_rfl) (by kernel_rfl) (by kernel_rfl) (by exact fun _ _ _ h => h) (Or.inl ⟨by rfl, ?_⟩) (by assumption) ?_; rotate_left; focus (intro w hSw; (try dsimp only at hSw); first | (go_simp; done) | (go_simp; with_reducible rfl))
    try simp only [Act.put, List.setIfInBounds_toArray, List.set_cons_zero, List.set_cons_succ]
    refine wpAnyH_take (i := 5) (v := ?_) (by simp only [List.getElem?_toArray, List.getElem?_cons_succ, List.getElem?_cons_zero]; rfl) (by kernel_rfl) (by kernel_rfl) (by kernel_rfl) (by exact fun _ _ _ h => h) (Or.inl ⟨by rfl, ?_⟩) (by assumption) ?_; rotate_left; focus (intro w hSw; (try dsimp only at hSw); first | (go_simp; done) | (go_simp; with_reducible rfl))
    try simp only [Act.put, List.setIfInBounds_toArray, List.set_cons_zero, List.set_cons_succ]
    refine wpAnyH_take (i := 6) (v := ?_) (by simp only [List.getElem?_toArray, List.getElem?_cons_succ, List.getElem?_cons_zero]; rfl) (by kernel_rfl) (by kernel_rfl) (by kernel_rfl) (by exact fun _ _ _ h => h) (Or.inl ⟨by rfl, ?_⟩) (by assumption) ?_; rotate_left; focus (intro w hSw; (try dsimp only at hSw); first | (go_simp; done) | (go_simp; with_reducible rfl))
    try simp only [Act.put, List.setIfInBounds_toArray, List.set_cons_zero, List.set_cons_succ]
    refine wpAnyH_take (i := 7) (v := ?_) (by simp only [List.getElem?_toArray, List.getElem?_cons_succ, List.getElem?_cons_zero]; rfl) (by kernel_rfl) (by kernel_rfl) (by kernel_rfl) (by exact fun _ _ _ h => h) (Or.inl ⟨by rfl, ?_⟩) (by assumption) ?_; rotate_left; focus (intro w hSw; (try dsimp only at hSw); first | (go_simp; done) | (go_simp; with_reducible rfl))
    try simp only [Act.put, List.setIfInBounds_toArray, List.set_cons_zero, List.set_cons_succ]
    refine wpAnyH_ready (rs := [8]) (by kernel_rfl) (by simp) ?_
    refine AllReadyH.cons rfl (fun K hK => ?_) AllReadyH.nil
    rw [if_pos (by rfl)]
    go_simp
    go_at_call 72
    have kB := hHeld.2.2.2.2.2.2.2
    refine ((isIndex_any _ _ _)).mono ?_
    first | rw [Hb3.out] | rw [← HK.out, Hb3.out]
    rintro e wq0_8 ⟨rfl, hbk1⟩
    have hbk := below_same hbk1
    have HBK := kB.out.trans (hbk.mono kB.out.size)
    have QS := Lib.hid (show wq0_8.cell? ⟨w.heap.size, 0, none⟩ = some (.slice Ad0 d.points.length cd0) ∧ wq0_8.cell? ⟨w.heap.size, 1, none⟩ = some (.slice Ad1 d.segs.length cd1) ∧ wq0_8.cell? ⟨w.heap.size + 1, 0, none⟩ = some (.int .i64 p.ship) ∧ wq0_8.cell? ⟨w.heap.size + 1, 1, none⟩ = some (.int .i64 p.segment) ∧ wq0_8.cell? ⟨w.heap.size + 1, 2, none⟩ = some (.bool p.toward) ∧ wq0_8.cell? ⟨w.heap.size + 1, 3, none⟩ = some (.int .i64 p.start) ∧ wq0_8.cell? ⟨w.heap.size + 1, 4, none⟩ = some (.int .i64 p.stop) ∧ Hid (Below W0.heap.size W0 wq0_8) from ⟨cell_onV Fd0.out HBK, cell_onV Fd1.out HBK, cell_onV Fp0.out HBK, cell_onV Fp1.out HBK, cell_onV Fp2.out HBK, cell_onV Fp3.out HBK, cell_onV Fp4.out HBK, Lib.hid HBK⟩)
    clear hbk kB hHeld HBK
    go_simp
    refine hK.out _ _ ?_ (fun hHeld => ?_)
    · (try dsimp only); exact QS.out
    clear hK K
    try simp only [Act.put, List.setIfInBounds_toArray, List.set_cons_zero, List.set_cons_succ]
    refine wpAnyH_take (i := 9) (v := ?_) (by simp only [List.getElem?_toArray, List.getElem?_cons_succ, List.getElem?_cons_zero]; rfl) (by kernel_rfl) (by kernel_rfl) (by kernel_rfl) (by exact fun _ _ _ h => h) (Or.inl ⟨by rfl, ?_⟩) (by assumption) ?_; rotate_left; focus (intro w hSw; (try dsimp only at hSw); first | (go_simp; done) | (go_simp; with_reducible rfl))
    try simp only [Act.put, List.setIfInBounds_toArray, List.set_cons_zero, List.set_cons_succ]
    refine wpAnyH_take (i := 10) (v := ?_) (by simp only [List.getElem?_toArray, List.getElem?_cons_succ, List.getElem?_cons_zero]; rfl) (by kernel_rfl) (by kernel_rfl) (by kernel_rfl) (by exact fun _ _ _ h => h) (Or.inl ⟨by rfl, ?_⟩) (by assumption) ?_; rotate_left; focus (intro w hSw; (try dsimp only at hSw); first | (go_simp; done) | (go_simp; with_reducible rfl))
    try simp only [Act.put, List.setIfInBounds_toArray, List.set_cons_zero, List.set_cons_succ]
    refine wpAnyH_take (i := 11) (v := ?_) (by simp only [List.getElem?_toArray, List.getElem?_cons_succ, List.getElem?_cons_zero]; rfl) (by kernel_rfl) (by kernel_rfl) (by kernel_rfl) (by exact fun _ _ _ h => h) (Or.inl ⟨by rfl, ?_⟩) (by assumption) ?_; rotate_left; focus (intro w hSw; (try dsimp only at hSw); first | (go_simp; done) | (go_simp; with_reducible rfl))
    try simp only [Act.put, List.setIfInBounds_toArray, List.set_cons_zero, List.set_cons_succ]
    refine wpAnyH_take (i := 12) (v := undef) (by simp only [List.getElem?_toArray, List.getElem?_cons_succ, List.getElem?_cons_zero]; rfl) (by kernel_rfl) (by kernel_rfl) (by kernel_rfl) (by exact fun _ _ _ h => h) (Or.inr ⟨by rfl, rfl⟩) (by assumption) ?_
    try simp only [Act.put, List.setIfInBounds_toArray, List.set_cons_zero, List.set_cons_succ]
    refine wpAnyH_take (i := 13) (v := undef) (by simp only [List.getElem?_toArray, List.getElem?_cons_succ, List.getElem?_cons_zero]; rfl) (by kernel_rfl) (by kernel_rfl) (by kernel_rfl) (by exact fun _ _ _ h => h) (Or.inr ⟨by rfl, rfl⟩) (by assumption) ?_
    try simp only [Act.put, List.setIfInBounds_toArray, List.set_cons_zero, List.set_cons_succ]
    refine wpAnyH_take (i := 14) (v := undef) (by simp only [List.getElem?_toArray, List.getElem?_cons_succ, List.getElem?_cons_zero]; rfl) (by kernel_rfl) (by kernel_rfl) (by kernel_rfl) (by exact fun _ _ _ h => h) (Or.inr ⟨by rfl, rfl⟩) (by assumption) ?_
    try simp only [Act.put, List.setIfInBounds_toArray, List.set_cons_zero, List.set_cons_succ]
    refine wpAnyH_take (i := 15) (v := undef) (by simp only [List.getElem?_toArray, List.getElem?_cons_succ, List.getElem?_cons_zero]; rfl) (by kernel_rfl) (by kernel_rfl) (by kernel_rfl) (by exact fun _ _ _ h => h) (Or.inr ⟨by rfl, rfl⟩) (by assumption) ?_
    try simp only [Act.put, List.setIfInBounds_toArray, List.set_cons_zero, List.set_cons_succ]
    refine wpAnyH_take (i := 16) (v := undef) (by simp only [List.getElem?_toArray, List.getElem?_cons_succ, List.getElem?_cons_zero]; rfl) (by kernel_rfl) (by kernel_rfl) (by kernel_rfl) (by exact fun _ _ _ h => h) (Or.inr ⟨by rfl, rfl⟩) (by assumption) ?_
    try simp only [Act.put, List.setIfInBounds_toArray, List.set_cons_zero, List.set_cons_succ]
    refine wpAnyH_take (i := 17) (v := undef) (by simp only [List.getElem?_toArray, List.getElem?_cons_succ, List.getElem?_cons_zero]; rfl) (by kernel_rfl) (by kernel_rfl) (by kernel_rfl) (by exact fun _ _ _ h => h) (Or.inr ⟨by rfl, rfl⟩) (by assumption) ?_
    try simp only [Act.put, List.setIfInBounds_toArray, List.set_cons_zero, List.set_cons_succ]
    refine wpAnyH_take (i := 18) (v := undef) (by simp only [List.getElem?_toArray, List.getElem?_cons_succ, List.getElem?_cons_zero]; rfl) (by kernel_rfl) (by kernel_rfl) (by kernel_rfl) (by exact fun _ _ _ h => h) (Or.inr ⟨by rfl, rfl⟩) (by assumption) ?_
    try simp only [Act.put, List.setIfInBounds_toArray, List.set_cons_zero, List.set_cons_succ]
    refine wpAnyH_take (i := 19) (v := undef) (by simp only [List.getElem?_toArray, List.getElem?_cons_succ, List.getElem?_cons_zero]; rfl) (by kernel_rfl) (by kernel_rfl) (by kernel_rfl) (by exact fun _ _ _ h => h) (Or.inr ⟨by rfl, rfl⟩) (by assumption) ?_
    try simp only [Act.put, List.setIfInBounds_toArray, List.set_cons_zero, List.set_cons_succ]
    refine wpAnyH_take (i := 20) (v := undef) (by simp only [List.getElem?_toArray, List.getElem?_cons_succ, List.getElem?_cons_zero]; rfl) (by kernel_rfl) (by kernel_rfl) (by kernel_rfl) (by exact fun _ _ _ h => h) (Or.inr ⟨by rfl, rfl⟩) (by assumption) ?_
    try simp only [Act.put, List.setIfInBounds_toArray, List.set_cons_zero, List.set_cons_succ]
    refine wpAnyH_take (i := 21) (v := undef) (by simp only [List.getElem?_toArray, List.getElem?_cons_succ, List.getElem?_cons_zero]; rfl) (by kernel_rfl) (by kernel_rfl) (by kernel_rfl) (by exact fun _ _ _ h => h) (Or.inr ⟨by rfl, rfl⟩) (by assumption) ?_
    try simp only [Act.put, List.setIfInBounds_toArray, List.set_cons_zero, List.set_cons_succ]
    refine wpAnyH_take (i := 22) (v := ?_) (by simp only [List.getElem?_toArray, List.getElem?_cons_succ, List.getElem?_cons_zero]; rfl) (by kernel_rfl) (by kernel_rfl) (by kernel_rfl) (by exact fun _ _ _ h => h) (Or.inl ⟨by rfl, ?_⟩) (by assumption) ?_; rotate_left; focus (intro w hSw; (try dsimp only at hSw); first | (go_simp; done) | (go_simp; with_reducible rfl))
    try simp only [Act.put, List.setIfInBounds_toArray, List.set_cons_zero, List.set_cons_succ]
    refine wpAnyH_take (i := 23) (v := ?_) (by simp only [List.getElem?_toArray, List.getElem?_cons_succ, List.getElem?_cons_zero]; rfl) (by kernel_rfl) (by kernel_rfl) (by kernel_rfl) (by exact fun _ _ _ h => h) (Or.inl ⟨by rfl, ?_⟩) (by assumption) ?_; rotate_left; focus (intro w hSw; (try dsimp only at hSw); first | (go_simp; done) | (go_simp; with_reducible rfl))
    try simp only [Act.put, List.setIfInBounds_toArray, List.set_cons_zero, List.set_cons_succ]
    refine wpAnyH_take (i := 24) (v := undef) (by simp only [List.getElem?_toArray, List.getElem?_cons_succ, List.getElem?_cons_zero]; rfl) (by kernel_rfl) (by kernel_rfl) (by kernel_rfl) (by exact fun _ _ _ h => h) (Or.inr ⟨by rfl, rfl⟩) (by assumption) ?_
    try simp only [Act.put, List.setIfInBounds_toArray, List.set_cons_zero, List.set_cons_succ]
    refine wpAnyH_take (i := 25) (v := undef) (by simp only [List.getElem?_toArray, List.getElem?_cons_succ, List.getElem?_cons_zero]; rfl) (by kernel_rfl) (by kernel_rfl) (by kernel_rfl) (by exact fun _ _ _ h => h) (Or.inr ⟨by rfl, rfl⟩) (by assumption) ?_
    try simp only [Act.put, List.setIfInBounds_toArray, List.set_cons_zero, List.set_cons_succ]
    refine wpAnyH_take (i := 26) (v := undef) (by simp only [List.getElem?_toArray, List.getElem?_cons_succ, List.getElem?_cons_zero]; rfl) (by kernel_rfl) (by kernel_rfl) (by kernel_rfl) (by exact fun _ _ _ h => h) (Or.inr ⟨by rfl, rfl⟩) (by assumption) ?_
    try simp only [Act.put, List.setIfInBounds_toArray, List.set_cons_zero, List.set_cons_succ]
    refine wpAnyH_take (i := 27) (v := undef) (by simp only [List.getElem?_toArray, List.getElem?_cons_succ, List.getElem?_cons_zero]; rfl) (by kernel_rfl) (by kernel_rfl) (by kernel_rfl) (by exact fun _ _ _ h => h) (Or.inr ⟨by rfl, rfl⟩) (by assumption) ?_
    try simp only [Act.put, List.setIfInBounds_toArray, List.set_cons_zero, List.set_cons_succ]
    refine wpAnyH_take (i := 28) (v := ?_) (by simp only [List.getElem?_toArray, List.getElem?_cons_succ, List.getElem?_cons_zero]; rfl) (by kernel_rfl) (by kernel_rfl) (by kernel_rfl) (by exact fun _ _ _ h => h) (Or.inl ⟨by rfl, ?_⟩) (by assumption) ?_; rotate_left; focus (intro w hSw; (try dsimp only at hSw); first | (go_simp; done) | (go_simp; with_reducible rfl))
    try simp only [Act.put, List.setIfInBounds_toArray, List.set_cons_zero, List.set_cons_succ]
    refine wpAnyH_done (by kernel_rfl) ?_ _
    go_wp2
    go_ret
    exact ⟨ret_bool E.out.symm, B.out.trans (hHeld.2.2.2.2.2.2.2.out.mono B.out.size)⟩
  | true =>
  obtain ⟨s, hs, hx, i0, il⟩ := shipAt_in Hb3.out
  have HSA := Lib.hid hs
  have hsk := (fleetB_ship Hb2.out hx).1
  have HX := Lib.hid (List.mem_of_getElem? hx)
  have HSK := Lib.hid hsk
  obtain ⟨k, hk⟩ : ∃ k : Nat, p.ship = (k : Int) := ⟨p.ship.toNat, by omega⟩
  rw [hk] at hx il
  simp only [Int.toNat_natCast] at hx il
  rw [hk] at Kp
  have HK := Lib.hid hk
  rcases Rl.out.2 with ⟨he, _⟩ | ⟨g, o, c, e, hpos, hcap, hc⟩
  · rw [he] at il; simp at il
  injection e with hA _ hcp
  subst hA hcp
  obtain ⟨q0, q1, q2, q3, q4, q5⟩ := SlShip.cells hc k s hx
  have Y0 := Lib.hid q0
  have Y1 := Lib.hid q1
  have Y2 := Lib.hid q2
  have Y3 := Lib.hid q3
  have Y4 := Lib.hid q4
  have Y5 := Lib.hid q5
  clear q0 q1 q2 q3 q4 q5 hc hx hs hsk i0 hb2 hb3
  obtain ⟨b4, hb4⟩ : ∃ b, sailB d p.segment s = b := ⟨_, rfl⟩
  have Hb4 := Lib.hid hb4
  obtain ⟨b5, hb5⟩ : ∃ b, inB p.start 0 2880 = b := ⟨_, rfl⟩
  have Hb5 := Lib.hid hb5
  clear hk hb4 hb5
  have HPR := Lib.hid (show passPre d l p = (b4 && b5) by rw [← Hb4.out, ← Hb5.out]; unfold passPre sailB; rw [Hb2.out, Hb3.out, HSK.out]; simp)
  have FY0a := Lib.hid (show W0.cell? ⟨g, o + k * 6, none⟩ = some (.string s.name) from cell_onV Y0.out B.out)
  have FY1a := Lib.hid (show W0.cell? ⟨g, o + k * 6 + 1, none⟩ = some (.int .i64 s.length) from cell_onV Y1.out B.out)
  have FY2a := Lib.hid (show W0.cell? ⟨g, o + k * 6 + 2, none⟩ = some (.int .i64 s.draught) from cell_onV Y2.out B.out)
  have FY3a := Lib.hid (show W0.cell? ⟨g, o + k * 6 + 3, none⟩ = some (.int .i64 s.line) from cell_onV Y3.out B.out)
  have FY4a := Lib.hid (show W0.cell? ⟨g, o + k * 6 + 4, none⟩ = some (.int .i64 s.tugs) from cell_onV Y4.out B.out)
  have FY5a := Lib.hid (show W0.cell? ⟨g, o + k * 6 + 5, none⟩ = some (.bool s.slow) from cell_onV Y5.out B.out)
  cases b4 with
  | false =>
    have E := Lib.hid (show passB d l p = false from passB_bad (HPR.out.trans (by simp)))
    go_enter Tryz.func40, Tryz.ntmps40
    have Fd0 := Lib.hid (show W0.cell? ⟨w.heap.size, 0, none⟩ = some (.slice Ad0 d.points.length cd0) from Kd.out.cell 0)
    have Fd1 := Lib.hid (show W0.cell? ⟨w.heap.size, 1, none⟩ = some (.slice Ad1 d.segs.length cd1) from Kd.out.cell 1)
    have Fp0 := Lib.hid (show W0.cell? ⟨w.heap.size + 1, 0, none⟩ = some (.int .i64 (k : Int)) from Kp.out.cell 0)
    have Fp1 := Lib.hid (show W0.cell? ⟨w.heap.size + 1, 1, none⟩ = some (.int .i64 p.segment) from Kp.out.cell 1)
    have Fp2 := Lib.hid (show W0.cell? ⟨w.heap.size + 1, 2, none⟩ = some (.bool p.toward) from Kp.out.cell 2)
    have Fp3 := Lib.hid (show W0.cell? ⟨w.heap.size + 1, 3, none⟩ = some (.int .i64 p.start) from Kp.out.cell 3)
    have Fp4 := Lib.hid (show W0.cell? ⟨w.heap.size + 1, 4, none⟩ = some (.int .i64 p.stop) from Kp.out.cell 4)
    have DD := Lib.hid ((Below.refl W0.heap.size W0).drew)
    have vFd0 := Fd0.out
    have vFd1 := Fd1.out
    have vFp0 := Fp0.out
    have vFp1 := Fp1.out
    have vFp2 := Fp2.out
    have vFp3 := Fp3.out
    have vFp4 := Fp4.out
    have vFY0a := FY0a.out
    have vFY1a := FY1a.out
    have vFY2a := FY2a.out
    have vFY3a := FY3a.out
    have vFY4a := FY4a.out
    have vFY5a := FY5a.out
    go_upto_region 1 with fail
    rw [← HW0.out]
    refine wp_region_held_drew (S := (fun w' => w'.cell? ⟨w.heap.size, 0, none⟩ = some (.slice Ad0 d.points.length cd0) ∧ w'.cell? ⟨w.heap.size, 1, none⟩ = some (.slice Ad1 d.segs.length cd1) ∧ w'.cell? ⟨w.heap.size + 1, 0, none⟩ = some (.int .i64 (k : Int)) ∧ w'.cell? ⟨w.heap.size + 1, 1, none⟩ = some (.int .i64 p.segment) ∧ w'.cell? ⟨w.heap.size + 1, 2, none⟩ = some (.bool p.toward) ∧ w'.cell? ⟨w.heap.size + 1, 3, none⟩ = some (.int .i64 p.start) ∧ w'.cell? ⟨w.heap.size + 1, 4, none⟩ = some (.int .i64 p.stop) ∧ w'.cell? ⟨g, o + k * 6, none⟩ = some (.string s.name) ∧ w'.cell? ⟨g, o + k * 6 + 1, none⟩ = some (.int .i64 s.length) ∧ w'.cell? ⟨g, o + k * 6 + 2, none⟩ = some (.int .i64 s.draught) ∧ w'.cell? ⟨g, o + k * 6 + 3, none⟩ = some (.int .i64 s.line) ∧ w'.cell? ⟨g, o + k * 6 + 4, none⟩ = some (.int .i64 s.tugs) ∧ w'.cell? ⟨g, o + k * 6 + 5, none⟩ = some (.bool s.slow) ∧ Hid (Below W0.heap.size W0 w'))) (by kernel_rfl) ?_ (fun hHeld => ?_)
    · (try dsimp only); go_keep
    refine wpAnyH_take (i := 0) (v := ?_) (by simp only [List.getElem?_toArray, List.getElem?_cons_zero]; rfl) (by kernel_rfl) (by kernel_rfl) (by kernel_rfl) (by exact fun _ _ _ h => h) (Or.inl ⟨by rfl, ?_⟩) (by assumption) ?_; rotate_left; focus (intro w hSw; (try dsimp only at hSw); first | (go_simp; done) | (go_simp; with_reducible rfl))
    try simp only [Act.put, List.setIfInBounds_toArray, List.set_cons_zero, List.set_cons_succ]
    refine wpAnyH_ready (rs := [1]) (by kernel_rfl) (by simp) ?_
    refine AllReadyH.cons rfl (fun K hK => ?_) AllReadyH.nil
    rw [if_pos (by rfl)]
    go_simp
    go_at_call 71
    have kB := hHeld.2.2.2.2.2.2.2.2.2.2.2.2.2
    refine (implFleetOk _ l _ (Rl.out.below (B.out.trans (kB.out.mono B.out.size))) Nl.out).mono ?_
    rw [Hb2.out]
    rintro e wq0_1 ⟨rfl, hbk⟩
    have HBK := kB.out.trans (hbk.mono kB.out.size)
    have QS := Lib.hid (show wq0_1.cell? ⟨w.heap.size, 0, none⟩ = some (.slice Ad0 d.points.length cd0) ∧ wq0_1.cell? ⟨w.heap.size, 1, none⟩ = some (.slice Ad1 d.segs.length cd1) ∧ wq0_1.cell? ⟨w.heap.size + 1, 0, none⟩ = some (.int .i64 (k : Int)) ∧ wq0_1.cell? ⟨w.heap.size + 1, 1, none⟩ = some (.int .i64 p.segment) ∧ wq0_1.cell? ⟨w.heap.size + 1, 2, none⟩ = some (.bool p.toward) ∧ wq0_1.cell? ⟨w.heap.size + 1, 3, none⟩ = some (.int .i64 p.start) ∧ wq0_1.cell? ⟨w.heap.size + 1, 4, none⟩ = some (.int .i64 p.stop) ∧ wq0_1.cell? ⟨g, o + k * 6, none⟩ = some (.string s.name) ∧ wq0_1.cell? ⟨g, o + k * 6 + 1, none⟩ = some (.int .i64 s.length) ∧ wq0_1.cell? ⟨g, o + k * 6 + 2, none⟩ = some (.int .i64 s.draught) ∧ wq0_1.cell? ⟨g, o + k * 6 + 3, none⟩ = some (.int .i64 s.line) ∧ wq0_1.cell? ⟨g, o + k * 6 + 4, none⟩ = some (.int .i64 s.tugs) ∧ wq0_1.cell? ⟨g, o + k * 6 + 5, none⟩ = some (.bool s.slow) ∧ Hid (Below W0.heap.size W0 wq0_1) from ⟨cell_onV Fd0.out HBK, cell_onV Fd1.out HBK, cell_onV Fp0.out HBK, cell_onV Fp1.out HBK, cell_onV Fp2.out HBK, cell_onV Fp3.out HBK, cell_onV Fp4.out HBK, cell_onV FY0a.out HBK, cell_onV FY1a.out HBK, cell_onV FY2a.out HBK, cell_onV FY3a.out HBK, cell_onV FY4a.out HBK, cell_onV FY5a.out HBK, Lib.hid HBK⟩)
    clear hbk kB hHeld HBK
    go_simp
    refine hK.out _ _ ?_ (fun hHeld => ?_)
    · (try dsimp only); exact QS.out
    clear hK K
    try simp only [Act.put, List.setIfInBounds_toArray, List.set_cons_zero, List.set_cons_succ]
    refine wpAnyH_take (i := 2) (v := ?_) (by simp only [List.getElem?_toArray, List.getElem?_cons_succ, List.getElem?_cons_zero]; rfl) (by kernel_rfl) (by kernel_rfl) (by kernel_rfl) (by exact fun _ _ _ h => h) (Or.inl ⟨by rfl, ?_⟩) (by assumption) ?_; rotate_left; focus (intro w hSw; (try dsimp only at hSw); first | (go_simp; done) | (go_simp; with_reducible rfl))
    try simp only [Act.put, List.setIfInBounds_toArray, List.set_cons_zero, List.set_cons_succ]
    refine wpAnyH_take (i := 3) (v := ?_) (by simp only [List.getElem?_toArray, List.getElem?_cons_succ, List.getElem?_cons_zero]; rfl) (by kernel_rfl) (by kernel_rfl) (by kernel_rfl) (by exact fun _ _ _ h => h) (Or.inl ⟨by rfl, ?_⟩) (by assumption) ?_; rotate_left; focus (intro w hSw; (try dsimp only at hSw); first | (go_simp; done) | (go_simp; with_reducible rfl))
    try simp only [Act.put, List.setIfInBounds_toArray, List.set_cons_zero, List.set_cons_succ]
    refine wpAnyH_take (i := 4) (v := ?_) (by simp only [List.getElem?_toArray, List.getElem?_cons_succ, List.getElem?_cons_zero]; rfl) (by kernel_rfl) (by kernel_rfl) (by kernel_rfl) (by exact fun _ _ _ h => h) (Or.inl ⟨by rfl, ?_⟩) (by assumption) ?_; rotate_left; focus (intro w hSw; (try dsimp only at hSw); first | (go_simp; done) | (go_simp; with_reducible rfl))
    try simp only [Act.put, List.setIfInBounds_toArray, List.set_cons_zero, List.set_cons_succ]
    refine wpAnyH_take (i := 5) (v := ?_) (by simp only [List.getElem?_toArray, List.getElem?_cons_succ, List.getElem?_cons_zero]; rfl) (by kernel_rfl) (by kernel_rfl) (by kernel_rfl) (by exact fun _ _ _ h => h) (Or.inl ⟨by rfl, ?_⟩) (by assumption) ?_; rotate_left; focus (intro w hSw; (try dsimp only at hSw); first | (go_simp; done) | (go_simp; with_reducible rfl))
    try simp only [Act.put, List.setIfInBounds_toArray, List.set_cons_zero, List.set_cons_succ]
    refine wpAnyH_take (i := 6) (v := ?_) (by simp only [List.getElem?_toArray, List.getElem?_cons_succ, List.getElem?_cons_zero]; rfl) (by kernel_rfl) (by kernel_rfl) (by kernel_rfl) (by exact fun _ _ _ h => h) (Or.inl ⟨by rfl, ?_⟩) (by assumption) ?_; rotate_left; focus (intro w hSw; (try dsimp only at hSw); first | (go_simp; done) | (go_simp; with_reducible rfl))
    try simp only [Act.put, List.setIfInBounds_toArray, List.set_cons_zero, List.set_cons_succ]
    refine wpAnyH_take (i := 7) (v := ?_) (by simp only [List.getElem?_toArray, List.getElem?_cons_succ, List.getElem?_cons_zero]; rfl) (by kernel_rfl) (by kernel_rfl) (by kernel_rfl) (by exact fun _ _ _ h => h) (Or.inl ⟨by rfl, ?_⟩) (by assumption) ?_; rotate_left; focus (intro w hSw; (try dsimp only at hSw); first | (go_simp; done) | (go_simp; with_reducible rfl))
    try simp only [Act.put, List.setIfInBounds_toArray, List.set_cons_zero, List.set_cons_succ]
    refine wpAnyH_ready (rs := [8]) (by kernel_rfl) (by simp) ?_
    refine AllReadyH.cons rfl (fun K hK => ?_) AllReadyH.nil
    rw [if_pos (by rfl)]
    go_simp
    go_at_call 72
    have kB := hHeld.2.2.2.2.2.2.2.2.2.2.2.2.2
    refine ((isIndex_any _ _ _)).mono ?_
    first | rw [Hb3.out] | rw [← HK.out, Hb3.out]
    rintro e wq0_8 ⟨rfl, hbk1⟩
    have hbk := below_same hbk1
    have HBK := kB.out.trans (hbk.mono kB.out.size)
    have QS := Lib.hid (show wq0_8.cell? ⟨w.heap.size, 0, none⟩ = some (.slice Ad0 d.points.length cd0) ∧ wq0_8.cell? ⟨w.heap.size, 1, none⟩ = some (.slice Ad1 d.segs.length cd1) ∧ wq0_8.cell? ⟨w.heap.size + 1, 0, none⟩ = some (.int .i64 (k : Int)) ∧ wq0_8.cell? ⟨w.heap.size + 1, 1, none⟩ = some (.int .i64 p.segment) ∧ wq0_8.cell? ⟨w.heap.size + 1, 2, none⟩ = some (.bool p.toward) ∧ wq0_8.cell? ⟨w.heap.size + 1, 3, none⟩ = some (.int .i64 p.start) ∧ wq0_8.cell? ⟨w.heap.size + 1, 4, none⟩ = some (.int .i64 p.stop) ∧ wq0_8.cell? ⟨g, o + k * 6, none⟩ = some (.string s.name) ∧ wq0_8.cell? ⟨g, o + k * 6 + 1, none⟩ = some (.int .i64 s.length) ∧ wq0_8.cell? ⟨g, o + k * 6 + 2, none⟩ = some (.int .i64 s.draught) ∧ wq0_8.cell? ⟨g, o + k * 6 + 3, none⟩ = some (.int .i64 s.line) ∧ wq0_8.cell? ⟨g, o + k * 6 + 4, none⟩ = some (.int .i64 s.tugs) ∧ wq0_8.cell? ⟨g, o + k * 6 + 5, none⟩ = some (.bool s.slow) ∧ Hid (Below W0.heap.size W0 wq0_8) from ⟨cell_onV Fd0.out HBK, cell_onV Fd1.out HBK, cell_onV Fp0.out HBK, cell_onV Fp1.out HBK, cell_onV Fp2.out HBK, cell_onV Fp3.out HBK, cell_onV Fp4.out HBK, cell_onV FY0a.out HBK, cell_onV FY1a.out HBK, cell_onV FY2a.out HBK, cell_onV FY3a.out HBK, cell_onV FY4a.out HBK, cell_onV FY5a.out HBK, Lib.hid HBK⟩)
    clear hbk kB hHeld HBK
    go_simp
    refine hK.out _ _ ?_ (fun hHeld => ?_)
    · (try dsimp only); exact QS.out
    clear hK K
    try simp only [Act.put, List.setIfInBounds_toArray, List.set_cons_zero, List.set_cons_succ]
    refine wpAnyH_take (i := 9) (v := ?_) (by simp only [List.getElem?_toArray, List.getElem?_cons_succ, List.getElem?_cons_zero]; rfl) (by kernel_rfl) (by kernel_rfl) (by kernel_rfl) (by exact fun _ _ _ h => h) (Or.inl ⟨by rfl, ?_⟩) (by assumption) ?_; rotate_left; focus (intro w hSw; (try dsimp only at hSw); first | (go_simp; done) | (go_simp; with_reducible rfl))
    try simp only [Act.put, List.setIfInBounds_toArray, List.set_cons_zero, List.set_cons_succ]
    refine wpAnyH_take (i := 10) (v := ?_) (by simp only [List.getElem?_toArray, List.getElem?_cons_succ, List.getElem?_cons_zero]; rfl) (by kernel_rfl) (by kernel_rfl) (by kernel_rfl) (by exact fun _ _ _ h => h) (Or.inl ⟨by rfl, ?_⟩) (by assumption) ?_; rotate_left; focus (intro w hSw; (try dsimp only at hSw); first | (go_simp; done) | (go_simp; with_reducible rfl))
    try simp only [Act.put, List.setIfInBounds_toArray, List.set_cons_zero, List.set_cons_succ]
    refine wpAnyH_take (i := 11) (v := ?_) (by simp only [List.getElem?_toArray, List.getElem?_cons_succ, List.getElem?_cons_zero]; rfl) (by kernel_rfl) (by kernel_rfl) (by kernel_rfl) (by exact fun _ _ _ h => h) (Or.inl ⟨by rfl, ?_⟩) (by assumption) ?_; rotate_left; focus (intro w hSw; (try dsimp only at hSw); first | (go_simp; done) | (go_simp; with_reducible rfl))
    try simp only [Act.put, List.setIfInBounds_toArray, List.set_cons_zero, List.set_cons_succ]
    refine wpAnyH_take (i := 12) (v := ?_) (by simp only [List.getElem?_toArray, List.getElem?_cons_succ, List.getElem?_cons_zero]; rfl) (by kernel_rfl) (by kernel_rfl) (by kernel_rfl) (by exact fun _ _ _ h => h) (Or.inl ⟨by rfl, ?_⟩) (by assumption) ?_; rotate_left; focus (intro w hSw; (try dsimp only at hSw); first | (go_simp; done) | (go_simp; with_reducible rfl))
    try simp only [Act.put, List.setIfInBounds_toArray, List.set_cons_zero, List.set_cons_succ]
    refine wpAnyH_take (i := 13) (v := ?_) (by simp only [List.getElem?_toArray, List.getElem?_cons_succ, List.getElem?_cons_zero]; rfl) (by kernel_rfl) (by kernel_rfl) (by kernel_rfl) (by exact fun _ _ _ h => h) (Or.inl ⟨by rfl, ?_⟩) (by assumption) ?_; rotate_left; focus (intro w hSw; (try dsimp only at hSw); first | (go_simp; done) | (go_simp; with_reducible rfl))
    try simp only [Act.put, List.setIfInBounds_toArray, List.set_cons_zero, List.set_cons_succ]
    refine wpAnyH_take (i := 14) (v := ?_) (by simp only [List.getElem?_toArray, List.getElem?_cons_succ, List.getElem?_cons_zero]; rfl) (by kernel_rfl) (by kernel_rfl) (by kernel_rfl) (by exact fun _ _ _ h => h) (Or.inl ⟨by rfl, ?_⟩) (by assumption) ?_; rotate_left; focus (intro w hSw; (try dsimp only at hSw); first | (go_simp; done) | (go_simp; with_reducible rfl))
    try simp only [Act.put, List.setIfInBounds_toArray, List.set_cons_zero, List.set_cons_succ]
    refine wpAnyH_take (i := 15) (v := ?_) (by simp only [List.getElem?_toArray, List.getElem?_cons_succ, List.getElem?_cons_zero]; rfl) (by kernel_rfl) (by kernel_rfl) (by kernel_rfl) (by exact fun _ _ _ h => h) (Or.inl ⟨by rfl, ?_⟩) (by assumption) ?_; rotate_left; focus (intro w hSw; (try dsimp only at hSw); first | (go_simp; done) | (go_simp; with_reducible rfl))
    try simp only [Act.put, List.setIfInBounds_toArray, List.set_cons_zero, List.set_cons_succ]
    refine wpAnyH_take (i := 16) (v := ?_) (by simp only [List.getElem?_toArray, List.getElem?_cons_succ, List.getElem?_cons_zero]; rfl) (by kernel_rfl) (by kernel_rfl) (by kernel_rfl) (by exact fun _ _ _ h => h) (Or.inl ⟨by rfl, ?_⟩) (by assumption) ?_; rotate_left; focus (intro w hSw; (try dsimp only at hSw); first | (go_simp; done) | (go_simp; with_reducible rfl))
    try simp only [Act.put, List.setIfInBounds_toArray, List.set_cons_zero, List.set_cons_succ]
    refine wpAnyH_take (i := 17) (v := ?_) (by simp only [List.getElem?_toArray, List.getElem?_cons_succ, List.getElem?_cons_zero]; rfl) (by kernel_rfl) (by kernel_rfl) (by kernel_rfl) (by exact fun _ _ _ h => h) (Or.inl ⟨by rfl, ?_⟩) (by assumption) ?_; rotate_left; focus (intro w hSw; (try dsimp only at hSw); first | (go_simp; done) | (go_simp; with_reducible rfl))
    try simp only [Act.put, List.setIfInBounds_toArray, List.set_cons_zero, List.set_cons_succ]
    refine wpAnyH_take (i := 18) (v := ?_) (by simp only [List.getElem?_toArray, List.getElem?_cons_succ, List.getElem?_cons_zero]; rfl) (by kernel_rfl) (by kernel_rfl) (by kernel_rfl) (by exact fun _ _ _ h => h) (Or.inl ⟨by rfl, ?_⟩) (by assumption) ?_; rotate_left; focus (intro w hSw; (try dsimp only at hSw); first | (go_simp; done) | (go_simp; with_reducible rfl))
    try simp only [Act.put, List.setIfInBounds_toArray, List.set_cons_zero, List.set_cons_succ]
    refine wpAnyH_take (i := 19) (v := ?_) (by simp only [List.getElem?_toArray, List.getElem?_cons_succ, List.getElem?_cons_zero]; rfl) (by kernel_rfl) (by kernel_rfl) (by kernel_rfl) (by exact fun _ _ _ h => h) (Or.inl ⟨by rfl, ?_⟩) (by assumption) ?_; rotate_left; focus (intro w hSw; (try dsimp only at hSw); first | (go_simp; done) | (go_simp; with_reducible rfl))
    try simp only [Act.put, List.setIfInBounds_toArray, List.set_cons_zero, List.set_cons_succ]
    refine wpAnyH_ready (rs := [20]) (by kernel_rfl) (by simp) ?_
    refine AllReadyH.cons rfl (fun K hK => ?_) AllReadyH.nil
    rw [if_pos (by rfl)]
    go_simp
    go_at_call 73
    have kB := hHeld.2.2.2.2.2.2.2.2.2.2.2.2.2
    refine (implSail _ _ d p.segment s _ (Rd.out.below (B.out.trans (kB.out.mono B.out.size))) Nd.out (Nl.out s HX.out)).mono ?_
    rw [Hb4.out]
    rintro e wq0_20 ⟨rfl, hbk⟩
    have HBK := kB.out.trans (hbk.mono kB.out.size)
    have QS := Lib.hid (show wq0_20.cell? ⟨w.heap.size, 0, none⟩ = some (.slice Ad0 d.points.length cd0) ∧ wq0_20.cell? ⟨w.heap.size, 1, none⟩ = some (.slice Ad1 d.segs.length cd1) ∧ wq0_20.cell? ⟨w.heap.size + 1, 0, none⟩ = some (.int .i64 (k : Int)) ∧ wq0_20.cell? ⟨w.heap.size + 1, 1, none⟩ = some (.int .i64 p.segment) ∧ wq0_20.cell? ⟨w.heap.size + 1, 2, none⟩ = some (.bool p.toward) ∧ wq0_20.cell? ⟨w.heap.size + 1, 3, none⟩ = some (.int .i64 p.start) ∧ wq0_20.cell? ⟨w.heap.size + 1, 4, none⟩ = some (.int .i64 p.stop) ∧ wq0_20.cell? ⟨g, o + k * 6, none⟩ = some (.string s.name) ∧ wq0_20.cell? ⟨g, o + k * 6 + 1, none⟩ = some (.int .i64 s.length) ∧ wq0_20.cell? ⟨g, o + k * 6 + 2, none⟩ = some (.int .i64 s.draught) ∧ wq0_20.cell? ⟨g, o + k * 6 + 3, none⟩ = some (.int .i64 s.line) ∧ wq0_20.cell? ⟨g, o + k * 6 + 4, none⟩ = some (.int .i64 s.tugs) ∧ wq0_20.cell? ⟨g, o + k * 6 + 5, none⟩ = some (.bool s.slow) ∧ Hid (Below W0.heap.size W0 wq0_20) from ⟨cell_onV Fd0.out HBK, cell_onV Fd1.out HBK, cell_onV Fp0.out HBK, cell_onV Fp1.out HBK, cell_onV Fp2.out HBK, cell_onV Fp3.out HBK, cell_onV Fp4.out HBK, cell_onV FY0a.out HBK, cell_onV FY1a.out HBK, cell_onV FY2a.out HBK, cell_onV FY3a.out HBK, cell_onV FY4a.out HBK, cell_onV FY5a.out HBK, Lib.hid HBK⟩)
    clear hbk kB hHeld HBK
    go_simp
    refine hK.out _ _ ?_ (fun hHeld => ?_)
    · (try dsimp only); exact QS.out
    clear hK K
    try simp only [Act.put, List.setIfInBounds_toArray, List.set_cons_zero, List.set_cons_succ]
    refine wpAnyH_take (i := 21) (v := ?_) (by simp only [List.getElem?_toArray, List.getElem?_cons_succ, List.getElem?_cons_zero]; rfl) (by kernel_rfl) (by kernel_rfl) (by kernel_rfl) (by exact fun _ _ _ h => h) (Or.inl ⟨by rfl, ?_⟩) (by assumption) ?_; rotate_left; focus (intro w hSw; (try dsimp only at hSw); first | (go_simp; done) | (go_simp; with_reducible rfl))
    try simp only [Act.put, List.setIfInBounds_toArray, List.set_cons_zero, List.set_cons_succ]
    refine wpAnyH_take (i := 22) (v := ?_) (by simp only [List.getElem?_toArray, List.getElem?_cons_succ, List.getElem?_cons_zero]; rfl) (by kernel_rfl) (by kernel_rfl) (by kernel_rfl) (by exact fun _ _ _ h => h) (Or.inl ⟨by rfl, ?_⟩) (by assumption) ?_; rotate_left; focus (intro w hSw; (try dsimp only at hSw); first | (go_simp; done) | (go_simp; with_reducible rfl))
    try simp only [Act.put, List.setIfInBounds_toArray, List.set_cons_zero, List.set_cons_succ]
    refine wpAnyH_take (i := 23) (v := ?_) (by simp only [List.getElem?_toArray, List.getElem?_cons_succ, List.getElem?_cons_zero]; rfl) (by kernel_rfl) (by kernel_rfl) (by kernel_rfl) (by exact fun _ _ _ h => h) (Or.inl ⟨by rfl, ?_⟩) (by assumption) ?_; rotate_left; focus (intro w hSw; (try dsimp only at hSw); first | (go_simp; done) | (go_simp; with_reducible rfl))
    try simp only [Act.put, List.setIfInBounds_toArray, List.set_cons_zero, List.set_cons_succ]
    refine wpAnyH_take (i := 24) (v := undef) (by simp only [List.getElem?_toArray, List.getElem?_cons_succ, List.getElem?_cons_zero]; rfl) (by kernel_rfl) (by kernel_rfl) (by kernel_rfl) (by exact fun _ _ _ h => h) (Or.inr ⟨by rfl, rfl⟩) (by assumption) ?_
    try simp only [Act.put, List.setIfInBounds_toArray, List.set_cons_zero, List.set_cons_succ]
    refine wpAnyH_take (i := 25) (v := undef) (by simp only [List.getElem?_toArray, List.getElem?_cons_succ, List.getElem?_cons_zero]; rfl) (by kernel_rfl) (by kernel_rfl) (by kernel_rfl) (by exact fun _ _ _ h => h) (Or.inr ⟨by rfl, rfl⟩) (by assumption) ?_
    try simp only [Act.put, List.setIfInBounds_toArray, List.set_cons_zero, List.set_cons_succ]
    refine wpAnyH_take (i := 26) (v := undef) (by simp only [List.getElem?_toArray, List.getElem?_cons_succ, List.getElem?_cons_zero]; rfl) (by kernel_rfl) (by kernel_rfl) (by kernel_rfl) (by exact fun _ _ _ h => h) (Or.inr ⟨by rfl, rfl⟩) (by assumption) ?_
    try simp only [Act.put, List.setIfInBounds_toArray, List.set_cons_zero, List.set_cons_succ]
    refine wpAnyH_take (i := 27) (v := undef) (by simp only [List.getElem?_toArray, List.getElem?_cons_succ, List.getElem?_cons_zero]; rfl) (by kernel_rfl) (by kernel_rfl) (by kernel_rfl) (by exact fun _ _ _ h => h) (Or.inr ⟨by rfl, rfl⟩) (by assumption) ?_
    try simp only [Act.put, List.setIfInBounds_toArray, List.set_cons_zero, List.set_cons_succ]
    refine wpAnyH_take (i := 28) (v := ?_) (by simp only [List.getElem?_toArray, List.getElem?_cons_succ, List.getElem?_cons_zero]; rfl) (by kernel_rfl) (by kernel_rfl) (by kernel_rfl) (by exact fun _ _ _ h => h) (Or.inl ⟨by rfl, ?_⟩) (by assumption) ?_; rotate_left; focus (intro w hSw; (try dsimp only at hSw); first | (go_simp; done) | (go_simp; with_reducible rfl))
    try simp only [Act.put, List.setIfInBounds_toArray, List.set_cons_zero, List.set_cons_succ]
    refine wpAnyH_done (by kernel_rfl) ?_ _
    go_wp2
    go_ret
    exact ⟨ret_bool E.out.symm, B.out.trans (hHeld.2.2.2.2.2.2.2.2.2.2.2.2.2.out.mono B.out.size)⟩
  | true =>
  cases b5 with
  | false =>
    have E := Lib.hid (show passB d l p = false from passB_bad (HPR.out.trans (by simp)))
    go_enter Tryz.func40, Tryz.ntmps40
    have Fd0 := Lib.hid (show W0.cell? ⟨w.heap.size, 0, none⟩ = some (.slice Ad0 d.points.length cd0) from Kd.out.cell 0)
    have Fd1 := Lib.hid (show W0.cell? ⟨w.heap.size, 1, none⟩ = some (.slice Ad1 d.segs.length cd1) from Kd.out.cell 1)
    have Fp0 := Lib.hid (show W0.cell? ⟨w.heap.size + 1, 0, none⟩ = some (.int .i64 (k : Int)) from Kp.out.cell 0)
    have Fp1 := Lib.hid (show W0.cell? ⟨w.heap.size + 1, 1, none⟩ = some (.int .i64 p.segment) from Kp.out.cell 1)
    have Fp2 := Lib.hid (show W0.cell? ⟨w.heap.size + 1, 2, none⟩ = some (.bool p.toward) from Kp.out.cell 2)
    have Fp3 := Lib.hid (show W0.cell? ⟨w.heap.size + 1, 3, none⟩ = some (.int .i64 p.start) from Kp.out.cell 3)
    have Fp4 := Lib.hid (show W0.cell? ⟨w.heap.size + 1, 4, none⟩ = some (.int .i64 p.stop) from Kp.out.cell 4)
    have DD := Lib.hid ((Below.refl W0.heap.size W0).drew)
    have vFd0 := Fd0.out
    have vFd1 := Fd1.out
    have vFp0 := Fp0.out
    have vFp1 := Fp1.out
    have vFp2 := Fp2.out
    have vFp3 := Fp3.out
    have vFp4 := Fp4.out
    have vFY0a := FY0a.out
    have vFY1a := FY1a.out
    have vFY2a := FY2a.out
    have vFY3a := FY3a.out
    have vFY4a := FY4a.out
    have vFY5a := FY5a.out
    go_upto_region 1 with fail
    rw [← HW0.out]
    refine wp_region_held_drew (S := (fun w' => w'.cell? ⟨w.heap.size, 0, none⟩ = some (.slice Ad0 d.points.length cd0) ∧ w'.cell? ⟨w.heap.size, 1, none⟩ = some (.slice Ad1 d.segs.length cd1) ∧ w'.cell? ⟨w.heap.size + 1, 0, none⟩ = some (.int .i64 (k : Int)) ∧ w'.cell? ⟨w.heap.size + 1, 1, none⟩ = some (.int .i64 p.segment) ∧ w'.cell? ⟨w.heap.size + 1, 2, none⟩ = some (.bool p.toward) ∧ w'.cell? ⟨w.heap.size + 1, 3, none⟩ = some (.int .i64 p.start) ∧ w'.cell? ⟨w.heap.size + 1, 4, none⟩ = some (.int .i64 p.stop) ∧ w'.cell? ⟨g, o + k * 6, none⟩ = some (.string s.name) ∧ w'.cell? ⟨g, o + k * 6 + 1, none⟩ = some (.int .i64 s.length) ∧ w'.cell? ⟨g, o + k * 6 + 2, none⟩ = some (.int .i64 s.draught) ∧ w'.cell? ⟨g, o + k * 6 + 3, none⟩ = some (.int .i64 s.line) ∧ w'.cell? ⟨g, o + k * 6 + 4, none⟩ = some (.int .i64 s.tugs) ∧ w'.cell? ⟨g, o + k * 6 + 5, none⟩ = some (.bool s.slow) ∧ Hid (Below W0.heap.size W0 w'))) (by kernel_rfl) ?_ (fun hHeld => ?_)
    · (try dsimp only); go_keep
    refine wpAnyH_take (i := 0) (v := ?_) (by simp only [List.getElem?_toArray, List.getElem?_cons_zero]; rfl) (by kernel_rfl) (by kernel_rfl) (by kernel_rfl) (by exact fun _ _ _ h => h) (Or.inl ⟨by rfl, ?_⟩) (by assumption) ?_; rotate_left; focus (intro w hSw; (try dsimp only at hSw); first | (go_simp; done) | (go_simp; with_reducible rfl))
    try simp only [Act.put, List.setIfInBounds_toArray, List.set_cons_zero, List.set_cons_succ]
    refine wpAnyH_ready (rs := [1]) (by kernel_rfl) (by simp) ?_
    refine AllReadyH.cons rfl (fun K hK => ?_) AllReadyH.nil
    rw [if_pos (by rfl)]
    go_simp
    go_at_call 71
    have kB := hHeld.2.2.2.2.2.2.2.2.2.2.2.2.2
    refine (implFleetOk _ l _ (Rl.out.below (B.out.trans (kB.out.mono B.out.size))) Nl.out).mono ?_
    rw [Hb2.out]
    rintro e wq0_1 ⟨rfl, hbk⟩
    have HBK := kB.out.trans (hbk.mono kB.out.size)
    have QS := Lib.hid (show wq0_1.cell? ⟨w.heap.size, 0, none⟩ = some (.slice Ad0 d.points.length cd0) ∧ wq0_1.cell? ⟨w.heap.size, 1, none⟩ = some (.slice Ad1 d.segs.length cd1) ∧ wq0_1.cell? ⟨w.heap.size + 1, 0, none⟩ = some (.int .i64 (k : Int)) ∧ wq0_1.cell? ⟨w.heap.size + 1, 1, none⟩ = some (.int .i64 p.segment) ∧ wq0_1.cell? ⟨w.heap.size + 1, 2, none⟩ = some (.bool p.toward) ∧ wq0_1.cell? ⟨w.heap.size + 1, 3, none⟩ = some (.int .i64 p.start) ∧ wq0_1.cell? ⟨w.heap.size + 1, 4, none⟩ = some (.int .i64 p.stop) ∧ wq0_1.cell? ⟨g, o + k * 6, none⟩ = some (.string s.name) ∧ wq0_1.cell? ⟨g, o + k * 6 + 1, none⟩ = some (.int .i64 s.length) ∧ wq0_1.cell? ⟨g, o + k * 6 + 2, none⟩ = some (.int .i64 s.draught) ∧ wq0_1.cell? ⟨g, o + k * 6 + 3, none⟩ = some (.int .i64 s.line) ∧ wq0_1.cell? ⟨g, o + k * 6 + 4, none⟩ = some (.int .i64 s.tugs) ∧ wq0_1.cell? ⟨g, o + k * 6 + 5, none⟩ = some (.bool s.slow) ∧ Hid (Below W0.heap.size W0 wq0_1) from ⟨cell_onV Fd0.out HBK, cell_onV Fd1.out HBK, cell_onV Fp0.out HBK, cell_onV Fp1.out HBK, cell_onV Fp2.out HBK, cell_onV Fp3.out HBK, cell_onV Fp4.out HBK, cell_onV FY0a.out HBK, cell_onV FY1a.out HBK, cell_onV FY2a.out HBK, cell_onV FY3a.out HBK, cell_onV FY4a.out HBK, cell_onV FY5a.out HBK, Lib.hid HBK⟩)
    clear hbk kB hHeld HBK
    go_simp
    refine hK.out _ _ ?_ (fun hHeld => ?_)
    · (try dsimp only); exact QS.out
    clear hK K
    try simp only [Act.put, List.setIfInBounds_toArray, List.set_cons_zero, List.set_cons_succ]
    refine wpAnyH_take (i := 2) (v := ?_) (by simp only [List.getElem?_toArray, List.getElem?_cons_succ, List.getElem?_cons_zero]; rfl) (by kernel_rfl) (by kernel_rfl) (by kernel_rfl) (by exact fun _ _ _ h => h) (Or.inl ⟨by rfl, ?_⟩) (by assumption) ?_; rotate_left; focus (intro w hSw; (try dsimp only at hSw); first | (go_simp; done) | (go_simp; with_reducible rfl))
    try simp only [Act.put, List.setIfInBounds_toArray, List.set_cons_zero, List.set_cons_succ]
    refine wpAnyH_take (i := 3) (v := ?_) (by simp only [List.getElem?_toArray, List.getElem?_cons_succ, List.getElem?_cons_zero]; rfl) (by kernel_rfl) (by kernel_rfl) (by kernel_rfl) (by exact fun _ _ _ h => h) (Or.inl ⟨by rfl, ?_⟩) (by assumption) ?_; rotate_left; focus (intro w hSw; (try dsimp only at hSw); first | (go_simp; done) | (go_simp; with_reducible rfl))
    try simp only [Act.put, List.setIfInBounds_toArray, List.set_cons_zero, List.set_cons_succ]
    refine wpAnyH_take (i := 4) (v := ?_) (by simp only [List.getElem?_toArray, List.getElem?_cons_succ, List.getElem?_cons_zero]; rfl) (by kernel_rfl) (by kernel_rfl) (by kernel_rfl) (by exact fun _ _ _ h => h) (Or.inl ⟨by rfl, ?_⟩) (by assumption) ?_; rotate_left; focus (intro w hSw; (try dsimp only at hSw); first | (go_simp; done) | (go_simp; with_reducible rfl))
    try simp only [Act.put, List.setIfInBounds_toArray, List.set_cons_zero, List.set_cons_succ]
    refine wpAnyH_take (i := 5) (v := ?_) (by simp only [List.getElem?_toArray, List.getElem?_cons_succ, List.getElem?_cons_zero]; rfl) (by kernel_rfl) (by kernel_rfl) (by kernel_rfl) (by exact fun _ _ _ h => h) (Or.inl ⟨by rfl, ?_⟩) (by assumption) ?_; rotate_left; focus (intro w hSw; (try dsimp only at hSw); first | (go_simp; done) | (go_simp; with_reducible rfl))
    try simp only [Act.put, List.setIfInBounds_toArray, List.set_cons_zero, List.set_cons_succ]
    refine wpAnyH_take (i := 6) (v := ?_) (by simp only [List.getElem?_toArray, List.getElem?_cons_succ, List.getElem?_cons_zero]; rfl) (by kernel_rfl) (by kernel_rfl) (by kernel_rfl) (by exact fun _ _ _ h => h) (Or.inl ⟨by rfl, ?_⟩) (by assumption) ?_; rotate_left; focus (intro w hSw; (try dsimp only at hSw); first | (go_simp; done) | (go_simp; with_reducible rfl))
    try simp only [Act.put, List.setIfInBounds_toArray, List.set_cons_zero, List.set_cons_succ]
    refine wpAnyH_take (i := 7) (v := ?_) (by simp only [List.getElem?_toArray, List.getElem?_cons_succ, List.getElem?_cons_zero]; rfl) (by kernel_rfl) (by kernel_rfl) (by kernel_rfl) (by exact fun _ _ _ h => h) (Or.inl ⟨by rfl, ?_⟩) (by assumption) ?_; rotate_left; focus (intro w hSw; (try dsimp only at hSw); first | (go_simp; done) | (go_simp; with_reducible rfl))
    try simp only [Act.put, List.setIfInBounds_toArray, List.set_cons_zero, List.set_cons_succ]
    refine wpAnyH_ready (rs := [8]) (by kernel_rfl) (by simp) ?_
    refine AllReadyH.cons rfl (fun K hK => ?_) AllReadyH.nil
    rw [if_pos (by rfl)]
    go_simp
    go_at_call 72
    have kB := hHeld.2.2.2.2.2.2.2.2.2.2.2.2.2
    refine ((isIndex_any _ _ _)).mono ?_
    first | rw [Hb3.out] | rw [← HK.out, Hb3.out]
    rintro e wq0_8 ⟨rfl, hbk1⟩
    have hbk := below_same hbk1
    have HBK := kB.out.trans (hbk.mono kB.out.size)
    have QS := Lib.hid (show wq0_8.cell? ⟨w.heap.size, 0, none⟩ = some (.slice Ad0 d.points.length cd0) ∧ wq0_8.cell? ⟨w.heap.size, 1, none⟩ = some (.slice Ad1 d.segs.length cd1) ∧ wq0_8.cell? ⟨w.heap.size + 1, 0, none⟩ = some (.int .i64 (k : Int)) ∧ wq0_8.cell? ⟨w.heap.size + 1, 1, none⟩ = some (.int .i64 p.segment) ∧ wq0_8.cell? ⟨w.heap.size + 1, 2, none⟩ = some (.bool p.toward) ∧ wq0_8.cell? ⟨w.heap.size + 1, 3, none⟩ = some (.int .i64 p.start) ∧ wq0_8.cell? ⟨w.heap.size + 1, 4, none⟩ = some (.int .i64 p.stop) ∧ wq0_8.cell? ⟨g, o + k * 6, none⟩ = some (.string s.name) ∧ wq0_8.cell? ⟨g, o + k * 6 + 1, none⟩ = some (.int .i64 s.length) ∧ wq0_8.cell? ⟨g, o + k * 6 + 2, none⟩ = some (.int .i64 s.draught) ∧ wq0_8.cell? ⟨g, o + k * 6 + 3, none⟩ = some (.int .i64 s.line) ∧ wq0_8.cell? ⟨g, o + k * 6 + 4, none⟩ = some (.int .i64 s.tugs) ∧ wq0_8.cell? ⟨g, o + k * 6 + 5, none⟩ = some (.bool s.slow) ∧ Hid (Below W0.heap.size W0 wq0_8) from ⟨cell_onV Fd0.out HBK, cell_onV Fd1.out HBK, cell_onV Fp0.out HBK, cell_onV Fp1.out HBK, cell_onV Fp2.out HBK, cell_onV Fp3.out HBK, cell_onV Fp4.out HBK, cell_onV FY0a.out HBK, cell_onV FY1a.out HBK, cell_onV FY2a.out HBK, cell_onV FY3a.out HBK, cell_onV FY4a.out HBK, cell_onV FY5a.out HBK, Lib.hid HBK⟩)
    clear hbk kB hHeld HBK
    go_simp
    refine hK.out _ _ ?_ (fun hHeld => ?_)
    · (try dsimp only); exact QS.out
    clear hK K
    try simp only [Act.put, List.setIfInBounds_toArray, List.set_cons_zero, List.set_cons_succ]
    refine wpAnyH_take (i := 9) (v := ?_) (by simp only [List.getElem?_toArray, List.getElem?_cons_succ, List.getElem?_cons_zero]; rfl) (by kernel_rfl) (by kernel_rfl) (by kernel_rfl) (by exact fun _ _ _ h => h) (Or.inl ⟨by rfl, ?_⟩) (by assumption) ?_; rotate_left; focus (intro w hSw; (try dsimp only at hSw); first | (go_simp; done) | (go_simp; with_reducible rfl))
    try simp only [Act.put, List.setIfInBounds_toArray, List.set_cons_zero, List.set_cons_succ]
    refine wpAnyH_take (i := 10) (v := ?_) (by simp only [List.getElem?_toArray, List.getElem?_cons_succ, List.getElem?_cons_zero]; rfl) (by kernel_rfl) (by kernel_rfl) (by kernel_rfl) (by exact fun _ _ _ h => h) (Or.inl ⟨by rfl, ?_⟩) (by assumption) ?_; rotate_left; focus (intro w hSw; (try dsimp only at hSw); first | (go_simp; done) | (go_simp; with_reducible rfl))
    try simp only [Act.put, List.setIfInBounds_toArray, List.set_cons_zero, List.set_cons_succ]
    refine wpAnyH_take (i := 11) (v := ?_) (by simp only [List.getElem?_toArray, List.getElem?_cons_succ, List.getElem?_cons_zero]; rfl) (by kernel_rfl) (by kernel_rfl) (by kernel_rfl) (by exact fun _ _ _ h => h) (Or.inl ⟨by rfl, ?_⟩) (by assumption) ?_; rotate_left; focus (intro w hSw; (try dsimp only at hSw); first | (go_simp; done) | (go_simp; with_reducible rfl))
    try simp only [Act.put, List.setIfInBounds_toArray, List.set_cons_zero, List.set_cons_succ]
    refine wpAnyH_take (i := 12) (v := ?_) (by simp only [List.getElem?_toArray, List.getElem?_cons_succ, List.getElem?_cons_zero]; rfl) (by kernel_rfl) (by kernel_rfl) (by kernel_rfl) (by exact fun _ _ _ h => h) (Or.inl ⟨by rfl, ?_⟩) (by assumption) ?_; rotate_left; focus (intro w hSw; (try dsimp only at hSw); first | (go_simp; done) | (go_simp; with_reducible rfl))
    try simp only [Act.put, List.setIfInBounds_toArray, List.set_cons_zero, List.set_cons_succ]
    refine wpAnyH_take (i := 13) (v := ?_) (by simp only [List.getElem?_toArray, List.getElem?_cons_succ, List.getElem?_cons_zero]; rfl) (by kernel_rfl) (by kernel_rfl) (by kernel_rfl) (by exact fun _ _ _ h => h) (Or.inl ⟨by rfl, ?_⟩) (by assumption) ?_; rotate_left; focus (intro w hSw; (try dsimp only at hSw); first | (go_simp; done) | (go_simp; with_reducible rfl))
    try simp only [Act.put, List.setIfInBounds_toArray, List.set_cons_zero, List.set_cons_succ]
    refine wpAnyH_take (i := 14) (v := ?_) (by simp only [List.getElem?_toArray, List.getElem?_cons_succ, List.getElem?_cons_zero]; rfl) (by kernel_rfl) (by kernel_rfl) (by kernel_rfl) (by exact fun _ _ _ h => h) (Or.inl ⟨by rfl, ?_⟩) (by assumption) ?_; rotate_left; focus (intro w hSw; (try dsimp only at hSw); first | (go_simp; done) | (go_simp; with_reducible rfl))
    try simp only [Act.put, List.setIfInBounds_toArray, List.set_cons_zero, List.set_cons_succ]
    refine wpAnyH_take (i := 15) (v := ?_) (by simp only [List.getElem?_toArray, List.getElem?_cons_succ, List.getElem?_cons_zero]; rfl) (by kernel_rfl) (by kernel_rfl) (by kernel_rfl) (by exact fun _ _ _ h => h) (Or.inl ⟨by rfl, ?_⟩) (by assumption) ?_; rotate_left; focus (intro w hSw; (try dsimp only at hSw); first | (go_simp; done) | (go_simp; with_reducible rfl))
    try simp only [Act.put, List.setIfInBounds_toArray, List.set_cons_zero, List.set_cons_succ]
    refine wpAnyH_take (i := 16) (v := ?_) (by simp only [List.getElem?_toArray, List.getElem?_cons_succ, List.getElem?_cons_zero]; rfl) (by kernel_rfl) (by kernel_rfl) (by kernel_rfl) (by exact fun _ _ _ h => h) (Or.inl ⟨by rfl, ?_⟩) (by assumption) ?_; rotate_left; focus (intro w hSw; (try dsimp only at hSw); first | (go_simp; done) | (go_simp; with_reducible rfl))
    try simp only [Act.put, List.setIfInBounds_toArray, List.set_cons_zero, List.set_cons_succ]
    refine wpAnyH_take (i := 17) (v := ?_) (by simp only [List.getElem?_toArray, List.getElem?_cons_succ, List.getElem?_cons_zero]; rfl) (by kernel_rfl) (by kernel_rfl) (by kernel_rfl) (by exact fun _ _ _ h => h) (Or.inl ⟨by rfl, ?_⟩) (by assumption) ?_; rotate_left; focus (intro w hSw; (try dsimp only at hSw); first | (go_simp; done) | (go_simp; with_reducible rfl))
    try simp only [Act.put, List.setIfInBounds_toArray, List.set_cons_zero, List.set_cons_succ]
    refine wpAnyH_take (i := 18) (v := ?_) (by simp only [List.getElem?_toArray, List.getElem?_cons_succ, List.getElem?_cons_zero]; rfl) (by kernel_rfl) (by kernel_rfl) (by kernel_rfl) (by exact fun _ _ _ h => h) (Or.inl ⟨by rfl, ?_⟩) (by assumption) ?_; rotate_left; focus (intro w hSw; (try dsimp only at hSw); first | (go_simp; done) | (go_simp; with_reducible rfl))
    try simp only [Act.put, List.setIfInBounds_toArray, List.set_cons_zero, List.set_cons_succ]
    refine wpAnyH_take (i := 19) (v := ?_) (by simp only [List.getElem?_toArray, List.getElem?_cons_succ, List.getElem?_cons_zero]; rfl) (by kernel_rfl) (by kernel_rfl) (by kernel_rfl) (by exact fun _ _ _ h => h) (Or.inl ⟨by rfl, ?_⟩) (by assumption) ?_; rotate_left; focus (intro w hSw; (try dsimp only at hSw); first | (go_simp; done) | (go_simp; with_reducible rfl))
    try simp only [Act.put, List.setIfInBounds_toArray, List.set_cons_zero, List.set_cons_succ]
    refine wpAnyH_ready (rs := [20]) (by kernel_rfl) (by simp) ?_
    refine AllReadyH.cons rfl (fun K hK => ?_) AllReadyH.nil
    rw [if_pos (by rfl)]
    go_simp
    go_at_call 73
    have kB := hHeld.2.2.2.2.2.2.2.2.2.2.2.2.2
    refine (implSail _ _ d p.segment s _ (Rd.out.below (B.out.trans (kB.out.mono B.out.size))) Nd.out (Nl.out s HX.out)).mono ?_
    rw [Hb4.out]
    rintro e wq0_20 ⟨rfl, hbk⟩
    have HBK := kB.out.trans (hbk.mono kB.out.size)
    have QS := Lib.hid (show wq0_20.cell? ⟨w.heap.size, 0, none⟩ = some (.slice Ad0 d.points.length cd0) ∧ wq0_20.cell? ⟨w.heap.size, 1, none⟩ = some (.slice Ad1 d.segs.length cd1) ∧ wq0_20.cell? ⟨w.heap.size + 1, 0, none⟩ = some (.int .i64 (k : Int)) ∧ wq0_20.cell? ⟨w.heap.size + 1, 1, none⟩ = some (.int .i64 p.segment) ∧ wq0_20.cell? ⟨w.heap.size + 1, 2, none⟩ = some (.bool p.toward) ∧ wq0_20.cell? ⟨w.heap.size + 1, 3, none⟩ = some (.int .i64 p.start) ∧ wq0_20.cell? ⟨w.heap.size + 1, 4, none⟩ = some (.int .i64 p.stop) ∧ wq0_20.cell? ⟨g, o + k * 6, none⟩ = some (.string s.name) ∧ wq0_20.cell? ⟨g, o + k * 6 + 1, none⟩ = some (.int .i64 s.length) ∧ wq0_20.cell? ⟨g, o + k * 6 + 2, none⟩ = some (.int .i64 s.draught) ∧ wq0_20.cell? ⟨g, o + k * 6 + 3, none⟩ = some (.int .i64 s.line) ∧ wq0_20.cell? ⟨g, o + k * 6 + 4, none⟩ = some (.int .i64 s.tugs) ∧ wq0_20.cell? ⟨g, o + k * 6 + 5, none⟩ = some (.bool s.slow) ∧ Hid (Below W0.heap.size W0 wq0_20) from ⟨cell_onV Fd0.out HBK, cell_onV Fd1.out HBK, cell_onV Fp0.out HBK, cell_onV Fp1.out HBK, cell_onV Fp2.out HBK, cell_onV Fp3.out HBK, cell_onV Fp4.out HBK, cell_onV FY0a.out HBK, cell_onV FY1a.out HBK, cell_onV FY2a.out HBK, cell_onV FY3a.out HBK, cell_onV FY4a.out HBK, cell_onV FY5a.out HBK, Lib.hid HBK⟩)
    clear hbk kB hHeld HBK
    go_simp
    refine hK.out _ _ ?_ (fun hHeld => ?_)
    · (try dsimp only); exact QS.out
    clear hK K
    try simp only [Act.put, List.setIfInBounds_toArray, List.set_cons_zero, List.set_cons_succ]
    refine wpAnyH_take (i := 21) (v := ?_) (by simp only [List.getElem?_toArray, List.getElem?_cons_succ, List.getElem?_cons_zero]; rfl) (by kernel_rfl) (by kernel_rfl) (by kernel_rfl) (by exact fun _ _ _ h => h) (Or.inl ⟨by rfl, ?_⟩) (by assumption) ?_; rotate_left; focus (intro w hSw; (try dsimp only at hSw); first | (go_simp; done) | (go_simp; with_reducible rfl))
    try simp only [Act.put, List.setIfInBounds_toArray, List.set_cons_zero, List.set_cons_succ]
    refine wpAnyH_take (i := 22) (v := ?_) (by simp only [List.getElem?_toArray, List.getElem?_cons_succ, List.getElem?_cons_zero]; rfl) (by kernel_rfl) (by kernel_rfl) (by kernel_rfl) (by exact fun _ _ _ h => h) (Or.inl ⟨by rfl, ?_⟩) (by assumption) ?_; rotate_left; focus (intro w hSw; (try dsimp only at hSw); first | (go_simp; done) | (go_simp; with_reducible rfl))
    try simp only [Act.put, List.setIfInBounds_toArray, List.set_cons_zero, List.set_cons_succ]
    refine wpAnyH_take (i := 23) (v := ?_) (by simp only [List.getElem?_toArray, List.getElem?_cons_succ, List.getElem?_cons_zero]; rfl) (by kernel_rfl) (by kernel_rfl) (by kernel_rfl) (by exact fun _ _ _ h => h) (Or.inl ⟨by rfl, ?_⟩) (by assumption) ?_; rotate_left; focus (intro w hSw; (try dsimp only at hSw); first | (go_simp; done) | (go_simp; with_reducible rfl))
    try simp only [Act.put, List.setIfInBounds_toArray, List.set_cons_zero, List.set_cons_succ]
    refine wpAnyH_take (i := 24) (v := ?_) (by simp only [List.getElem?_toArray, List.getElem?_cons_succ, List.getElem?_cons_zero]; rfl) (by kernel_rfl) (by kernel_rfl) (by kernel_rfl) (by exact fun _ _ _ h => h) (Or.inl ⟨by rfl, ?_⟩) (by assumption) ?_; rotate_left; focus (intro w hSw; (try dsimp only at hSw); first | (go_simp; done) | (go_simp; with_reducible rfl))
    try simp only [Act.put, List.setIfInBounds_toArray, List.set_cons_zero, List.set_cons_succ]
    refine wpAnyH_take (i := 25) (v := ?_) (by simp only [List.getElem?_toArray, List.getElem?_cons_succ, List.getElem?_cons_zero]; rfl) (by kernel_rfl) (by kernel_rfl) (by kernel_rfl) (by exact fun _ _ _ h => h) (Or.inl ⟨by rfl, ?_⟩) (by assumption) ?_; rotate_left; focus (intro w hSw; (try dsimp only at hSw); first | (go_simp; done) | (go_simp; with_reducible rfl))
    try simp only [Act.put, List.setIfInBounds_toArray, List.set_cons_zero, List.set_cons_succ]
    refine wpAnyH_ready (rs := [26]) (by kernel_rfl) (by simp) ?_
    refine AllReadyH.cons rfl (fun K hK => ?_) AllReadyH.nil
    rw [if_pos (by rfl)]
    go_simp
    go_at_call 74
    have kB := hHeld.2.2.2.2.2.2.2.2.2.2.2.2.2
    refine ((isMinute_any _ _)).mono ?_
    rw [Hb5.out]
    rintro e wq0_26 ⟨rfl, hbk1⟩
    have hbk := below_same hbk1
    have HBK := kB.out.trans (hbk.mono kB.out.size)
    have QS := Lib.hid (show wq0_26.cell? ⟨w.heap.size, 0, none⟩ = some (.slice Ad0 d.points.length cd0) ∧ wq0_26.cell? ⟨w.heap.size, 1, none⟩ = some (.slice Ad1 d.segs.length cd1) ∧ wq0_26.cell? ⟨w.heap.size + 1, 0, none⟩ = some (.int .i64 (k : Int)) ∧ wq0_26.cell? ⟨w.heap.size + 1, 1, none⟩ = some (.int .i64 p.segment) ∧ wq0_26.cell? ⟨w.heap.size + 1, 2, none⟩ = some (.bool p.toward) ∧ wq0_26.cell? ⟨w.heap.size + 1, 3, none⟩ = some (.int .i64 p.start) ∧ wq0_26.cell? ⟨w.heap.size + 1, 4, none⟩ = some (.int .i64 p.stop) ∧ wq0_26.cell? ⟨g, o + k * 6, none⟩ = some (.string s.name) ∧ wq0_26.cell? ⟨g, o + k * 6 + 1, none⟩ = some (.int .i64 s.length) ∧ wq0_26.cell? ⟨g, o + k * 6 + 2, none⟩ = some (.int .i64 s.draught) ∧ wq0_26.cell? ⟨g, o + k * 6 + 3, none⟩ = some (.int .i64 s.line) ∧ wq0_26.cell? ⟨g, o + k * 6 + 4, none⟩ = some (.int .i64 s.tugs) ∧ wq0_26.cell? ⟨g, o + k * 6 + 5, none⟩ = some (.bool s.slow) ∧ Hid (Below W0.heap.size W0 wq0_26) from ⟨cell_onV Fd0.out HBK, cell_onV Fd1.out HBK, cell_onV Fp0.out HBK, cell_onV Fp1.out HBK, cell_onV Fp2.out HBK, cell_onV Fp3.out HBK, cell_onV Fp4.out HBK, cell_onV FY0a.out HBK, cell_onV FY1a.out HBK, cell_onV FY2a.out HBK, cell_onV FY3a.out HBK, cell_onV FY4a.out HBK, cell_onV FY5a.out HBK, Lib.hid HBK⟩)
    clear hbk kB hHeld HBK
    go_simp
    refine hK.out _ _ ?_ (fun hHeld => ?_)
    · (try dsimp only); exact QS.out
    clear hK K
    try simp only [Act.put, List.setIfInBounds_toArray, List.set_cons_zero, List.set_cons_succ]
    refine wpAnyH_take (i := 27) (v := ?_) (by simp only [List.getElem?_toArray, List.getElem?_cons_succ, List.getElem?_cons_zero]; rfl) (by kernel_rfl) (by kernel_rfl) (by kernel_rfl) (by exact fun _ _ _ h => h) (Or.inl ⟨by rfl, ?_⟩) (by assumption) ?_; rotate_left; focus (intro w hSw; (try dsimp only at hSw); first | (go_simp; done) | (go_simp; with_reducible rfl))
    try simp only [Act.put, List.setIfInBounds_toArray, List.set_cons_zero, List.set_cons_succ]
    refine wpAnyH_take (i := 28) (v := ?_) (by simp only [List.getElem?_toArray, List.getElem?_cons_succ, List.getElem?_cons_zero]; rfl) (by kernel_rfl) (by kernel_rfl) (by kernel_rfl) (by exact fun _ _ _ h => h) (Or.inl ⟨by rfl, ?_⟩) (by assumption) ?_; rotate_left; focus (intro w hSw; (try dsimp only at hSw); first | (go_simp; done) | (go_simp; with_reducible rfl))
    try simp only [Act.put, List.setIfInBounds_toArray, List.set_cons_zero, List.set_cons_succ]
    refine wpAnyH_done (by kernel_rfl) ?_ _
    go_wp2
    go_ret
    exact ⟨ret_bool E.out.symm, B.out.trans (hHeld.2.2.2.2.2.2.2.2.2.2.2.2.2.out.mono B.out.size)⟩
  | true =>
  have E0 := Lib.hid (passB_ok (HPR.out.trans (by simp)) HSA.out)
  obtain ⟨m0, m1⟩ := minOn_bnd Hb4.out
  obtain ⟨mn, hmn⟩ : ∃ mn, minOn d p.segment s = mn := ⟨_, rfl⟩
  have HMN := Lib.hid hmn
  rw [hmn] at m0 m1 E0
  clear hmn
  obtain ⟨t0, t1⟩ : 0 ≤ p.start ∧ p.start ≤ 2880 := of_decide_eq_true (show decide (0 ≤ p.start ∧ p.start ≤ 2880) = true from Hb5.out)
  have wst : IntKind.i64.wrap (p.start + mn) = p.start + mn := by rw [IntKind.wrap_i64]; omega
  go_enter Tryz.func40, Tryz.ntmps40
  have Fd0 := Lib.hid (show W0.cell? ⟨w.heap.size, 0, none⟩ = some (.slice Ad0 d.points.length cd0) from Kd.out.cell 0)
  have Fd1 := Lib.hid (show W0.cell? ⟨w.heap.size, 1, none⟩ = some (.slice Ad1 d.segs.length cd1) from Kd.out.cell 1)
  have Fp0 := Lib.hid (show W0.cell? ⟨w.heap.size + 1, 0, none⟩ = some (.int .i64 (k : Int)) from Kp.out.cell 0)
  have Fp1 := Lib.hid (show W0.cell? ⟨w.heap.size + 1, 1, none⟩ = some (.int .i64 p.segment) from Kp.out.cell 1)
  have Fp2 := Lib.hid (show W0.cell? ⟨w.heap.size + 1, 2, none⟩ = some (.bool p.toward) from Kp.out.cell 2)
  have Fp3 := Lib.hid (show W0.cell? ⟨w.heap.size + 1, 3, none⟩ = some (.int .i64 p.start) from Kp.out.cell 3)
  have Fp4 := Lib.hid (show W0.cell? ⟨w.heap.size + 1, 4, none⟩ = some (.int .i64 p.stop) from Kp.out.cell 4)
  have DD := Lib.hid ((Below.refl W0.heap.size W0).drew)
  have vFd0 := Fd0.out
  have vFd1 := Fd1.out
  have vFp0 := Fp0.out
  have vFp1 := Fp1.out
  have vFp2 := Fp2.out
  have vFp3 := Fp3.out
  have vFp4 := Fp4.out
  have vFY0a := FY0a.out
  have vFY1a := FY1a.out
  have vFY2a := FY2a.out
  have vFY3a := FY3a.out
  have vFY4a := FY4a.out
  have vFY5a := FY5a.out
  go_upto_region 1 with fail
  rw [← HW0.out]
  refine wp_region_held_drew (S := (fun w' => w'.cell? ⟨w.heap.size, 0, none⟩ = some (.slice Ad0 d.points.length cd0) ∧ w'.cell? ⟨w.heap.size, 1, none⟩ = some (.slice Ad1 d.segs.length cd1) ∧ w'.cell? ⟨w.heap.size + 1, 0, none⟩ = some (.int .i64 (k : Int)) ∧ w'.cell? ⟨w.heap.size + 1, 1, none⟩ = some (.int .i64 p.segment) ∧ w'.cell? ⟨w.heap.size + 1, 2, none⟩ = some (.bool p.toward) ∧ w'.cell? ⟨w.heap.size + 1, 3, none⟩ = some (.int .i64 p.start) ∧ w'.cell? ⟨w.heap.size + 1, 4, none⟩ = some (.int .i64 p.stop) ∧ w'.cell? ⟨g, o + k * 6, none⟩ = some (.string s.name) ∧ w'.cell? ⟨g, o + k * 6 + 1, none⟩ = some (.int .i64 s.length) ∧ w'.cell? ⟨g, o + k * 6 + 2, none⟩ = some (.int .i64 s.draught) ∧ w'.cell? ⟨g, o + k * 6 + 3, none⟩ = some (.int .i64 s.line) ∧ w'.cell? ⟨g, o + k * 6 + 4, none⟩ = some (.int .i64 s.tugs) ∧ w'.cell? ⟨g, o + k * 6 + 5, none⟩ = some (.bool s.slow) ∧ Hid (Below W0.heap.size W0 w'))) (by kernel_rfl) ?_ (fun hHeld => ?_)
  · (try dsimp only); go_keep
  refine wpAnyH_take (i := 0) (v := ?_) (by simp only [List.getElem?_toArray, List.getElem?_cons_zero]; rfl) (by kernel_rfl) (by kernel_rfl) (by kernel_rfl) (by exact fun _ _ _ h => h) (Or.inl ⟨by rfl, ?_⟩) (by assumption) ?_; rotate_left; focus (intro w hSw; (try dsimp only at hSw); first | (go_simp; done) | (go_simp; with_reducible rfl))
  try simp only [Act.put, List.setIfInBounds_toArray, List.set_cons_zero, List.set_cons_succ]
  refine wpAnyH_ready (rs := [1]) (by kernel_rfl) (by simp) ?_
  refine AllReadyH.cons rfl (fun K hK => ?_) AllReadyH.nil
  rw [if_pos (by rfl)]
  go_simp
  go_at_call 71
  have kB := hHeld.2.2.2.2.2.2.2.2.2.2.2.2.2
  refine (implFleetOk _ l _ (Rl.out.below (B.out.trans (kB.out.mono B.out.size))) Nl.out).mono ?_
  rw [Hb2.out]
  rintro e wq0_1 ⟨rfl, hbk⟩
  have HBK := kB.out.trans (hbk.mono kB.out.size)
  have QS := Lib.hid (show wq0_1.cell? ⟨w.heap.size, 0, none⟩ = some (.slice Ad0 d.points.length cd0) ∧ wq0_1.cell? ⟨w.heap.size, 1, none⟩ = some (.slice Ad1 d.segs.length cd1) ∧ wq0_1.cell? ⟨w.heap.size + 1, 0, none⟩ = some (.int .i64 (k : Int)) ∧ wq0_1.cell? ⟨w.heap.size + 1, 1, none⟩ = some (.int .i64 p.segment) ∧ wq0_1.cell? ⟨w.heap.size + 1, 2, none⟩ = some (.bool p.toward) ∧ wq0_1.cell? ⟨w.heap.size + 1, 3, none⟩ = some (.int .i64 p.start) ∧ wq0_1.cell? ⟨w.heap.size + 1, 4, none⟩ = some (.int .i64 p.stop) ∧ wq0_1.cell? ⟨g, o + k * 6, none⟩ = some (.string s.name) ∧ wq0_1.cell? ⟨g, o + k * 6 + 1, none⟩ = some (.int .i64 s.length) ∧ wq0_1.cell? ⟨g, o + k * 6 + 2, none⟩ = some (.int .i64 s.draught) ∧ wq0_1.cell? ⟨g, o + k * 6 + 3, none⟩ = some (.int .i64 s.line) ∧ wq0_1.cell? ⟨g, o + k * 6 + 4, none⟩ = some (.int .i64 s.tugs) ∧ wq0_1.cell? ⟨g, o + k * 6 + 5, none⟩ = some (.bool s.slow) ∧ Hid (Below W0.heap.size W0 wq0_1) from ⟨cell_onV Fd0.out HBK, cell_onV Fd1.out HBK, cell_onV Fp0.out HBK, cell_onV Fp1.out HBK, cell_onV Fp2.out HBK, cell_onV Fp3.out HBK, cell_onV Fp4.out HBK, cell_onV FY0a.out HBK, cell_onV FY1a.out HBK, cell_onV FY2a.out HBK, cell_onV FY3a.out HBK, cell_onV FY4a.out HBK, cell_onV FY5a.out HBK, Lib.hid HBK⟩)
  clear hbk kB hHeld HBK
  go_simp
  refine hK.out _ _ ?_ (fun hHeld => ?_)
  · (try dsimp only); exact QS.out
  clear hK K
  try simp only [Act.put, List.setIfInBounds_toArray, List.set_cons_zero, List.set_cons_succ]
  refine wpAnyH_take (i := 2) (v := ?_) (by simp only [List.getElem?_toArray, List.getElem?_cons_succ, List.getElem?_cons_zero]; rfl) (by kernel_rfl) (by kernel_rfl) (by kernel_rfl) (by exact fun _ _ _ h => h) (Or.inl ⟨by rfl, ?_⟩) (by assumption) ?_; rotate_left; focus (intro w hSw; (try dsimp only at hSw); first | (go_simp; done) | (go_simp; with_reducible rfl))
  try simp only [Act.put, List.setIfInBounds_toArray, List.set_cons_zero, List.set_cons_succ]
  refine wpAnyH_take (i := 3) (v := ?_) (by simp only [List.getElem?_toArray, List.getElem?_cons_succ, List.getElem?_cons_zero]; rfl) (by kernel_rfl) (by kernel_rfl) (by kernel_rfl) (by exact fun _ _ _ h => h) (Or.inl ⟨by rfl, ?_⟩) (by assumption) ?_; rotate_left; focus (intro w hSw; (try dsimp only at hSw); first | (go_simp; done) | (go_simp; with_reducible rfl))
  try simp only [Act.put, List.setIfInBounds_toArray, List.set_cons_zero, List.set_cons_succ]
  refine wpAnyH_take (i := 4) (v := ?_) (by simp only [List.getElem?_toArray, List.getElem?_cons_succ, List.getElem?_cons_zero]; rfl) (by kernel_rfl) (by kernel_rfl) (by kernel_rfl) (by exact fun _ _ _ h => h) (Or.inl ⟨by rfl, ?_⟩) (by assumption) ?_; rotate_left; focus (intro w hSw; (try dsimp only at hSw); first | (go_simp; done) | (go_simp; with_reducible rfl))
  try simp only [Act.put, List.setIfInBounds_toArray, List.set_cons_zero, List.set_cons_succ]
  refine wpAnyH_take (i := 5) (v := ?_) (by simp only [List.getElem?_toArray, List.getElem?_cons_succ, List.getElem?_cons_zero]; rfl) (by kernel_rfl) (by kernel_rfl) (by kernel_rfl) (by exact fun _ _ _ h => h) (Or.inl ⟨by rfl, ?_⟩) (by assumption) ?_; rotate_left; focus (intro w hSw; (try dsimp only at hSw); first | (go_simp; done) | (go_simp; with_reducible rfl))
  try simp only [Act.put, List.setIfInBounds_toArray, List.set_cons_zero, List.set_cons_succ]
  refine wpAnyH_take (i := 6) (v := ?_) (by simp only [List.getElem?_toArray, List.getElem?_cons_succ, List.getElem?_cons_zero]; rfl) (by kernel_rfl) (by kernel_rfl) (by kernel_rfl) (by exact fun _ _ _ h => h) (Or.inl ⟨by rfl, ?_⟩) (by assumption) ?_; rotate_left; focus (intro w hSw; (try dsimp only at hSw); first | (go_simp; done) | (go_simp; with_reducible rfl))
  try simp only [Act.put, List.setIfInBounds_toArray, List.set_cons_zero, List.set_cons_succ]
  refine wpAnyH_take (i := 7) (v := ?_) (by simp only [List.getElem?_toArray, List.getElem?_cons_succ, List.getElem?_cons_zero]; rfl) (by kernel_rfl) (by kernel_rfl) (by kernel_rfl) (by exact fun _ _ _ h => h) (Or.inl ⟨by rfl, ?_⟩) (by assumption) ?_; rotate_left; focus (intro w hSw; (try dsimp only at hSw); first | (go_simp; done) | (go_simp; with_reducible rfl))
  try simp only [Act.put, List.setIfInBounds_toArray, List.set_cons_zero, List.set_cons_succ]
  refine wpAnyH_ready (rs := [8]) (by kernel_rfl) (by simp) ?_
  refine AllReadyH.cons rfl (fun K hK => ?_) AllReadyH.nil
  rw [if_pos (by rfl)]
  go_simp
  go_at_call 72
  have kB := hHeld.2.2.2.2.2.2.2.2.2.2.2.2.2
  refine ((isIndex_any _ _ _)).mono ?_
  first | rw [Hb3.out] | rw [← HK.out, Hb3.out]
  rintro e wq0_8 ⟨rfl, hbk1⟩
  have hbk := below_same hbk1
  have HBK := kB.out.trans (hbk.mono kB.out.size)
  have QS := Lib.hid (show wq0_8.cell? ⟨w.heap.size, 0, none⟩ = some (.slice Ad0 d.points.length cd0) ∧ wq0_8.cell? ⟨w.heap.size, 1, none⟩ = some (.slice Ad1 d.segs.length cd1) ∧ wq0_8.cell? ⟨w.heap.size + 1, 0, none⟩ = some (.int .i64 (k : Int)) ∧ wq0_8.cell? ⟨w.heap.size + 1, 1, none⟩ = some (.int .i64 p.segment) ∧ wq0_8.cell? ⟨w.heap.size + 1, 2, none⟩ = some (.bool p.toward) ∧ wq0_8.cell? ⟨w.heap.size + 1, 3, none⟩ = some (.int .i64 p.start) ∧ wq0_8.cell? ⟨w.heap.size + 1, 4, none⟩ = some (.int .i64 p.stop) ∧ wq0_8.cell? ⟨g, o + k * 6, none⟩ = some (.string s.name) ∧ wq0_8.cell? ⟨g, o + k * 6 + 1, none⟩ = some (.int .i64 s.length) ∧ wq0_8.cell? ⟨g, o + k * 6 + 2, none⟩ = some (.int .i64 s.draught) ∧ wq0_8.cell? ⟨g, o + k * 6 + 3, none⟩ = some (.int .i64 s.line) ∧ wq0_8.cell? ⟨g, o + k * 6 + 4, none⟩ = some (.int .i64 s.tugs) ∧ wq0_8.cell? ⟨g, o + k * 6 + 5, none⟩ = some (.bool s.slow) ∧ Hid (Below W0.heap.size W0 wq0_8) from ⟨cell_onV Fd0.out HBK, cell_onV Fd1.out HBK, cell_onV Fp0.out HBK, cell_onV Fp1.out HBK, cell_onV Fp2.out HBK, cell_onV Fp3.out HBK, cell_onV Fp4.out HBK, cell_onV FY0a.out HBK, cell_onV FY1a.out HBK, cell_onV FY2a.out HBK, cell_onV FY3a.out HBK, cell_onV FY4a.out HBK, cell_onV FY5a.out HBK, Lib.hid HBK⟩)
  clear hbk kB hHeld HBK
  go_simp
  refine hK.out _ _ ?_ (fun hHeld => ?_)
  · (try dsimp only); exact QS.out
  clear hK K
  try simp only [Act.put, List.setIfInBounds_toArray, List.set_cons_zero, List.set_cons_succ]
  refine wpAnyH_take (i := 9) (v := ?_) (by simp only [List.getElem?_toArray, List.getElem?_cons_succ, List.getElem?_cons_zero]; rfl) (by kernel_rfl) (by kernel_rfl) (by kernel_rfl) (by exact fun _ _ _ h => h) (Or.inl ⟨by rfl, ?_⟩) (by assumption) ?_; rotate_left; focus (intro w hSw; (try dsimp only at hSw); first | (go_simp; done) | (go_simp; with_reducible rfl))
  try simp only [Act.put, List.setIfInBounds_toArray, List.set_cons_zero, List.set_cons_succ]
  refine wpAnyH_take (i := 10) (v := ?_) (by simp only [List.getElem?_toArray, List.getElem?_cons_succ, List.getElem?_cons_zero]; rfl) (by kernel_rfl) (by kernel_rfl) (by kernel_rfl) (by exact fun _ _ _ h => h) (Or.inl ⟨by rfl, ?_⟩) (by assumption) ?_; rotate_left; focus (intro w hSw; (try dsimp only at hSw); first | (go_simp; done) | (go_simp; with_reducible rfl))
  try simp only [Act.put, List.setIfInBounds_toArray, List.set_cons_zero, List.set_cons_succ]
  refine wpAnyH_take (i := 11) (v := ?_) (by simp only [List.getElem?_toArray, List.getElem?_cons_succ, List.getElem?_cons_zero]; rfl) (by kernel_rfl) (by kernel_rfl) (by kernel_rfl) (by exact fun _ _ _ h => h) (Or.inl ⟨by rfl, ?_⟩) (by assumption) ?_; rotate_left; focus (intro w hSw; (try dsimp only at hSw); first | (go_simp; done) | (go_simp; with_reducible rfl))
  try simp only [Act.put, List.setIfInBounds_toArray, List.set_cons_zero, List.set_cons_succ]
  refine wpAnyH_take (i := 12) (v := ?_) (by simp only [List.getElem?_toArray, List.getElem?_cons_succ, List.getElem?_cons_zero]; rfl) (by kernel_rfl) (by kernel_rfl) (by kernel_rfl) (by exact fun _ _ _ h => h) (Or.inl ⟨by rfl, ?_⟩) (by assumption) ?_; rotate_left; focus (intro w hSw; (try dsimp only at hSw); first | (go_simp; done) | (go_simp; with_reducible rfl))
  try simp only [Act.put, List.setIfInBounds_toArray, List.set_cons_zero, List.set_cons_succ]
  refine wpAnyH_take (i := 13) (v := ?_) (by simp only [List.getElem?_toArray, List.getElem?_cons_succ, List.getElem?_cons_zero]; rfl) (by kernel_rfl) (by kernel_rfl) (by kernel_rfl) (by exact fun _ _ _ h => h) (Or.inl ⟨by rfl, ?_⟩) (by assumption) ?_; rotate_left; focus (intro w hSw; (try dsimp only at hSw); first | (go_simp; done) | (go_simp; with_reducible rfl))
  try simp only [Act.put, List.setIfInBounds_toArray, List.set_cons_zero, List.set_cons_succ]
  refine wpAnyH_take (i := 14) (v := ?_) (by simp only [List.getElem?_toArray, List.getElem?_cons_succ, List.getElem?_cons_zero]; rfl) (by kernel_rfl) (by kernel_rfl) (by kernel_rfl) (by exact fun _ _ _ h => h) (Or.inl ⟨by rfl, ?_⟩) (by assumption) ?_; rotate_left; focus (intro w hSw; (try dsimp only at hSw); first | (go_simp; done) | (go_simp; with_reducible rfl))
  try simp only [Act.put, List.setIfInBounds_toArray, List.set_cons_zero, List.set_cons_succ]
  refine wpAnyH_take (i := 15) (v := ?_) (by simp only [List.getElem?_toArray, List.getElem?_cons_succ, List.getElem?_cons_zero]; rfl) (by kernel_rfl) (by kernel_rfl) (by kernel_rfl) (by exact fun _ _ _ h => h) (Or.inl ⟨by rfl, ?_⟩) (by assumption) ?_; rotate_left; focus (intro w hSw; (try dsimp only at hSw); first | (go_simp; done) | (go_simp; with_reducible rfl))
  try simp only [Act.put, List.setIfInBounds_toArray, List.set_cons_zero, List.set_cons_succ]
  refine wpAnyH_take (i := 16) (v := ?_) (by simp only [List.getElem?_toArray, List.getElem?_cons_succ, List.getElem?_cons_zero]; rfl) (by kernel_rfl) (by kernel_rfl) (by kernel_rfl) (by exact fun _ _ _ h => h) (Or.inl ⟨by rfl, ?_⟩) (by assumption) ?_; rotate_left; focus (intro w hSw; (try dsimp only at hSw); first | (go_simp; done) | (go_simp; with_reducible rfl))
  try simp only [Act.put, List.setIfInBounds_toArray, List.set_cons_zero, List.set_cons_succ]
  refine wpAnyH_take (i := 17) (v := ?_) (by simp only [List.getElem?_toArray, List.getElem?_cons_succ, List.getElem?_cons_zero]; rfl) (by kernel_rfl) (by kernel_rfl) (by kernel_rfl) (by exact fun _ _ _ h => h) (Or.inl ⟨by rfl, ?_⟩) (by assumption) ?_; rotate_left; focus (intro w hSw; (try dsimp only at hSw); first | (go_simp; done) | (go_simp; with_reducible rfl))
  try simp only [Act.put, List.setIfInBounds_toArray, List.set_cons_zero, List.set_cons_succ]
  refine wpAnyH_take (i := 18) (v := ?_) (by simp only [List.getElem?_toArray, List.getElem?_cons_succ, List.getElem?_cons_zero]; rfl) (by kernel_rfl) (by kernel_rfl) (by kernel_rfl) (by exact fun _ _ _ h => h) (Or.inl ⟨by rfl, ?_⟩) (by assumption) ?_; rotate_left; focus (intro w hSw; (try dsimp only at hSw); first | (go_simp; done) | (go_simp; with_reducible rfl))
  try simp only [Act.put, List.setIfInBounds_toArray, List.set_cons_zero, List.set_cons_succ]
  refine wpAnyH_take (i := 19) (v := ?_) (by simp only [List.getElem?_toArray, List.getElem?_cons_succ, List.getElem?_cons_zero]; rfl) (by kernel_rfl) (by kernel_rfl) (by kernel_rfl) (by exact fun _ _ _ h => h) (Or.inl ⟨by rfl, ?_⟩) (by assumption) ?_; rotate_left; focus (intro w hSw; (try dsimp only at hSw); first | (go_simp; done) | (go_simp; with_reducible rfl))
  try simp only [Act.put, List.setIfInBounds_toArray, List.set_cons_zero, List.set_cons_succ]
  refine wpAnyH_ready (rs := [20]) (by kernel_rfl) (by simp) ?_
  refine AllReadyH.cons rfl (fun K hK => ?_) AllReadyH.nil
  rw [if_pos (by rfl)]
  go_simp
  go_at_call 73
  have kB := hHeld.2.2.2.2.2.2.2.2.2.2.2.2.2
  refine (implSail _ _ d p.segment s _ (Rd.out.below (B.out.trans (kB.out.mono B.out.size))) Nd.out (Nl.out s HX.out)).mono ?_
  rw [Hb4.out]
  rintro e wq0_20 ⟨rfl, hbk⟩
  have HBK := kB.out.trans (hbk.mono kB.out.size)
  have QS := Lib.hid (show wq0_20.cell? ⟨w.heap.size, 0, none⟩ = some (.slice Ad0 d.points.length cd0) ∧ wq0_20.cell? ⟨w.heap.size, 1, none⟩ = some (.slice Ad1 d.segs.length cd1) ∧ wq0_20.cell? ⟨w.heap.size + 1, 0, none⟩ = some (.int .i64 (k : Int)) ∧ wq0_20.cell? ⟨w.heap.size + 1, 1, none⟩ = some (.int .i64 p.segment) ∧ wq0_20.cell? ⟨w.heap.size + 1, 2, none⟩ = some (.bool p.toward) ∧ wq0_20.cell? ⟨w.heap.size + 1, 3, none⟩ = some (.int .i64 p.start) ∧ wq0_20.cell? ⟨w.heap.size + 1, 4, none⟩ = some (.int .i64 p.stop) ∧ wq0_20.cell? ⟨g, o + k * 6, none⟩ = some (.string s.name) ∧ wq0_20.cell? ⟨g, o + k * 6 + 1, none⟩ = some (.int .i64 s.length) ∧ wq0_20.cell? ⟨g, o + k * 6 + 2, none⟩ = some (.int .i64 s.draught) ∧ wq0_20.cell? ⟨g, o + k * 6 + 3, none⟩ = some (.int .i64 s.line) ∧ wq0_20.cell? ⟨g, o + k * 6 + 4, none⟩ = some (.int .i64 s.tugs) ∧ wq0_20.cell? ⟨g, o + k * 6 + 5, none⟩ = some (.bool s.slow) ∧ Hid (Below W0.heap.size W0 wq0_20) from ⟨cell_onV Fd0.out HBK, cell_onV Fd1.out HBK, cell_onV Fp0.out HBK, cell_onV Fp1.out HBK, cell_onV Fp2.out HBK, cell_onV Fp3.out HBK, cell_onV Fp4.out HBK, cell_onV FY0a.out HBK, cell_onV FY1a.out HBK, cell_onV FY2a.out HBK, cell_onV FY3a.out HBK, cell_onV FY4a.out HBK, cell_onV FY5a.out HBK, Lib.hid HBK⟩)
  clear hbk kB hHeld HBK
  go_simp
  refine hK.out _ _ ?_ (fun hHeld => ?_)
  · (try dsimp only); exact QS.out
  clear hK K
  try simp only [Act.put, List.setIfInBounds_toArray, List.set_cons_zero, List.set_cons_succ]
  refine wpAnyH_take (i := 21) (v := ?_) (by simp only [List.getElem?_toArray, List.getElem?_cons_succ, List.getElem?_cons_zero]; rfl) (by kernel_rfl) (by kernel_rfl) (by kernel_rfl) (by exact fun _ _ _ h => h) (Or.inl ⟨by rfl, ?_⟩) (by assumption) ?_; rotate_left; focus (intro w hSw; (try dsimp only at hSw); first | (go_simp; done) | (go_simp; with_reducible rfl))
  try simp only [Act.put, List.setIfInBounds_toArray, List.set_cons_zero, List.set_cons_succ]
  refine wpAnyH_take (i := 22) (v := ?_) (by simp only [List.getElem?_toArray, List.getElem?_cons_succ, List.getElem?_cons_zero]; rfl) (by kernel_rfl) (by kernel_rfl) (by kernel_rfl) (by exact fun _ _ _ h => h) (Or.inl ⟨by rfl, ?_⟩) (by assumption) ?_; rotate_left; focus (intro w hSw; (try dsimp only at hSw); first | (go_simp; done) | (go_simp; with_reducible rfl))
  try simp only [Act.put, List.setIfInBounds_toArray, List.set_cons_zero, List.set_cons_succ]
  refine wpAnyH_take (i := 23) (v := ?_) (by simp only [List.getElem?_toArray, List.getElem?_cons_succ, List.getElem?_cons_zero]; rfl) (by kernel_rfl) (by kernel_rfl) (by kernel_rfl) (by exact fun _ _ _ h => h) (Or.inl ⟨by rfl, ?_⟩) (by assumption) ?_; rotate_left; focus (intro w hSw; (try dsimp only at hSw); first | (go_simp; done) | (go_simp; with_reducible rfl))
  try simp only [Act.put, List.setIfInBounds_toArray, List.set_cons_zero, List.set_cons_succ]
  refine wpAnyH_take (i := 24) (v := ?_) (by simp only [List.getElem?_toArray, List.getElem?_cons_succ, List.getElem?_cons_zero]; rfl) (by kernel_rfl) (by kernel_rfl) (by kernel_rfl) (by exact fun _ _ _ h => h) (Or.inl ⟨by rfl, ?_⟩) (by assumption) ?_; rotate_left; focus (intro w hSw; (try dsimp only at hSw); first | (go_simp; done) | (go_simp; with_reducible rfl))
  try simp only [Act.put, List.setIfInBounds_toArray, List.set_cons_zero, List.set_cons_succ]
  refine wpAnyH_take (i := 25) (v := ?_) (by simp only [List.getElem?_toArray, List.getElem?_cons_succ, List.getElem?_cons_zero]; rfl) (by kernel_rfl) (by kernel_rfl) (by kernel_rfl) (by exact fun _ _ _ h => h) (Or.inl ⟨by rfl, ?_⟩) (by assumption) ?_; rotate_left; focus (intro w hSw; (try dsimp only at hSw); first | (go_simp; done) | (go_simp; with_reducible rfl))
  try simp only [Act.put, List.setIfInBounds_toArray, List.set_cons_zero, List.set_cons_succ]
  refine wpAnyH_ready (rs := [26]) (by kernel_rfl) (by simp) ?_
  refine AllReadyH.cons rfl (fun K hK => ?_) AllReadyH.nil
  rw [if_pos (by rfl)]
  go_simp
  go_at_call 74
  have kB := hHeld.2.2.2.2.2.2.2.2.2.2.2.2.2
  refine ((isMinute_any _ _)).mono ?_
  rw [Hb5.out]
  rintro e wq0_26 ⟨rfl, hbk1⟩
  have hbk := below_same hbk1
  have HBK := kB.out.trans (hbk.mono kB.out.size)
  have QS := Lib.hid (show wq0_26.cell? ⟨w.heap.size, 0, none⟩ = some (.slice Ad0 d.points.length cd0) ∧ wq0_26.cell? ⟨w.heap.size, 1, none⟩ = some (.slice Ad1 d.segs.length cd1) ∧ wq0_26.cell? ⟨w.heap.size + 1, 0, none⟩ = some (.int .i64 (k : Int)) ∧ wq0_26.cell? ⟨w.heap.size + 1, 1, none⟩ = some (.int .i64 p.segment) ∧ wq0_26.cell? ⟨w.heap.size + 1, 2, none⟩ = some (.bool p.toward) ∧ wq0_26.cell? ⟨w.heap.size + 1, 3, none⟩ = some (.int .i64 p.start) ∧ wq0_26.cell? ⟨w.heap.size + 1, 4, none⟩ = some (.int .i64 p.stop) ∧ wq0_26.cell? ⟨g, o + k * 6, none⟩ = some (.string s.name) ∧ wq0_26.cell? ⟨g, o + k * 6 + 1, none⟩ = some (.int .i64 s.length) ∧ wq0_26.cell? ⟨g, o + k * 6 + 2, none⟩ = some (.int .i64 s.draught) ∧ wq0_26.cell? ⟨g, o + k * 6 + 3, none⟩ = some (.int .i64 s.line) ∧ wq0_26.cell? ⟨g, o + k * 6 + 4, none⟩ = some (.int .i64 s.tugs) ∧ wq0_26.cell? ⟨g, o + k * 6 + 5, none⟩ = some (.bool s.slow) ∧ Hid (Below W0.heap.size W0 wq0_26) from ⟨cell_onV Fd0.out HBK, cell_onV Fd1.out HBK, cell_onV Fp0.out HBK, cell_onV Fp1.out HBK, cell_onV Fp2.out HBK, cell_onV Fp3.out HBK, cell_onV Fp4.out HBK, cell_onV FY0a.out HBK, cell_onV FY1a.out HBK, cell_onV FY2a.out HBK, cell_onV FY3a.out HBK, cell_onV FY4a.out HBK, cell_onV FY5a.out HBK, Lib.hid HBK⟩)
  clear hbk kB hHeld HBK
  go_simp
  refine hK.out _ _ ?_ (fun hHeld => ?_)
  · (try dsimp only); exact QS.out
  clear hK K
  try simp only [Act.put, List.setIfInBounds_toArray, List.set_cons_zero, List.set_cons_succ]
  refine wpAnyH_take (i := 27) (v := ?_) (by simp only [List.getElem?_toArray, List.getElem?_cons_succ, List.getElem?_cons_zero]; rfl) (by kernel_rfl) (by kernel_rfl) (by kernel_rfl) (by exact fun _ _ _ h => h) (Or.inl ⟨by rfl, ?_⟩) (by assumption) ?_; rotate_left; focus (intro w hSw; (try dsimp only at hSw); first | (go_simp; done) | (go_simp; with_reducible rfl))
  try simp only [Act.put, List.setIfInBounds_toArray, List.set_cons_zero, List.set_cons_succ]
  refine wpAnyH_take (i := 28) (v := ?_) (by simp only [List.getElem?_toArray, List.getElem?_cons_succ, List.getElem?_cons_zero]; rfl) (by kernel_rfl) (by kernel_rfl) (by kernel_rfl) (by exact fun _ _ _ h => h) (Or.inl ⟨by rfl, ?_⟩) (by assumption) ?_; rotate_left; focus (intro w hSw; (try dsimp only at hSw); first | (go_simp; done) | (go_simp; with_reducible rfl))
  try simp only [Act.put, List.setIfInBounds_toArray, List.set_cons_zero, List.set_cons_succ]
  refine wpAnyH_done (by kernel_rfl) ?_ _
  have BK1 := Lib.hid hHeld.2.2.2.2.2.2.2.2.2.2.2.2.2.out
  have B1 := Lib.hid (B.out.trans (BK1.out.mono B.out.size))
  have Kd_1 := Lib.hid (Kd.out.below BK1.out)
  have Kp_1 := Lib.hid (Kp.out.below BK1.out)
  clear hHeld DD
  have FY0b := Lib.hid (show wq0_26.cell? ⟨g, o + k * 6, none⟩ = some (.string s.name) from cell_onV Y0.out B1.out)
  have FY1b := Lib.hid (show wq0_26.cell? ⟨g, o + k * 6 + 1, none⟩ = some (.int .i64 s.length) from cell_onV Y1.out B1.out)
  have FY2b := Lib.hid (show wq0_26.cell? ⟨g, o + k * 6 + 2, none⟩ = some (.int .i64 s.draught) from cell_onV Y2.out B1.out)
  have FY3b := Lib.hid (show wq0_26.cell? ⟨g, o + k * 6 + 3, none⟩ = some (.int .i64 s.line) from cell_onV Y3.out B1.out)
  have FY4b := Lib.hid (show wq0_26.cell? ⟨g, o + k * 6 + 4, none⟩ = some (.int .i64 s.tugs) from cell_onV Y4.out B1.out)
  have FY5b := Lib.hid (show wq0_26.cell? ⟨g, o + k * 6 + 5, none⟩ = some (.bool s.slow) from cell_onV Y5.out B1.out)
  obtain ⟨qb, hq⟩ : ∃ b, (p.stop == p.start + mn) = b := ⟨_, rfl⟩
  have E1 := Lib.hid (E0.out.trans (by rw [hq]))
  clear E0
  cases qb with
  | false =>
    have Fd0 := Lib.hid (show wq0_26.cell? ⟨w.heap.size, 0, none⟩ = some (.slice Ad0 d.points.length cd0) from Kd_1.out.cell 0)
    have Fd1 := Lib.hid (show wq0_26.cell? ⟨w.heap.size, 1, none⟩ = some (.slice Ad1 d.segs.length cd1) from Kd_1.out.cell 1)
    have Fp0 := Lib.hid (show wq0_26.cell? ⟨w.heap.size + 1, 0, none⟩ = some (.int .i64 (k : Int)) from Kp_1.out.cell 0)
    have Fp1 := Lib.hid (show wq0_26.cell? ⟨w.heap.size + 1, 1, none⟩ = some (.int .i64 p.segment) from Kp_1.out.cell 1)
    have Fp2 := Lib.hid (show wq0_26.cell? ⟨w.heap.size + 1, 2, none⟩ = some (.bool p.toward) from Kp_1.out.cell 2)
    have Fp3 := Lib.hid (show wq0_26.cell? ⟨w.heap.size + 1, 3, none⟩ = some (.int .i64 p.start) from Kp_1.out.cell 3)
    have Fp4 := Lib.hid (show wq0_26.cell? ⟨w.heap.size + 1, 4, none⟩ = some (.int .i64 p.stop) from Kp_1.out.cell 4)
    have DD := Lib.hid ((Below.refl wq0_26.heap.size wq0_26).drew)
    have vFd0 := Fd0.out
    have vFd1 := Fd1.out
    have vFp0 := Fp0.out
    have vFp1 := Fp1.out
    have vFp2 := Fp2.out
    have vFp3 := Fp3.out
    have vFp4 := Fp4.out
    have vFY0b := FY0b.out
    have vFY1b := FY1b.out
    have vFY2b := FY2b.out
    have vFY3b := FY3b.out
    have vFY4b := FY4b.out
    have vFY5b := FY5b.out
    go_upto_region 3 with fail
    refine wp_region_held_drew (S := (fun w' => w'.cell? ⟨w.heap.size, 0, none⟩ = some (.slice Ad0 d.points.length cd0) ∧ w'.cell? ⟨w.heap.size, 1, none⟩ = some (.slice Ad1 d.segs.length cd1) ∧ w'.cell? ⟨w.heap.size + 1, 0, none⟩ = some (.int .i64 (k : Int)) ∧ w'.cell? ⟨w.heap.size + 1, 1, none⟩ = some (.int .i64 p.segment) ∧ w'.cell? ⟨w.heap.size + 1, 2, none⟩ = some (.bool p.toward) ∧ w'.cell? ⟨w.heap.size + 1, 3, none⟩ = some (.int .i64 p.start) ∧ w'.cell? ⟨w.heap.size + 1, 4, none⟩ = some (.int .i64 p.stop) ∧ w'.cell? ⟨g, o + k * 6, none⟩ = some (.string s.name) ∧ w'.cell? ⟨g, o + k * 6 + 1, none⟩ = some (.int .i64 s.length) ∧ w'.cell? ⟨g, o + k * 6 + 2, none⟩ = some (.int .i64 s.draught) ∧ w'.cell? ⟨g, o + k * 6 + 3, none⟩ = some (.int .i64 s.line) ∧ w'.cell? ⟨g, o + k * 6 + 4, none⟩ = some (.int .i64 s.tugs) ∧ w'.cell? ⟨g, o + k * 6 + 5, none⟩ = some (.bool s.slow) ∧ Hid (Below wq0_26.heap.size wq0_26 w'))) (by kernel_rfl) ?_ (fun hHeld => ?_)
    · (try dsimp only); go_keep
    refine wpAnyH_take (i := 0) (v := ?_) (by simp only [List.getElem?_toArray, List.getElem?_cons_zero]; rfl) (by kernel_rfl) (by kernel_rfl) (by kernel_rfl) (by exact fun _ _ _ h => h) (Or.inl ⟨by rfl, ?_⟩) (by assumption) ?_; rotate_left; focus (intro w hSw; (try dsimp only at hSw); first | (go_simp; done) | (go_simp; with_reducible rfl))
    try simp only [Act.put, List.setIfInBounds_toArray, List.set_cons_zero, List.set_cons_succ]
    refine wpAnyH_take (i := 1) (v := ?_) (by simp only [List.getElem?_toArray, List.getElem?_cons_succ, List.getElem?_cons_zero]; rfl) (by kernel_rfl) (by kernel_rfl) (by kernel_rfl) (by exact fun _ _ _ h => h) (Or.inl ⟨by rfl, ?_⟩) (by assumption) ?_; rotate_left; focus (intro w hSw; (try dsimp only at hSw); first | (go_simp; done) | (go_simp; with_reducible rfl))
    try simp only [Act.put, List.setIfInBounds_toArray, List.set_cons_zero, List.set_cons_succ]
    refine wpAnyH_take (i := 2) (v := ?_) (by simp only [List.getElem?_toArray, List.getElem?_cons_succ, List.getElem?_cons_zero]; rfl) (by kernel_rfl) (by kernel_rfl) (by kernel_rfl) (by exact fun _ _ _ h => h) (Or.inl ⟨by rfl, ?_⟩) (by assumption) ?_; rotate_left; focus (intro w hSw; (try dsimp only at hSw); first | (go_simp; done) | (go_simp; with_reducible rfl))
    try simp only [Act.put, List.setIfInBounds_toArray, List.set_cons_zero, List.set_cons_succ]
    refine wpAnyH_take (i := 3) (v := ?_) (by simp only [List.getElem?_toArray, List.getElem?_cons_succ, List.getElem?_cons_zero]; rfl) (by kernel_rfl) (by kernel_rfl) (by kernel_rfl) (by exact fun _ _ _ h => h) (Or.inl ⟨by rfl, ?_⟩) (by assumption) ?_; rotate_left; focus (intro w hSw; (try dsimp only at hSw); first | (go_simp; done) | (go_simp; with_reducible rfl))
    try simp only [Act.put, List.setIfInBounds_toArray, List.set_cons_zero, List.set_cons_succ]
    refine wpAnyH_take (i := 4) (v := ?_) (by simp only [List.getElem?_toArray, List.getElem?_cons_succ, List.getElem?_cons_zero]; rfl) (by kernel_rfl) (by kernel_rfl) (by kernel_rfl) (by exact fun _ _ _ h => h) (Or.inl ⟨by rfl, ?_⟩) (by assumption) ?_; rotate_left; focus (intro w hSw; (try dsimp only at hSw); first | (go_simp; done) | (go_simp; with_reducible rfl))
    try simp only [Act.put, List.setIfInBounds_toArray, List.set_cons_zero, List.set_cons_succ]
    refine wpAnyH_take (i := 5) (v := ?_) (by simp only [List.getElem?_toArray, List.getElem?_cons_succ, List.getElem?_cons_zero]; rfl) (by kernel_rfl) (by kernel_rfl) (by kernel_rfl) (by exact fun _ _ _ h => h) (Or.inl ⟨by rfl, ?_⟩) (by assumption) ?_; rotate_left; focus (intro w hSw; (try dsimp only at hSw); first | (go_simp; done) | (go_simp; with_reducible rfl))
    try simp only [Act.put, List.setIfInBounds_toArray, List.set_cons_zero, List.set_cons_succ]
    refine wpAnyH_take (i := 6) (v := ?_) (by simp only [List.getElem?_toArray, List.getElem?_cons_succ, List.getElem?_cons_zero]; rfl) (by kernel_rfl) (by kernel_rfl) (by kernel_rfl) (by exact fun _ _ _ h => h) (Or.inl ⟨by rfl, ?_⟩) (by assumption) ?_; rotate_left; focus (intro w hSw; (try dsimp only at hSw); first | (go_simp; done) | (go_simp; with_reducible rfl))
    try simp only [Act.put, List.setIfInBounds_toArray, List.set_cons_zero, List.set_cons_succ]
    refine wpAnyH_take (i := 7) (v := ?_) (by simp only [List.getElem?_toArray, List.getElem?_cons_succ, List.getElem?_cons_zero]; rfl) (by kernel_rfl) (by kernel_rfl) (by kernel_rfl) (by exact fun _ _ _ h => h) (Or.inl ⟨by rfl, ?_⟩) (by assumption) ?_; rotate_left; focus (intro w hSw; (try dsimp only at hSw); first | (go_simp; done) | (go_simp; with_reducible rfl))
    try simp only [Act.put, List.setIfInBounds_toArray, List.set_cons_zero, List.set_cons_succ]
    refine wpAnyH_take (i := 8) (v := ?_) (by simp only [List.getElem?_toArray, List.getElem?_cons_succ, List.getElem?_cons_zero]; rfl) (by kernel_rfl) (by kernel_rfl) (by kernel_rfl) (by exact fun _ _ _ h => h) (Or.inl ⟨by rfl, ?_⟩) (by assumption) ?_; rotate_left; focus (intro w hSw; (try dsimp only at hSw); first | (go_simp; done) | (go_simp; with_reducible rfl))
    try simp only [Act.put, List.setIfInBounds_toArray, List.set_cons_zero, List.set_cons_succ]
    refine wpAnyH_take (i := 9) (v := ?_) (by simp only [List.getElem?_toArray, List.getElem?_cons_succ, List.getElem?_cons_zero]; rfl) (by kernel_rfl) (by kernel_rfl) (by kernel_rfl) (by exact fun _ _ _ h => h) (Or.inl ⟨by rfl, ?_⟩) (by assumption) ?_; rotate_left; focus (intro w hSw; (try dsimp only at hSw); first | (go_simp; done) | (go_simp; with_reducible rfl))
    try simp only [Act.put, List.setIfInBounds_toArray, List.set_cons_zero, List.set_cons_succ]
    refine wpAnyH_take (i := 10) (v := ?_) (by simp only [List.getElem?_toArray, List.getElem?_cons_succ, List.getElem?_cons_zero]; rfl) (by kernel_rfl) (by kernel_rfl) (by kernel_rfl) (by exact fun _ _ _ h => h) (Or.inl ⟨by rfl, ?_⟩) (by assumption) ?_; rotate_left; focus (intro w hSw; (try dsimp only at hSw); first | (go_simp; done) | (go_simp; with_reducible rfl))
    try simp only [Act.put, List.setIfInBounds_toArray, List.set_cons_zero, List.set_cons_succ]
    refine wpAnyH_take (i := 11) (v := ?_) (by simp only [List.getElem?_toArray, List.getElem?_cons_succ, List.getElem?_cons_zero]; rfl) (by kernel_rfl) (by kernel_rfl) (by kernel_rfl) (by exact fun _ _ _ h => h) (Or.inl ⟨by rfl, ?_⟩) (by assumption) ?_; rotate_left; focus (intro w hSw; (try dsimp only at hSw); first | (go_simp; done) | (go_simp; with_reducible rfl))
    try simp only [Act.put, List.setIfInBounds_toArray, List.set_cons_zero, List.set_cons_succ]
    refine wpAnyH_ready (rs := [12]) (by kernel_rfl) (by simp) ?_
    refine AllReadyH.cons rfl (fun K hK => ?_) AllReadyH.nil
    rw [if_pos (by rfl)]
    go_simp
    go_at_call 75
    have kB := hHeld.2.2.2.2.2.2.2.2.2.2.2.2.2
    refine (implMinutesOn _ _ d p.segment s _ (Rd.out.below (B1.out.trans (kB.out.mono B1.out.size))) Nd.out (Nl.out s HX.out)).mono ?_
    rw [HMN.out]
    rintro e wq1_12 ⟨rfl, hbk⟩
    have HBK := kB.out.trans (hbk.mono kB.out.size)
    have QS := Lib.hid (show wq1_12.cell? ⟨w.heap.size, 0, none⟩ = some (.slice Ad0 d.points.length cd0) ∧ wq1_12.cell? ⟨w.heap.size, 1, none⟩ = some (.slice Ad1 d.segs.length cd1) ∧ wq1_12.cell? ⟨w.heap.size + 1, 0, none⟩ = some (.int .i64 (k : Int)) ∧ wq1_12.cell? ⟨w.heap.size + 1, 1, none⟩ = some (.int .i64 p.segment) ∧ wq1_12.cell? ⟨w.heap.size + 1, 2, none⟩ = some (.bool p.toward) ∧ wq1_12.cell? ⟨w.heap.size + 1, 3, none⟩ = some (.int .i64 p.start) ∧ wq1_12.cell? ⟨w.heap.size + 1, 4, none⟩ = some (.int .i64 p.stop) ∧ wq1_12.cell? ⟨g, o + k * 6, none⟩ = some (.string s.name) ∧ wq1_12.cell? ⟨g, o + k * 6 + 1, none⟩ = some (.int .i64 s.length) ∧ wq1_12.cell? ⟨g, o + k * 6 + 2, none⟩ = some (.int .i64 s.draught) ∧ wq1_12.cell? ⟨g, o + k * 6 + 3, none⟩ = some (.int .i64 s.line) ∧ wq1_12.cell? ⟨g, o + k * 6 + 4, none⟩ = some (.int .i64 s.tugs) ∧ wq1_12.cell? ⟨g, o + k * 6 + 5, none⟩ = some (.bool s.slow) ∧ Hid (Below wq0_26.heap.size wq0_26 wq1_12) from ⟨cell_onV Fd0.out HBK, cell_onV Fd1.out HBK, cell_onV Fp0.out HBK, cell_onV Fp1.out HBK, cell_onV Fp2.out HBK, cell_onV Fp3.out HBK, cell_onV Fp4.out HBK, cell_onV FY0b.out HBK, cell_onV FY1b.out HBK, cell_onV FY2b.out HBK, cell_onV FY3b.out HBK, cell_onV FY4b.out HBK, cell_onV FY5b.out HBK, Lib.hid HBK⟩)
    clear hbk kB hHeld HBK
    go_simp
    refine hK.out _ _ ?_ (fun hHeld => ?_)
    · (try dsimp only); exact QS.out
    clear hK K
    try simp only [Act.put, List.setIfInBounds_toArray, List.set_cons_zero, List.set_cons_succ]
    refine wpAnyH_take (i := 13) (v := ?_) (by simp only [List.getElem?_toArray, List.getElem?_cons_succ, List.getElem?_cons_zero]; rfl) (by kernel_rfl) (by kernel_rfl) (by kernel_rfl) (by exact fun _ _ _ h => h) (Or.inl ⟨by rfl, ?_⟩) (by assumption) ?_; rotate_left; focus (intro w hSw; (try dsimp only at hSw); first | (go_simp; done) | (go_simp; with_reducible rfl))
    try simp only [Act.put, List.setIfInBounds_toArray, List.set_cons_zero, List.set_cons_succ]
    refine wpAnyH_take (i := 14) (v := ?_) (by simp only [List.getElem?_toArray, List.getElem?_cons_succ, List.getElem?_cons_zero]; rfl) (by kernel_rfl) (by kernel_rfl) (by kernel_rfl) (by exact fun _ _ _ h => h) (Or.inl ⟨by rfl, ?_⟩) (by assumption) ?_; rotate_left; focus (intro w hSw; (try dsimp only at hSw); first | (go_simp; done) | (go_simp; with_reducible rfl))
    try simp only [Act.put, List.setIfInBounds_toArray, List.set_cons_zero, List.set_cons_succ]
    refine wpAnyH_take (i := 15) (v := ?_) (by simp only [List.getElem?_toArray, List.getElem?_cons_succ, List.getElem?_cons_zero]; rfl) (by kernel_rfl) (by kernel_rfl) (by kernel_rfl) (by exact fun _ _ _ h => h) (Or.inl ⟨by rfl, ?_⟩) (by assumption) ?_; rotate_left; focus (intro w hSw; (try dsimp only at hSw); first | (go_simp; done) | (go_simp; with_reducible rfl))
    try simp only [Act.put, List.setIfInBounds_toArray, List.set_cons_zero, List.set_cons_succ]
    refine wpAnyH_take (i := 16) (v := undef) (by simp only [List.getElem?_toArray, List.getElem?_cons_succ, List.getElem?_cons_zero]; rfl) (by kernel_rfl) (by kernel_rfl) (by kernel_rfl) (by exact fun _ _ _ h => h) (Or.inr ⟨by rfl, rfl⟩) (by assumption) ?_
    try simp only [Act.put, List.setIfInBounds_toArray, List.set_cons_zero, List.set_cons_succ]
    refine wpAnyH_take (i := 17) (v := undef) (by simp only [List.getElem?_toArray, List.getElem?_cons_succ, List.getElem?_cons_zero]; rfl) (by kernel_rfl) (by kernel_rfl) (by kernel_rfl) (by exact fun _ _ _ h => h) (Or.inr ⟨by rfl, rfl⟩) (by assumption) ?_
    try simp only [Act.put, List.setIfInBounds_toArray, List.set_cons_zero, List.set_cons_succ]
    refine wpAnyH_take (i := 18) (v := undef) (by simp only [List.getElem?_toArray, List.getElem?_cons_succ, List.getElem?_cons_zero]; rfl) (by kernel_rfl) (by kernel_rfl) (by kernel_rfl) (by exact fun _ _ _ h => h) (Or.inr ⟨by rfl, rfl⟩) (by assumption) ?_
    try simp only [Act.put, List.setIfInBounds_toArray, List.set_cons_zero, List.set_cons_succ]
    refine wpAnyH_take (i := 19) (v := ?_) (by simp only [List.getElem?_toArray, List.getElem?_cons_succ, List.getElem?_cons_zero]; rfl) (by kernel_rfl) (by kernel_rfl) (by kernel_rfl) (by exact fun _ _ _ h => h) (Or.inl ⟨by rfl, ?_⟩) (by assumption) ?_; rotate_left; focus (intro w hSw; (try dsimp only at hSw); first | (go_simp; done) | (go_simp; with_reducible rfl))
    try simp only [Act.put, List.setIfInBounds_toArray, List.set_cons_zero, List.set_cons_succ]
    refine wpAnyH_take (i := 20) (v := ?_) (by simp only [List.getElem?_toArray, List.getElem?_cons_succ, List.getElem?_cons_zero]; rfl) (by kernel_rfl) (by kernel_rfl) (by kernel_rfl) (by exact fun _ _ _ h => h) (Or.inl ⟨by rfl, ?_⟩) (by assumption) ?_; rotate_left; focus (intro w hSw; (try dsimp only at hSw); first | (go_simp; done) | (go_simp; with_reducible rfl))
    try simp only [Act.put, List.setIfInBounds_toArray, List.set_cons_zero, List.set_cons_succ]
    refine wpAnyH_done (by kernel_rfl) ?_ _
    go_wp2
    go_ret
    exact ⟨ret_bool (by rw [E1.out]; simp), B1.out.trans (hHeld.2.2.2.2.2.2.2.2.2.2.2.2.2.out.mono B1.out.size)⟩
  | true =>
    have Fd0 := Lib.hid (show wq0_26.cell? ⟨w.heap.size, 0, none⟩ = some (.slice Ad0 d.points.length cd0) from Kd_1.out.cell 0)
    have Fd1 := Lib.hid (show wq0_26.cell? ⟨w.heap.size, 1, none⟩ = some (.slice Ad1 d.segs.length cd1) from Kd_1.out.cell 1)
    have Fp0 := Lib.hid (show wq0_26.cell? ⟨w.heap.size + 1, 0, none⟩ = some (.int .i64 (k : Int)) from Kp_1.out.cell 0)
    have Fp1 := Lib.hid (show wq0_26.cell? ⟨w.heap.size + 1, 1, none⟩ = some (.int .i64 p.segment) from Kp_1.out.cell 1)
    have Fp2 := Lib.hid (show wq0_26.cell? ⟨w.heap.size + 1, 2, none⟩ = some (.bool p.toward) from Kp_1.out.cell 2)
    have Fp3 := Lib.hid (show wq0_26.cell? ⟨w.heap.size + 1, 3, none⟩ = some (.int .i64 p.start) from Kp_1.out.cell 3)
    have Fp4 := Lib.hid (show wq0_26.cell? ⟨w.heap.size + 1, 4, none⟩ = some (.int .i64 p.stop) from Kp_1.out.cell 4)
    have DD := Lib.hid ((Below.refl wq0_26.heap.size wq0_26).drew)
    have vFd0 := Fd0.out
    have vFd1 := Fd1.out
    have vFp0 := Fp0.out
    have vFp1 := Fp1.out
    have vFp2 := Fp2.out
    have vFp3 := Fp3.out
    have vFp4 := Fp4.out
    have vFY0b := FY0b.out
    have vFY1b := FY1b.out
    have vFY2b := FY2b.out
    have vFY3b := FY3b.out
    have vFY4b := FY4b.out
    have vFY5b := FY5b.out
    go_upto_region 3 with fail
    refine wp_region_held_drew (S := (fun w' => w'.cell? ⟨w.heap.size, 0, none⟩ = some (.slice Ad0 d.points.length cd0) ∧ w'.cell? ⟨w.heap.size, 1, none⟩ = some (.slice Ad1 d.segs.length cd1) ∧ w'.cell? ⟨w.heap.size + 1, 0, none⟩ = some (.int .i64 (k : Int)) ∧ w'.cell? ⟨w.heap.size + 1, 1, none⟩ = some (.int .i64 p.segment) ∧ w'.cell? ⟨w.heap.size + 1, 2, none⟩ = some (.bool p.toward) ∧ w'.cell? ⟨w.heap.size + 1, 3, none⟩ = some (.int .i64 p.start) ∧ w'.cell? ⟨w.heap.size + 1, 4, none⟩ = some (.int .i64 p.stop) ∧ w'.cell? ⟨g, o + k * 6, none⟩ = some (.string s.name) ∧ w'.cell? ⟨g, o + k * 6 + 1, none⟩ = some (.int .i64 s.length) ∧ w'.cell? ⟨g, o + k * 6 + 2, none⟩ = some (.int .i64 s.draught) ∧ w'.cell? ⟨g, o + k * 6 + 3, none⟩ = some (.int .i64 s.line) ∧ w'.cell? ⟨g, o + k * 6 + 4, none⟩ = some (.int .i64 s.tugs) ∧ w'.cell? ⟨g, o + k * 6 + 5, none⟩ = some (.bool s.slow) ∧ Hid (Below wq0_26.heap.size wq0_26 w'))) (by kernel_rfl) ?_ (fun hHeld => ?_)
    · (try dsimp only); go_keep
    refine wpAnyH_take (i := 0) (v := ?_) (by simp only [List.getElem?_toArray, List.getElem?_cons_zero]; rfl) (by kernel_rfl) (by kernel_rfl) (by kernel_rfl) (by exact fun _ _ _ h => h) (Or.inl ⟨by rfl, ?_⟩) (by assumption) ?_; rotate_left; focus (intro w hSw; (try dsimp only at hSw); first | (go_simp; done) | (go_simp; with_reducible rfl))
    try simp only [Act.put, List.setIfInBounds_toArray, List.set_cons_zero, List.set_cons_succ]
    refine wpAnyH_take (i := 1) (v := ?_) (by simp only [List.getElem?_toArray, List.getElem?_cons_succ, List.getElem?_cons_zero]; rfl) (by kernel_rfl) (by kernel_rfl) (by kernel_rfl) (by exact fun _ _ _ h => h) (Or.inl ⟨by rfl, ?_⟩) (by assumption) ?_; rotate_left; focus (intro w hSw; (try dsimp only at hSw); first | (go_simp; done) | (go_simp; with_reducible rfl))
    try simp only [Act.put, List.setIfInBounds_toArray, List.set_cons_zero, List.set_cons_succ]
    refine wpAnyH_take (i := 2) (v := ?_) (by simp only [List.getElem?_toArray, List.getElem?_cons_succ, List.getElem?_cons_zero]; rfl) (by kernel_rfl) (by kernel_rfl) (by kernel_rfl) (by exact fun _ _ _ h => h) (Or.inl ⟨by rfl, ?_⟩) (by assumption) ?_; rotate_left; focus (intro w hSw; (try dsimp only at hSw); first | (go_simp; done) | (go_simp; with_reducible rfl))
    try simp only [Act.put, List.setIfInBounds_toArray, List.set_cons_zero, List.set_cons_succ]
    refine wpAnyH_take (i := 3) (v := ?_) (by simp only [List.getElem?_toArray, List.getElem?_cons_succ, List.getElem?_cons_zero]; rfl) (by kernel_rfl) (by kernel_rfl) (by kernel_rfl) (by exact fun _ _ _ h => h) (Or.inl ⟨by rfl, ?_⟩) (by assumption) ?_; rotate_left; focus (intro w hSw; (try dsimp only at hSw); first | (go_simp; done) | (go_simp; with_reducible rfl))
    try simp only [Act.put, List.setIfInBounds_toArray, List.set_cons_zero, List.set_cons_succ]
    refine wpAnyH_take (i := 4) (v := ?_) (by simp only [List.getElem?_toArray, List.getElem?_cons_succ, List.getElem?_cons_zero]; rfl) (by kernel_rfl) (by kernel_rfl) (by kernel_rfl) (by exact fun _ _ _ h => h) (Or.inl ⟨by rfl, ?_⟩) (by assumption) ?_; rotate_left; focus (intro w hSw; (try dsimp only at hSw); first | (go_simp; done) | (go_simp; with_reducible rfl))
    try simp only [Act.put, List.setIfInBounds_toArray, List.set_cons_zero, List.set_cons_succ]
    refine wpAnyH_take (i := 5) (v := ?_) (by simp only [List.getElem?_toArray, List.getElem?_cons_succ, List.getElem?_cons_zero]; rfl) (by kernel_rfl) (by kernel_rfl) (by kernel_rfl) (by exact fun _ _ _ h => h) (Or.inl ⟨by rfl, ?_⟩) (by assumption) ?_; rotate_left; focus (intro w hSw; (try dsimp only at hSw); first | (go_simp; done) | (go_simp; with_reducible rfl))
    try simp only [Act.put, List.setIfInBounds_toArray, List.set_cons_zero, List.set_cons_succ]
    refine wpAnyH_take (i := 6) (v := ?_) (by simp only [List.getElem?_toArray, List.getElem?_cons_succ, List.getElem?_cons_zero]; rfl) (by kernel_rfl) (by kernel_rfl) (by kernel_rfl) (by exact fun _ _ _ h => h) (Or.inl ⟨by rfl, ?_⟩) (by assumption) ?_; rotate_left; focus (intro w hSw; (try dsimp only at hSw); first | (go_simp; done) | (go_simp; with_reducible rfl))
    try simp only [Act.put, List.setIfInBounds_toArray, List.set_cons_zero, List.set_cons_succ]
    refine wpAnyH_take (i := 7) (v := ?_) (by simp only [List.getElem?_toArray, List.getElem?_cons_succ, List.getElem?_cons_zero]; rfl) (by kernel_rfl) (by kernel_rfl) (by kernel_rfl) (by exact fun _ _ _ h => h) (Or.inl ⟨by rfl, ?_⟩) (by assumption) ?_; rotate_left; focus (intro w hSw; (try dsimp only at hSw); first | (go_simp; done) | (go_simp; with_reducible rfl))
    try simp only [Act.put, List.setIfInBounds_toArray, List.set_cons_zero, List.set_cons_succ]
    refine wpAnyH_take (i := 8) (v := ?_) (by simp only [List.getElem?_toArray, List.getElem?_cons_succ, List.getElem?_cons_zero]; rfl) (by kernel_rfl) (by kernel_rfl) (by kernel_rfl) (by exact fun _ _ _ h => h) (Or.inl ⟨by rfl, ?_⟩) (by assumption) ?_; rotate_left; focus (intro w hSw; (try dsimp only at hSw); first | (go_simp; done) | (go_simp; with_reducible rfl))
    try simp only [Act.put, List.setIfInBounds_toArray, List.set_cons_zero, List.set_cons_succ]
    refine wpAnyH_take (i := 9) (v := ?_) (by simp only [List.getElem?_toArray, List.getElem?_cons_succ, List.getElem?_cons_zero]; rfl) (by kernel_rfl) (by kernel_rfl) (by kernel_rfl) (by exact fun _ _ _ h => h) (Or.inl ⟨by rfl, ?_⟩) (by assumption) ?_; rotate_left; focus (intro w hSw; (try dsimp only at hSw); first | (go_simp; done) | (go_simp; with_reducible rfl))
    try simp only [Act.put, List.setIfInBounds_toArray, List.set_cons_zero, List.set_cons_succ]
    refine wpAnyH_take (i := 10) (v := ?_) (by simp only [List.getElem?_toArray, List.getElem?_cons_succ, List.getElem?_cons_zero]; rfl) (by kernel_rfl) (by kernel_rfl) (by kernel_rfl) (by exact fun _ _ _ h => h) (Or.inl ⟨by rfl, ?_⟩) (by assumption) ?_; rotate_left; focus (intro w hSw; (try dsimp only at hSw); first | (go_simp; done) | (go_simp; with_reducible rfl))
    try simp only [Act.put, List.setIfInBounds_toArray, List.set_cons_zero, List.set_cons_succ]
    refine wpAnyH_take (i := 11) (v := ?_) (by simp only [List.getElem?_toArray, List.getElem?_cons_succ, List.getElem?_cons_zero]; rfl) (by kernel_rfl) (by kernel_rfl) (by kernel_rfl) (by exact fun _ _ _ h => h) (Or.inl ⟨by rfl, ?_⟩) (by assumption) ?_; rotate_left; focus (intro w hSw; (try dsimp only at hSw); first | (go_simp; done) | (go_simp; with_reducible rfl))
    try simp only [Act.put, List.setIfInBounds_toArray, List.set_cons_zero, List.set_cons_succ]
    refine wpAnyH_ready (rs := [12]) (by kernel_rfl) (by simp) ?_
    refine AllReadyH.cons rfl (fun K hK => ?_) AllReadyH.nil
    rw [if_pos (by rfl)]
    go_simp
    go_at_call 75
    have kB := hHeld.2.2.2.2.2.2.2.2.2.2.2.2.2
    refine (implMinutesOn _ _ d p.segment s _ (Rd.out.below (B1.out.trans (kB.out.mono B1.out.size))) Nd.out (Nl.out s HX.out)).mono ?_
    rw [HMN.out]
    rintro e wq1_12 ⟨rfl, hbk⟩
    have HBK := kB.out.trans (hbk.mono kB.out.size)
    have QS := Lib.hid (show wq1_12.cell? ⟨w.heap.size, 0, none⟩ = some (.slice Ad0 d.points.length cd0) ∧ wq1_12.cell? ⟨w.heap.size, 1, none⟩ = some (.slice Ad1 d.segs.length cd1) ∧ wq1_12.cell? ⟨w.heap.size + 1, 0, none⟩ = some (.int .i64 (k : Int)) ∧ wq1_12.cell? ⟨w.heap.size + 1, 1, none⟩ = some (.int .i64 p.segment) ∧ wq1_12.cell? ⟨w.heap.size + 1, 2, none⟩ = some (.bool p.toward) ∧ wq1_12.cell? ⟨w.heap.size + 1, 3, none⟩ = some (.int .i64 p.start) ∧ wq1_12.cell? ⟨w.heap.size + 1, 4, none⟩ = some (.int .i64 p.stop) ∧ wq1_12.cell? ⟨g, o + k * 6, none⟩ = some (.string s.name) ∧ wq1_12.cell? ⟨g, o + k * 6 + 1, none⟩ = some (.int .i64 s.length) ∧ wq1_12.cell? ⟨g, o + k * 6 + 2, none⟩ = some (.int .i64 s.draught) ∧ wq1_12.cell? ⟨g, o + k * 6 + 3, none⟩ = some (.int .i64 s.line) ∧ wq1_12.cell? ⟨g, o + k * 6 + 4, none⟩ = some (.int .i64 s.tugs) ∧ wq1_12.cell? ⟨g, o + k * 6 + 5, none⟩ = some (.bool s.slow) ∧ Hid (Below wq0_26.heap.size wq0_26 wq1_12) from ⟨cell_onV Fd0.out HBK, cell_onV Fd1.out HBK, cell_onV Fp0.out HBK, cell_onV Fp1.out HBK, cell_onV Fp2.out HBK, cell_onV Fp3.out HBK, cell_onV Fp4.out HBK, cell_onV FY0b.out HBK, cell_onV FY1b.out HBK, cell_onV FY2b.out HBK, cell_onV FY3b.out HBK, cell_onV FY4b.out HBK, cell_onV FY5b.out HBK, Lib.hid HBK⟩)
    clear hbk kB hHeld HBK
    go_simp
    refine hK.out _ _ ?_ (fun hHeld => ?_)
    · (try dsimp only); exact QS.out
    clear hK K
    try simp only [Act.put, List.setIfInBounds_toArray, List.set_cons_zero, List.set_cons_succ]
    refine wpAnyH_take (i := 13) (v := ?_) (by simp only [List.getElem?_toArray, List.getElem?_cons_succ, List.getElem?_cons_zero]; rfl) (by kernel_rfl) (by kernel_rfl) (by kernel_rfl) (by exact fun _ _ _ h => h) (Or.inl ⟨by rfl, ?_⟩) (by assumption) ?_; rotate_left; focus (intro w hSw; (try dsimp only at hSw); first | (go_simp; done) | (go_simp; with_reducible rfl))
    try simp only [Act.put, List.setIfInBounds_toArray, List.set_cons_zero, List.set_cons_succ]
    refine wpAnyH_take (i := 14) (v := ?_) (by simp only [List.getElem?_toArray, List.getElem?_cons_succ, List.getElem?_cons_zero]; rfl) (by kernel_rfl) (by kernel_rfl) (by kernel_rfl) (by exact fun _ _ _ h => h) (Or.inl ⟨by rfl, ?_⟩) (by assumption) ?_; rotate_left; focus (intro w hSw; (try dsimp only at hSw); first | (go_simp; done) | (go_simp; with_reducible rfl))
    try simp only [Act.put, List.setIfInBounds_toArray, List.set_cons_zero, List.set_cons_succ]
    refine wpAnyH_take (i := 15) (v := ?_) (by simp only [List.getElem?_toArray, List.getElem?_cons_succ, List.getElem?_cons_zero]; rfl) (by kernel_rfl) (by kernel_rfl) (by kernel_rfl) (by exact fun _ _ _ h => h) (Or.inl ⟨by rfl, ?_⟩) (by assumption) ?_; rotate_left; focus (intro w hSw; (try dsimp only at hSw); first | (go_simp; done) | (go_simp; with_reducible rfl))
    try simp only [Act.put, List.setIfInBounds_toArray, List.set_cons_zero, List.set_cons_succ]
    refine wpAnyH_take (i := 16) (v := ?_) (by simp only [List.getElem?_toArray, List.getElem?_cons_succ, List.getElem?_cons_zero]; rfl) (by kernel_rfl) (by kernel_rfl) (by kernel_rfl) (by exact fun _ _ _ h => h) (Or.inl ⟨by rfl, ?_⟩) (by assumption) ?_; rotate_left; focus (intro w hSw; (try dsimp only at hSw); first | (go_simp; done) | (go_simp; with_reducible rfl))
    try simp only [Act.put, List.setIfInBounds_toArray, List.set_cons_zero, List.set_cons_succ]
    refine wpAnyH_take (i := 17) (v := ?_) (by simp only [List.getElem?_toArray, List.getElem?_cons_succ, List.getElem?_cons_zero]; rfl) (by kernel_rfl) (by kernel_rfl) (by kernel_rfl) (by exact fun _ _ _ h => h) (Or.inl ⟨by rfl, ?_⟩) (by assumption) ?_; rotate_left; focus (intro w hSw; (try dsimp only at hSw); first | (go_simp; done) | (go_simp; with_reducible rfl))
    try simp only [Act.put, List.setIfInBounds_toArray, List.set_cons_zero, List.set_cons_succ]
    refine wpAnyH_take (i := 18) (v := ?_) (by simp only [List.getElem?_toArray, List.getElem?_cons_succ, List.getElem?_cons_zero]; rfl) (by kernel_rfl) (by kernel_rfl) (by kernel_rfl) (by exact fun _ _ _ h => h) (Or.inl ⟨by rfl, ?_⟩) (by assumption) ?_; rotate_left; focus (intro w hSw; (try dsimp only at hSw); first | (go_simp; done) | (go_simp; with_reducible rfl))
    try simp only [Act.put, List.setIfInBounds_toArray, List.set_cons_zero, List.set_cons_succ]
    refine wpAnyH_take (i := 19) (v := ?_) (by simp only [List.getElem?_toArray, List.getElem?_cons_succ, List.getElem?_cons_zero]; rfl) (by kernel_rfl) (by kernel_rfl) (by kernel_rfl) (by exact fun _ _ _ h => h) (Or.inl ⟨by rfl, ?_⟩) (by assumption) ?_; rotate_left; focus (intro w hSw; (try dsimp only at hSw); first | (go_simp; done) | (go_simp; with_reducible rfl))
    try simp only [Act.put, List.setIfInBounds_toArray, List.set_cons_zero, List.set_cons_succ]
    refine wpAnyH_take (i := 20) (v := ?_) (by simp only [List.getElem?_toArray, List.getElem?_cons_succ, List.getElem?_cons_zero]; rfl) (by kernel_rfl) (by kernel_rfl) (by kernel_rfl) (by exact fun _ _ _ h => h) (Or.inl ⟨by rfl, ?_⟩) (by assumption) ?_; rotate_left; focus (intro w hSw; (try dsimp only at hSw); first | (go_simp; done) | (go_simp; with_reducible rfl))
    try simp only [Act.put, List.setIfInBounds_toArray, List.set_cons_zero, List.set_cons_succ]
    refine wpAnyH_done (by kernel_rfl) ?_ _
    go_wp2
    go_ret
    exact ⟨ret_bool (by rw [E1.out]; simp), B1.out.trans (hHeld.2.2.2.2.2.2.2.2.2.2.2.2.2.out.mono B1.out.size)⟩
end Go.Proofs.YtooeikimoheecaaGreat
