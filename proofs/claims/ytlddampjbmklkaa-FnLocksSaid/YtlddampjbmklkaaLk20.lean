
/- What LocksLaw rests on, part 20: contracts and mathematics. -/
import Derived.Test.YtlddampjbmklkaaLkTk
import Derived.Test.YtlddampjbmklkaaLk15
import Derived.Test.YtlddampjbmklkaaLk18
import Derived.Test.YtlddampjbmklkaaLk2
import Derived.Test.YtlddampjbmklkaaLk9
namespace Go.Proofs.Ytlddampjbmklkaa
open Go.RowKit
set_option maxRecDepth 100000
set_option maxHeartbeats 4000000 in
theorem implIsNext (k : ChamberD) (bs : Int) (bu : Bool) (bA : Option Addr) (bn bc : Nat) (gs : Int) (gu : Bool) (gA : Option Addr) (gn gc : Nat) (w : World) (h0 : 0 ≤ bs) (h1 : bs ≤ 2880) (m0 : 1 ≤ k.minutes) (m1 : k.minutes ≤ 120) :
    Calls Try.prog 48 #[k.val, .agg #[.int .i64 bs, .bool bu, .slice bA bn bc], .agg #[.int .i64 gs, .bool gu, .slice gA gn gc]] w fun e w' => e = .returned (.bool (decide (bs + k.minutes ≤ gs) && (gu != bu))) ∧ Below w.heap.size w w' := by
  have B := Lib.hid ((((Below.refl w.heap.size w).alloc (Nat.le_refl _) (.cells #[.int .i64 k.length, .int .i64 k.lanes, .int .i64 k.minutes] 24)).alloc (by simp) (.cells #[.int .i64 bs, .bool bu, .slice bA bn bc] 38)).alloc (by simp; omega) (.cells #[.int .i64 gs, .bool gu, .slice gA gn gc] 38))
  have wa : IntKind.i64.wrap (bs + k.minutes) = bs + k.minutes := by rw [IntKind.wrap_i64]; omega
  cases hu : (gu == bu) with
  | true =>
    have E := Lib.hid (show (decide (bs + k.minutes ≤ gs) && (gu != bu)) = false by rw [bne, hu]; simp)
    go_enter Try.func48, Try.ntmps48
    go_wp2
    go_ret
    exact ⟨ret_bool E.out.symm, B.out⟩
  | false =>
    obtain ⟨b, hb⟩ : ∃ b, decide (bs + k.minutes ≤ gs) = b := ⟨_, rfl⟩
    have E := Lib.hid (show (decide (bs + k.minutes ≤ gs) && (gu != bu)) = b by rw [bne, hu, hb]; simp)
    go_enter Try.func48, Try.ntmps48
    go_wp2
    go_ret
    exact ⟨ret_bool E.out.symm, B.out⟩
set_option maxHeartbeats 16000000 in
theorem implLockPlanOk (k : ChamberD) (yfl : Value) (fl : List ShipD) (yrows : Value) (rows : List LockR) (w : World) (rfl : SlShip w yfl fl) (rrows : RdLocks w yrows rows) (ffl : ∀ x ∈ fl, ShipD.wf x) (hn : (rows.length : Int) + bulkLock rows ≤ 9000000) :
    Calls Try.prog 14 #[k.val, yfl, yrows] w (fun e w' => e = .returned (.bool (lockPlanB k fl (rows.map LockR.d))) ∧ Below w.heap.size w w') := by
  have Rfl := Lib.hid rfl
  obtain ⟨Afl, cfl, rfl⟩ := SlOf.form rfl
  clear rfl
  have Nfl := Lib.hid ffl
  clear ffl
  have Rrows := Lib.hid rrows
  obtain ⟨Arows, crows, rfl⟩ := SlOf.form rrows.1
  clear rrows
  obtain ⟨W0, hW0⟩ : ∃ W0, W0 = (w.alloc (.cells #[.int .i64 k.length, .int .i64 k.lanes, .int .i64 k.minutes] 24)) := ⟨_, rfl⟩
  have B := Lib.hid (Joins.below_alloc1 w (.cells #[.int .i64 k.length, .int .i64 k.lanes, .int .i64 k.minutes] 24))
  have Kk := Lib.hid (Blk.new w #[.int .i64 k.length, .int .i64 k.lanes, .int .i64 k.minutes] 24)
  have HW0 := Lib.hid hW0
  rw [← hW0] at B Kk
  clear hW0
  have hfl := Rfl.out.1
  obtain ⟨l, hld⟩ : ∃ l, rows.map LockR.d = l := ⟨_, rfl⟩
  have HLD := Lib.hid hld
  obtain ⟨b1, hb1⟩ : ∃ b, chamB k = b := ⟨_, rfl⟩
  have Hb1 := Lib.hid hb1
  obtain ⟨b2, hb2⟩ : ∃ b, fleetB fl = b := ⟨_, rfl⟩
  have Hb2 := Lib.hid hb2
  obtain ⟨b3, hb3⟩ : ∃ b, decide (rows.length ≤ 12) = b := ⟨_, rfl⟩
  have Hb3 := Lib.hid hb3
  have E0 := Lib.hid (show lockPlanB k fl l = (b1 && b2 && b3 && planFrom k fl none l) by unfold lockPlanB; rw [hb1, hb2, ← hb3, ← hld, List.length_map])
  rw [hld]
  obtain ⟨m, hm⟩ : ∃ m, rows.length = m := ⟨_, rfl⟩
  have HM := Lib.hid hm
  rw [hm] at Hb3
  try rw [hm]
  clear hb1 hb2 hb3 hld hm
  cases b1 with
  | false =>
    have E := Lib.hid (E0.out.trans (show _ = false by simp))
    go_enter Try.func14, Try.ntmps14
    have vk0 : W0.cell? ⟨w.heap.size, 0, none⟩ = some (.int .i64 k.length) := Kk.out.cell 0
    have vk1 : W0.cell? ⟨w.heap.size, 1, none⟩ = some (.int .i64 k.lanes) := Kk.out.cell 1
    have vk2 : W0.cell? ⟨w.heap.size, 2, none⟩ = some (.int .i64 k.minutes) := Kk.out.cell 2
    go_wp2_with fail
    rw [← HW0.out]
    clear vk0 vk1 vk2
    refine (implChamberOk k _).mono ?_
    rw [Hb1.out]
    rintro e w1 ⟨rfl, hb1⟩
    have B1 := Lib.hid (B.out.trans (hb1.mono B.out.size))
    have Kk_1 := Lib.hid (Kk.out.below hb1)
    clear hb1
    go_wp2
    go_ret
    exact ⟨ret_bool E.out.symm, B1.out⟩
  | true =>
  cases b2 with
  | false =>
    have E := Lib.hid (E0.out.trans (show _ = false by simp))
    go_enter Try.func14, Try.ntmps14
    have vk0 : W0.cell? ⟨w.heap.size, 0, none⟩ = some (.int .i64 k.length) := Kk.out.cell 0
    have vk1 : W0.cell? ⟨w.heap.size, 1, none⟩ = some (.int .i64 k.lanes) := Kk.out.cell 1
    have vk2 : W0.cell? ⟨w.heap.size, 2, none⟩ = some (.int .i64 k.minutes) := Kk.out.cell 2
    go_wp2_with fail
    rw [← HW0.out]
    clear vk0 vk1 vk2
    refine (implChamberOk k _).mono ?_
    rw [Hb1.out]
    rintro e w1 ⟨rfl, hb1⟩
    have B1 := Lib.hid (B.out.trans (hb1.mono B.out.size))
    have Kk_1 := Lib.hid (Kk.out.below hb1)
    clear hb1
    have vk0 : w1.cell? ⟨w.heap.size, 0, none⟩ = some (.int .i64 k.length) := Kk_1.out.cell 0
    have vk1 : w1.cell? ⟨w.heap.size, 1, none⟩ = some (.int .i64 k.lanes) := Kk_1.out.cell 1
    have vk2 : w1.cell? ⟨w.heap.size, 2, none⟩ = some (.int .i64 k.minutes) := Kk_1.out.cell 2
    go_wp2_with fail
    clear vk0 vk1 vk2
    refine (implFleetOk _ fl _ (Rfl.out.below B1.out) Nfl.out).mono ?_
    rw [Hb2.out]
    rintro e w2 ⟨rfl, hb2⟩
    have B2 := Lib.hid (B1.out.trans (hb2.mono B1.out.size))
    have Kk_2 := Lib.hid (Kk_1.out.below hb2)
    clear hb2
    go_wp2
    go_ret
    exact ⟨ret_bool E.out.symm, B2.out⟩
  | true =>
  cases b3 with
  | false =>
    have E := Lib.hid (E0.out.trans (show _ = false by simp))
    go_enter Try.func14, Try.ntmps14
    have vk0 : W0.cell? ⟨w.heap.size, 0, none⟩ = some (.int .i64 k.length) := Kk.out.cell 0
    have vk1 : W0.cell? ⟨w.heap.size, 1, none⟩ = some (.int .i64 k.lanes) := Kk.out.cell 1
    have vk2 : W0.cell? ⟨w.heap.size, 2, none⟩ = some (.int .i64 k.minutes) := Kk.out.cell 2
    go_wp2_with fail
    rw [← HW0.out]
    clear vk0 vk1 vk2
    refine (implChamberOk k _).mono ?_
    rw [Hb1.out]
    rintro e w1 ⟨rfl, hb1⟩
    have B1 := Lib.hid (B.out.trans (hb1.mono B.out.size))
    have Kk_1 := Lib.hid (Kk.out.below hb1)
    clear hb1
    have vk0 : w1.cell? ⟨w.heap.size, 0, none⟩ = some (.int .i64 k.length) := Kk_1.out.cell 0
    have vk1 : w1.cell? ⟨w.heap.size, 1, none⟩ = some (.int .i64 k.lanes) := Kk_1.out.cell 1
    have vk2 : w1.cell? ⟨w.heap.size, 2, none⟩ = some (.int .i64 k.minutes) := Kk_1.out.cell 2
    go_wp2_with fail
    clear vk0 vk1 vk2
    refine (implFleetOk _ fl _ (Rfl.out.below B1.out) Nfl.out).mono ?_
    rw [Hb2.out]
    rintro e w2 ⟨rfl, hb2⟩
    have B2 := Lib.hid (B1.out.trans (hb2.mono B1.out.size))
    have Kk_2 := Lib.hid (Kk_1.out.below hb2)
    clear hb2
    have h12 : ¬ m ≤ 12 := of_decide_eq_false Hb3.out
    have g12 : decide ((12 : Int) < (m : Int)) = true := decide_eq_true (by omega)
    go_wp2
    go_ret
    exact ⟨ret_bool E.out.symm, B2.out⟩
  | true =>
  have h12 : m ≤ 12 := of_decide_eq_true Hb3.out
  have g12 : decide ((12 : Int) < (m : Int)) = false := decide_eq_false (by omega)
  have E1 := Lib.hid (E0.out.trans (show _ = planFrom k fl none l by simp))
  obtain ⟨kl0, kl1, ka0, ka1, km0, km1⟩ := chamB_true Hb1.out
  go_enter Try.func14, Try.ntmps14
  have vk0 : W0.cell? ⟨w.heap.size, 0, none⟩ = some (.int .i64 k.length) := Kk.out.cell 0
  have vk1 : W0.cell? ⟨w.heap.size, 1, none⟩ = some (.int .i64 k.lanes) := Kk.out.cell 1
  have vk2 : W0.cell? ⟨w.heap.size, 2, none⟩ = some (.int .i64 k.minutes) := Kk.out.cell 2
  go_wp2_with fail
  rw [← HW0.out]
  clear vk0 vk1 vk2
  refine (implChamberOk k _).mono ?_
  rw [Hb1.out]
  rintro e w1 ⟨rfl, hb1⟩
  have B1 := Lib.hid (B.out.trans (hb1.mono B.out.size))
  have Kk_1 := Lib.hid (Kk.out.below hb1)
  clear hb1
  have vk0 : w1.cell? ⟨w.heap.size, 0, none⟩ = some (.int .i64 k.length) := Kk_1.out.cell 0
  have vk1 : w1.cell? ⟨w.heap.size, 1, none⟩ = some (.int .i64 k.lanes) := Kk_1.out.cell 1
  have vk2 : w1.cell? ⟨w.heap.size, 2, none⟩ = some (.int .i64 k.minutes) := Kk_1.out.cell 2
  go_wp2_with fail
  clear vk0 vk1 vk2
  refine (implFleetOk _ fl _ (Rfl.out.below B1.out) Nfl.out).mono ?_
  rw [Hb2.out]
  rintro e w2 ⟨rfl, hb2⟩
  have B2 := Lib.hid (B1.out.trans (hb2.mono B1.out.size))
  have Kk_2 := Lib.hid (Kk_1.out.below hb2)
  clear hb2
  go_wp2
  go_loopw [24] (fun t wr => ∃ i : Nat, i ≤ m ∧ t = .int .i64 (i : Int) ∧ Hid (PlanTo k fl l i) ∧ Hid (Below w2.heap.size w2 wr)) (fun t _ => m - (intOf t).toNat)
  case atStart => exact ⟨0, Nat.zero_le _, rfl, Lib.hid (PlanTo.zero _ _ _), Lib.hid (Below.refl _ _)⟩
  case round =>
    obtain ⟨i, hi, rfl, hT, hb⟩ := hrel
    have BR := Lib.hid (B2.out.trans (hb.out.mono B2.out.size))
    have hzs := hb.out.size
    by_cases hlt : i < m
    rotate_left
    · obtain rfl : i = m := by omega
      have E := Lib.hid (E1.out.trans (PlanTo.all (by rw [← HLD.out, List.length_map, HM.out, HLD.out]; exact hT.out)))
      go_wp2
      go_ret
      exact ⟨ret_bool E.out.symm, BR.out⟩
    obtain ⟨x, hx⟩ : ∃ x, rows[i]? = some x := ⟨_, List.getElem?_eq_getElem (by have := HM.out; omega)⟩
    have HXD := Lib.hid (show l[i]? = some x.d by rw [← HLD.out]; exact lockD_at hx)
    have hxin := Rrows.out.2 x (List.mem_of_getElem? hx)
    obtain ⟨Ax, cx, hxv⟩ := hxin.at
    rw [hxv] at hxin
    have HXI := Lib.hid hxin
    have HXL := Lib.hid (show x.ships.length ≤ 9000000 by have := bulkLock_mem (List.mem_of_getElem? hx); omega)
    obtain ⟨j, hj⟩ : ∃ j, j = i - 1 := ⟨_, rfl⟩
    obtain ⟨z, hz⟩ : ∃ z, rows[j]? = some z := ⟨_, List.getElem?_eq_getElem (by have := HM.out; omega)⟩
    have HZD := Lib.hid (show l[j]? = some z.d by rw [← HLD.out]; exact lockD_at hz)
    obtain ⟨Az, cz, hzv⟩ := (Rrows.out.2 z (List.mem_of_getElem? hz)).at
    obtain ⟨nz, hnz⟩ : ∃ n, z.ships.length = n := ⟨_, rfl⟩
    rw [hnz] at hzv
    rcases Rrows.out.1.2 with ⟨he, _⟩ | ⟨gl, ol, cl', e, lpos, lcap, lc⟩
    · rw [he] at hx; simp at hx
    injection e with ea e2 e3
    subst ea
    clear e2 e3 lpos lcap
    obtain ⟨p0, p1, p2⟩ := LockR.at lc i x hx
    obtain ⟨q0, q1, q2⟩ := LockR.at lc j z hz
    rw [hxv] at p2
    rw [hzv] at q2
    have y0 := cell_onV p0 BR.out
    have y1 := cell_onV p1 BR.out
    have y2 := cell_onV p2 BR.out
    have ZQ0 := Lib.hid q0
    have ZQ1 := Lib.hid q1
    have ZQ2 := Lib.hid q2
    clear p0 p1 p2 q0 q1 q2 lc hx hz hxv hzv hnz hxin
    go_upto_region 6 with fail
    have BL := Joins.below_alloc1 wr (.cells #[.int .i64 x.start, .bool x.up, .slice Ax x.ships.length cx] 38)
    have KN := Blk.new wr #[.int .i64 x.start, .bool x.up, .slice Ax x.ships.length cx] 38
    obtain ⟨w6, hw6⟩ : ∃ w6, w6 = wr.alloc (.cells #[.int .i64 x.start, .bool x.up, .slice Ax x.ships.length cx] 38) := ⟨_, rfl⟩
    rw [← hw6] at BL KN ⊢
    have B6 := Lib.hid (BR.out.trans (BL.mono BR.out.size))
    have Kk_6 := Lib.hid ((Kk_2.out.below hb.out).below BL)
    have KP := Lib.hid KN
    have hb6 := Lib.hid (hb.out.trans (BL.mono hb.out.size))
    have HXI6 := Lib.hid (HXI.out.below B6.out)
    clear hw6 BL KN y0 y1 y2 hb hzs
    have FP0 := Lib.hid (show w6.cell? ⟨wr.heap.size, 0, none⟩ = some (.int .i64 x.start) from KP.out.cell 0)
    have FP1 := Lib.hid (show w6.cell? ⟨wr.heap.size, 1, none⟩ = some (.bool x.up) from KP.out.cell 1)
    have FP2 := Lib.hid (show w6.cell? ⟨wr.heap.size, 2, none⟩ = some (.slice Ax x.ships.length cx) from KP.out.cell 2)
    have FQ0 := Lib.hid (show w6.cell? ⟨gl, ol + j * 3, none⟩ = some (.int .i64 z.start) from cell_onV ZQ0.out B6.out)
    have FQ1 := Lib.hid (show w6.cell? ⟨gl, ol + j * 3 + 1, none⟩ = some (.bool z.up) from cell_onV ZQ1.out B6.out)
    have FQ2 := Lib.hid (show w6.cell? ⟨gl, ol + j * 3 + 2, none⟩ = some (.slice Az nz cz) from cell_onV ZQ2.out B6.out)
    obtain ⟨bi, hbi⟩ : ∃ b, inB x.start 0 2880 = b := ⟨_, rfl⟩
    have HBI := Lib.hid hbi
    obtain ⟨bf, hbf⟩ : ∃ b, fitsO k fl x.ships = b := ⟨_, rfl⟩
    have HBF := Lib.hid hbf
    clear hbi hbf
    have EF := Lib.hid (show lockB k fl x.d (prevL l i) = (turnB k x.d (prevL l i) && fitsO k fl x.ships) from rfl)
    have ET := Lib.hid (show inB x.start 0 2880 = false → turnB k x.d (prevL l i) = false from fun h => by unfold turnB; rw [show x.d.start = x.start from rfl, h]; rfl)
    cases bi with
    | false =>
      have E := Lib.hid (E1.out.trans (hT.out.no HXD.out (EF.out.trans (by rw [ET.out HBI.out]; rfl))))
      have Fk0 := Lib.hid (show w6.cell? ⟨w.heap.size, 0, none⟩ = some (.int .i64 k.length) from Kk_6.out.cell 0)
      have Fk1 := Lib.hid (show w6.cell? ⟨w.heap.size, 1, none⟩ = some (.int .i64 k.lanes) from Kk_6.out.cell 1)
      have Fk2 := Lib.hid (show w6.cell? ⟨w.heap.size, 2, none⟩ = some (.int .i64 k.minutes) from Kk_6.out.cell 2)
      have DD := Lib.hid ((Below.refl w6.heap.size w6).drew)
      have vFk0 := Fk0.out
      have vFk1 := Fk1.out
      have vFk2 := Fk2.out
      have vFP0 := FP0.out
      have vFP1 := FP1.out
      have vFP2 := FP2.out
      refine wp_region_held_drew (S := (fun w' => w'.cell? ⟨w.heap.size, 0, none⟩ = some (.int .i64 k.length) ∧ w'.cell? ⟨w.heap.size, 1, none⟩ = some (.int .i64 k.lanes) ∧ w'.cell? ⟨w.heap.size, 2, none⟩ = some (.int .i64 k.minutes) ∧ w'.cell? ⟨wr.heap.size, 0, none⟩ = some (.int .i64 x.start) ∧ w'.cell? ⟨wr.heap.size, 1, none⟩ = some (.bool x.up) ∧ w'.cell? ⟨wr.heap.size, 2, none⟩ = some (.slice Ax x.ships.length cx) ∧ Hid (Below w6.heap.size w6 w'))) (by kernel_rfl) ?_ (fun hHeld => ?_)
      · (try dsimp only); go_keep
      refine tk 0 ?_
      refine tk 1 ?_
      refine wpAnyH_ready (rs := [2]) (by kernel_rfl) (by simp) ?_
      refine AllReadyH.cons rfl (fun K hK => ?_) AllReadyH.nil
      rw [if_pos (by rfl)]
      go_simp
      go_at_call 43
      have kB := hHeld.2.2.2.2.2.2
      refine ((isMinute_any _ _)).mono ?_
      rw [HBI.out]
      rintro e wq6_2 ⟨rfl, hbk1⟩
      have hbk := below_eq hbk1
      have HBK := kB.out.trans (hbk.mono kB.out.size)
      have QS := Lib.hid (show wq6_2.cell? ⟨w.heap.size, 0, none⟩ = some (.int .i64 k.length) ∧ wq6_2.cell? ⟨w.heap.size, 1, none⟩ = some (.int .i64 k.lanes) ∧ wq6_2.cell? ⟨w.heap.size, 2, none⟩ = some (.int .i64 k.minutes) ∧ wq6_2.cell? ⟨wr.heap.size, 0, none⟩ = some (.int .i64 x.start) ∧ wq6_2.cell? ⟨wr.heap.size, 1, none⟩ = some (.bool x.up) ∧ wq6_2.cell? ⟨wr.heap.size, 2, none⟩ = some (.slice Ax x.ships.length cx) ∧ Hid (Below w6.heap.size w6 wq6_2) from ⟨cell_onV Fk0.out HBK, cell_onV Fk1.out HBK, cell_onV Fk2.out HBK, cell_onV FP0.out HBK, cell_onV FP1.out HBK, cell_onV FP2.out HBK, Lib.hid HBK⟩)
      clear hbk kB hHeld HBK
      go_simp
      refine hK.out _ _ ?_ (fun hHeld => ?_)
      · (try dsimp only); exact QS.out
      clear hK K
      try simp only [Act.put, List.setIfInBounds_toArray, List.set_cons_zero, List.set_cons_succ]
      refine tk 3 ?_
      refine tk 4 ?_
      refine tku 5 ?_
      refine tku 6 ?_
      refine tku 7 ?_
      refine tku 8 ?_
      refine tku 9 ?_
      refine tku 10 ?_
      refine tk 11 ?_
      refine tk 12 ?_
      refine tku 13 ?_
      refine tku 14 ?_
      refine tku 15 ?_
      refine tku 16 ?_
      refine tku 17 ?_
      refine tku 18 ?_
      refine tku 19 ?_
      refine tku 20 ?_
      refine tku 21 ?_
      refine tku 22 ?_
      refine tku 23 ?_
      refine tku 24 ?_
      refine tku 25 ?_
      refine tk 26 ?_
      refine wpAnyH_done (by kernel_rfl) ?_ _
      go_wp2
      go_ret
      exact ⟨ret_bool E.out.symm, B6.out.trans (hHeld.2.2.2.2.2.2.out.mono B6.out.size)⟩
    | true =>
    cases bf with
    | false =>
      have E := Lib.hid (E1.out.trans (hT.out.no HXD.out (EF.out.trans (by rw [HBF.out, Bool.and_false]))))
      have Fk0 := Lib.hid (show w6.cell? ⟨w.heap.size, 0, none⟩ = some (.int .i64 k.length) from Kk_6.out.cell 0)
      have Fk1 := Lib.hid (show w6.cell? ⟨w.heap.size, 1, none⟩ = some (.int .i64 k.lanes) from Kk_6.out.cell 1)
      have Fk2 := Lib.hid (show w6.cell? ⟨w.heap.size, 2, none⟩ = some (.int .i64 k.minutes) from Kk_6.out.cell 2)
      have DD := Lib.hid ((Below.refl w6.heap.size w6).drew)
      have vFk0 := Fk0.out
      have vFk1 := Fk1.out
      have vFk2 := Fk2.out
      have vFP0 := FP0.out
      have vFP1 := FP1.out
      have vFP2 := FP2.out
      refine wp_region_held_drew (S := (fun w' => w'.cell? ⟨w.heap.size, 0, none⟩ = some (.int .i64 k.length) ∧ w'.cell? ⟨w.heap.size, 1, none⟩ = some (.int .i64 k.lanes) ∧ w'.cell? ⟨w.heap.size, 2, none⟩ = some (.int .i64 k.minutes) ∧ w'.cell? ⟨wr.heap.size, 0, none⟩ = some (.int .i64 x.start) ∧ w'.cell? ⟨wr.heap.size, 1, none⟩ = some (.bool x.up) ∧ w'.cell? ⟨wr.heap.size, 2, none⟩ = some (.slice Ax x.ships.length cx) ∧ Hid (Below w6.heap.size w6 w'))) (by kernel_rfl) ?_ (fun hHeld => ?_)
      · (try dsimp only); go_keep
      refine tk 0 ?_
      refine tk 1 ?_
      refine wpAnyH_ready (rs := [2]) (by kernel_rfl) (by simp) ?_
      refine AllReadyH.cons rfl (fun K hK => ?_) AllReadyH.nil
      rw [if_pos (by rfl)]
      go_simp
      go_at_call 43
      have kB := hHeld.2.2.2.2.2.2
      refine ((isMinute_any _ _)).mono ?_
      rw [HBI.out]
      rintro e wq6_2 ⟨rfl, hbk1⟩
      have hbk := below_eq hbk1
      have HBK := kB.out.trans (hbk.mono kB.out.size)
      have QS := Lib.hid (show wq6_2.cell? ⟨w.heap.size, 0, none⟩ = some (.int .i64 k.length) ∧ wq6_2.cell? ⟨w.heap.size, 1, none⟩ = some (.int .i64 k.lanes) ∧ wq6_2.cell? ⟨w.heap.size, 2, none⟩ = some (.int .i64 k.minutes) ∧ wq6_2.cell? ⟨wr.heap.size, 0, none⟩ = some (.int .i64 x.start) ∧ wq6_2.cell? ⟨wr.heap.size, 1, none⟩ = some (.bool x.up) ∧ wq6_2.cell? ⟨wr.heap.size, 2, none⟩ = some (.slice Ax x.ships.length cx) ∧ Hid (Below w6.heap.size w6 wq6_2) from ⟨cell_onV Fk0.out HBK, cell_onV Fk1.out HBK, cell_onV Fk2.out HBK, cell_onV FP0.out HBK, cell_onV FP1.out HBK, cell_onV FP2.out HBK, Lib.hid HBK⟩)
      clear hbk kB hHeld HBK
      go_simp
      refine hK.out _ _ ?_ (fun hHeld => ?_)
      · (try dsimp only); exact QS.out
      clear hK K
      try simp only [Act.put, List.setIfInBounds_toArray, List.set_cons_zero, List.set_cons_succ]
      refine tk 3 ?_
      refine tk 4 ?_
      refine tk 5 ?_
      refine tk 6 ?_
      refine tk 7 ?_
      refine tk 8 ?_
      refine wpAnyH_ready (rs := [9]) (by kernel_rfl) (by simp) ?_
      refine AllReadyH.cons rfl (fun K hK => ?_) AllReadyH.nil
      rw [if_pos (by rfl)]
      go_simp
      go_at_call 47
      have kB := hHeld.2.2.2.2.2.2
      refine ((implCanLock k _ _ fl x.ships _ (Rfl.out.below (B6.out.trans (kB.out.mono B6.out.size))) (HXI6.out.below kB.out) HXL.out)).mono ?_
      rw [HBF.out]
      rintro e wq6_9 ⟨rfl, hbk⟩
      have HBK := kB.out.trans (hbk.mono kB.out.size)
      have QS := Lib.hid (show wq6_9.cell? ⟨w.heap.size, 0, none⟩ = some (.int .i64 k.length) ∧ wq6_9.cell? ⟨w.heap.size, 1, none⟩ = some (.int .i64 k.lanes) ∧ wq6_9.cell? ⟨w.heap.size, 2, none⟩ = some (.int .i64 k.minutes) ∧ wq6_9.cell? ⟨wr.heap.size, 0, none⟩ = some (.int .i64 x.start) ∧ wq6_9.cell? ⟨wr.heap.size, 1, none⟩ = some (.bool x.up) ∧ wq6_9.cell? ⟨wr.heap.size, 2, none⟩ = some (.slice Ax x.ships.length cx) ∧ Hid (Below w6.heap.size w6 wq6_9) from ⟨cell_onV Fk0.out HBK, cell_onV Fk1.out HBK, cell_onV Fk2.out HBK, cell_onV FP0.out HBK, cell_onV FP1.out HBK, cell_onV FP2.out HBK, Lib.hid HBK⟩)
      clear hbk kB hHeld HBK
      go_simp
      refine hK.out _ _ ?_ (fun hHeld => ?_)
      · (try dsimp only); exact QS.out
      clear hK K
      try simp only [Act.put, List.setIfInBounds_toArray, List.set_cons_zero, List.set_cons_succ]
      refine tk 10 ?_
      refine tk 11 ?_
      refine tk 12 ?_
      refine tku 13 ?_
      refine tku 14 ?_
      refine tku 15 ?_
      refine tku 16 ?_
      refine tku 17 ?_
      refine tku 18 ?_
      refine tku 19 ?_
      refine tku 20 ?_
      refine tku 21 ?_
      refine tku 22 ?_
      refine tku 23 ?_
      refine tku 24 ?_
      refine tku 25 ?_
      refine tk 26 ?_
      refine wpAnyH_done (by kernel_rfl) ?_ _
      go_wp2
      go_ret
      exact ⟨ret_bool E.out.symm, B6.out.trans (hHeld.2.2.2.2.2.2.out.mono B6.out.size)⟩
    | true =>
    by_cases hi0 : i = 0
    · subst hi0
      skip
      have Fk0 := Lib.hid (show w6.cell? ⟨w.heap.size, 0, none⟩ = some (.int .i64 k.length) from Kk_6.out.cell 0)
      have Fk1 := Lib.hid (show w6.cell? ⟨w.heap.size, 1, none⟩ = some (.int .i64 k.lanes) from Kk_6.out.cell 1)
      have Fk2 := Lib.hid (show w6.cell? ⟨w.heap.size, 2, none⟩ = some (.int .i64 k.minutes) from Kk_6.out.cell 2)
      have DD := Lib.hid ((Below.refl w6.heap.size w6).drew)
      have vFk0 := Fk0.out
      have vFk1 := Fk1.out
      have vFk2 := Fk2.out
      have vFP0 := FP0.out
      have vFP1 := FP1.out
      have vFP2 := FP2.out
      refine wp_region_held_drew (S := (fun w' => w'.cell? ⟨w.heap.size, 0, none⟩ = some (.int .i64 k.length) ∧ w'.cell? ⟨w.heap.size, 1, none⟩ = some (.int .i64 k.lanes) ∧ w'.cell? ⟨w.heap.size, 2, none⟩ = some (.int .i64 k.minutes) ∧ w'.cell? ⟨wr.heap.size, 0, none⟩ = some (.int .i64 x.start) ∧ w'.cell? ⟨wr.heap.size, 1, none⟩ = some (.bool x.up) ∧ w'.cell? ⟨wr.heap.size, 2, none⟩ = some (.slice Ax x.ships.length cx) ∧ Hid (Below w6.heap.size w6 w'))) (by kernel_rfl) ?_ (fun hHeld => ?_)
      · (try dsimp only); go_keep
      refine tk 0 ?_
      refine tk 1 ?_
      refine wpAnyH_ready (rs := [2]) (by kernel_rfl) (by simp) ?_
      refine AllReadyH.cons rfl (fun K hK => ?_) AllReadyH.nil
      rw [if_pos (by rfl)]
      go_simp
      go_at_call 43
      have kB := hHeld.2.2.2.2.2.2
      refine ((isMinute_any _ _)).mono ?_
      rw [HBI.out]
      rintro e wq6_2 ⟨rfl, hbk1⟩
      have hbk := below_eq hbk1
      have HBK := kB.out.trans (hbk.mono kB.out.size)
      have QS := Lib.hid (show wq6_2.cell? ⟨w.heap.size, 0, none⟩ = some (.int .i64 k.length) ∧ wq6_2.cell? ⟨w.heap.size, 1, none⟩ = some (.int .i64 k.lanes) ∧ wq6_2.cell? ⟨w.heap.size, 2, none⟩ = some (.int .i64 k.minutes) ∧ wq6_2.cell? ⟨wr.heap.size, 0, none⟩ = some (.int .i64 x.start) ∧ wq6_2.cell? ⟨wr.heap.size, 1, none⟩ = some (.bool x.up) ∧ wq6_2.cell? ⟨wr.heap.size, 2, none⟩ = some (.slice Ax x.ships.length cx) ∧ Hid (Below w6.heap.size w6 wq6_2) from ⟨cell_onV Fk0.out HBK, cell_onV Fk1.out HBK, cell_onV Fk2.out HBK, cell_onV FP0.out HBK, cell_onV FP1.out HBK, cell_onV FP2.out HBK, Lib.hid HBK⟩)
      clear hbk kB hHeld HBK
      go_simp
      refine hK.out _ _ ?_ (fun hHeld => ?_)
      · (try dsimp only); exact QS.out
      clear hK K
      try simp only [Act.put, List.setIfInBounds_toArray, List.set_cons_zero, List.set_cons_succ]
      refine tk 3 ?_
      refine tk 4 ?_
      refine tk 5 ?_
      refine tk 6 ?_
      refine tk 7 ?_
      refine tk 8 ?_
      refine wpAnyH_ready (rs := [9]) (by kernel_rfl) (by simp) ?_
      refine AllReadyH.cons rfl (fun K hK => ?_) AllReadyH.nil
      rw [if_pos (by rfl)]
      go_simp
      go_at_call 47
      have kB := hHeld.2.2.2.2.2.2
      refine ((implCanLock k _ _ fl x.ships _ (Rfl.out.below (B6.out.trans (kB.out.mono B6.out.size))) (HXI6.out.below kB.out) HXL.out)).mono ?_
      rw [HBF.out]
      rintro e wq6_9 ⟨rfl, hbk⟩
      have HBK := kB.out.trans (hbk.mono kB.out.size)
      have QS := Lib.hid (show wq6_9.cell? ⟨w.heap.size, 0, none⟩ = some (.int .i64 k.length) ∧ wq6_9.cell? ⟨w.heap.size, 1, none⟩ = some (.int .i64 k.lanes) ∧ wq6_9.cell? ⟨w.heap.size, 2, none⟩ = some (.int .i64 k.minutes) ∧ wq6_9.cell? ⟨wr.heap.size, 0, none⟩ = some (.int .i64 x.start) ∧ wq6_9.cell? ⟨wr.heap.size, 1, none⟩ = some (.bool x.up) ∧ wq6_9.cell? ⟨wr.heap.size, 2, none⟩ = some (.slice Ax x.ships.length cx) ∧ Hid (Below w6.heap.size w6 wq6_9) from ⟨cell_onV Fk0.out HBK, cell_onV Fk1.out HBK, cell_onV Fk2.out HBK, cell_onV FP0.out HBK, cell_onV FP1.out HBK, cell_onV FP2.out HBK, Lib.hid HBK⟩)
      clear hbk kB hHeld HBK
      go_simp
      refine hK.out _ _ ?_ (fun hHeld => ?_)
      · (try dsimp only); exact QS.out
      clear hK K
      try simp only [Act.put, List.setIfInBounds_toArray, List.set_cons_zero, List.set_cons_succ]
      refine tk 10 ?_
      refine tk 11 ?_
      refine tk 12 ?_
      refine tk 13 ?_
      refine tk 14 ?_
      refine tk 15 ?_
      refine tku 16 ?_
      refine tku 17 ?_
      refine tku 18 ?_
      refine tku 19 ?_
      refine tku 20 ?_
      refine tku 21 ?_
      refine tku 22 ?_
      refine tku 23 ?_
      refine tku 24 ?_
      refine tk 25 ?_
      refine tk 26 ?_
      refine wpAnyH_done (by kernel_rfl) ?_ _
      have TN := Lib.hid (hT.out.next HXD.out ((lockB_first k fl x.d).trans (by rw [show x.d.start = x.start from rfl, show x.d.ships = x.ships from rfl, HBI.out, HBF.out]; rfl)))
      have BK := Lib.hid hHeld.2.2.2.2.2.2.out
      have hb7 := Lib.hid (hb6.out.trans (BK.out.mono hb6.out.size))
      clear BK hHeld DD
      go_wp2
      go_roundw
      case rel => exact ⟨1, by omega, by go_num, TN, hb7⟩
      case measure => simp [intOf]; omega
    · have EL := Lib.hid (show lockB k fl x.d (prevL l i) = (inB x.start 0 2880 && (decide (z.start + k.minutes ≤ x.start) && (x.up != z.up)) && fitsO k fl x.ships) by
        have e : prevL l i = some z.d := by rw [show i = j + 1 by omega]; exact HZD.out
        rw [e]; exact lockB_next k fl x.d z.d)
      obtain ⟨zs0, zs1⟩ : 0 ≤ z.start ∧ z.start ≤ 2880 := hT.out.start z.d (by rw [show i = j + 1 by omega]; exact HZD.out)
      have wj : IntKind.i64.wrap ((i : Int) - 1) = (j : Int) := by rw [IntKind.wrap_i64]; omega
      have gn : 0 < i := by omega
      have gi : decide (0 < i) = true := decide_eq_true gn
      have hjl : j < m := by omega
      clear hj
      obtain ⟨bn, hbn⟩ : ∃ b, (decide (z.start + k.minutes ≤ x.start) && (x.up != z.up)) = b := ⟨_, rfl⟩
      have HBN := Lib.hid hbn
      clear hbn
      cases bn with
      | false =>
        have E := Lib.hid (E1.out.trans (hT.out.no HXD.out (EL.out.trans (by rw [HBN.out, HBI.out]; rfl))))
        have Fk0 := Lib.hid (show w6.cell? ⟨w.heap.size, 0, none⟩ = some (.int .i64 k.length) from Kk_6.out.cell 0)
        have Fk1 := Lib.hid (show w6.cell? ⟨w.heap.size, 1, none⟩ = some (.int .i64 k.lanes) from Kk_6.out.cell 1)
        have Fk2 := Lib.hid (show w6.cell? ⟨w.heap.size, 2, none⟩ = some (.int .i64 k.minutes) from Kk_6.out.cell 2)
        have DD := Lib.hid ((Below.refl w6.heap.size w6).drew)
        have vFk0 := Fk0.out
        have vFk1 := Fk1.out
        have vFk2 := Fk2.out
        have vFP0 := FP0.out
        have vFP1 := FP1.out
        have vFP2 := FP2.out
        have vFQ0 := FQ0.out
        have vFQ1 := FQ1.out
        have vFQ2 := FQ2.out
        refine wp_region_held_drew (S := (fun w' => w'.cell? ⟨w.heap.size, 0, none⟩ = some (.int .i64 k.length) ∧ w'.cell? ⟨w.heap.size, 1, none⟩ = some (.int .i64 k.lanes) ∧ w'.cell? ⟨w.heap.size, 2, none⟩ = some (.int .i64 k.minutes) ∧ w'.cell? ⟨wr.heap.size, 0, none⟩ = some (.int .i64 x.start) ∧ w'.cell? ⟨wr.heap.size, 1, none⟩ = some (.bool x.up) ∧ w'.cell? ⟨wr.heap.size, 2, none⟩ = some (.slice Ax x.ships.length cx) ∧ w'.cell? ⟨gl, ol + j * 3, none⟩ = some (.int .i64 z.start) ∧ w'.cell? ⟨gl, ol + j * 3 + 1, none⟩ = some (.bool z.up) ∧ w'.cell? ⟨gl, ol + j * 3 + 2, none⟩ = some (.slice Az nz cz) ∧ Hid (Below w6.heap.size w6 w'))) (by kernel_rfl) ?_ (fun hHeld => ?_)
        · (try dsimp only); go_keep
        refine tk 0 ?_
        refine tk 1 ?_
        refine wpAnyH_ready (rs := [2]) (by kernel_rfl) (by simp) ?_
        refine AllReadyH.cons rfl (fun K hK => ?_) AllReadyH.nil
        rw [if_pos (by rfl)]
        go_simp
        go_at_call 43
        have kB := hHeld.2.2.2.2.2.2.2.2.2
        refine ((isMinute_any _ _)).mono ?_
        rw [HBI.out]
        rintro e wq6_2 ⟨rfl, hbk1⟩
        have hbk := below_eq hbk1
        have HBK := kB.out.trans (hbk.mono kB.out.size)
        have QS := Lib.hid (show wq6_2.cell? ⟨w.heap.size, 0, none⟩ = some (.int .i64 k.length) ∧ wq6_2.cell? ⟨w.heap.size, 1, none⟩ = some (.int .i64 k.lanes) ∧ wq6_2.cell? ⟨w.heap.size, 2, none⟩ = some (.int .i64 k.minutes) ∧ wq6_2.cell? ⟨wr.heap.size, 0, none⟩ = some (.int .i64 x.start) ∧ wq6_2.cell? ⟨wr.heap.size, 1, none⟩ = some (.bool x.up) ∧ wq6_2.cell? ⟨wr.heap.size, 2, none⟩ = some (.slice Ax x.ships.length cx) ∧ wq6_2.cell? ⟨gl, ol + j * 3, none⟩ = some (.int .i64 z.start) ∧ wq6_2.cell? ⟨gl, ol + j * 3 + 1, none⟩ = some (.bool z.up) ∧ wq6_2.cell? ⟨gl, ol + j * 3 + 2, none⟩ = some (.slice Az nz cz) ∧ Hid (Below w6.heap.size w6 wq6_2) from ⟨cell_onV Fk0.out HBK, cell_onV Fk1.out HBK, cell_onV Fk2.out HBK, cell_onV FP0.out HBK, cell_onV FP1.out HBK, cell_onV FP2.out HBK, cell_onV FQ0.out HBK, cell_onV FQ1.out HBK, cell_onV FQ2.out HBK, Lib.hid HBK⟩)
        clear hbk kB hHeld HBK
        go_simp
        refine hK.out _ _ ?_ (fun hHeld => ?_)
        · (try dsimp only); exact QS.out
        clear hK K
        try simp only [Act.put, List.setIfInBounds_toArray, List.set_cons_zero, List.set_cons_succ]
        refine tk 3 ?_
        refine tk 4 ?_
        refine tk 5 ?_
        refine tk 6 ?_
        refine tk 7 ?_
        refine tk 8 ?_
        refine wpAnyH_ready (rs := [9]) (by kernel_rfl) (by simp) ?_
        refine AllReadyH.cons rfl (fun K hK => ?_) AllReadyH.nil
        rw [if_pos (by rfl)]
        go_simp
        go_at_call 47
        have kB := hHeld.2.2.2.2.2.2.2.2.2
        refine ((implCanLock k _ _ fl x.ships _ (Rfl.out.below (B6.out.trans (kB.out.mono B6.out.size))) (HXI6.out.below kB.out) HXL.out)).mono ?_
        rw [HBF.out]
        rintro e wq6_9 ⟨rfl, hbk⟩
        have HBK := kB.out.trans (hbk.mono kB.out.size)
        have QS := Lib.hid (show wq6_9.cell? ⟨w.heap.size, 0, none⟩ = some (.int .i64 k.length) ∧ wq6_9.cell? ⟨w.heap.size, 1, none⟩ = some (.int .i64 k.lanes) ∧ wq6_9.cell? ⟨w.heap.size, 2, none⟩ = some (.int .i64 k.minutes) ∧ wq6_9.cell? ⟨wr.heap.size, 0, none⟩ = some (.int .i64 x.start) ∧ wq6_9.cell? ⟨wr.heap.size, 1, none⟩ = some (.bool x.up) ∧ wq6_9.cell? ⟨wr.heap.size, 2, none⟩ = some (.slice Ax x.ships.length cx) ∧ wq6_9.cell? ⟨gl, ol + j * 3, none⟩ = some (.int .i64 z.start) ∧ wq6_9.cell? ⟨gl, ol + j * 3 + 1, none⟩ = some (.bool z.up) ∧ wq6_9.cell? ⟨gl, ol + j * 3 + 2, none⟩ = some (.slice Az nz cz) ∧ Hid (Below w6.heap.size w6 wq6_9) from ⟨cell_onV Fk0.out HBK, cell_onV Fk1.out HBK, cell_onV Fk2.out HBK, cell_onV FP0.out HBK, cell_onV FP1.out HBK, cell_onV FP2.out HBK, cell_onV FQ0.out HBK, cell_onV FQ1.out HBK, cell_onV FQ2.out HBK, Lib.hid HBK⟩)
        clear hbk kB hHeld HBK
        go_simp
        refine hK.out _ _ ?_ (fun hHeld => ?_)
        · (try dsimp only); exact QS.out
        clear hK K
        try simp only [Act.put, List.setIfInBounds_toArray, List.set_cons_zero, List.set_cons_succ]
        refine tk 10 ?_
        refine tk 11 ?_
        refine tk 12 ?_
        refine tk 13 ?_
        refine tk 14 ?_
        refine tk 15 ?_
        refine tk 16 ?_
        refine tk 17 ?_
        refine tk 18 ?_
        refine tk 19 ?_
        refine tk 20 ?_
        refine tk 21 ?_
        refine tk 22 ?_
        refine wpAnyH_ready (rs := [23]) (by kernel_rfl) (by simp) ?_
        refine AllReadyH.cons rfl (fun K hK => ?_) AllReadyH.nil
        rw [if_pos (by rfl)]
        go_simp
        go_at_call 48
        have kB := hHeld.2.2.2.2.2.2.2.2.2
        refine ((implIsNext k z.start z.up Az nz cz x.start x.up Ax x.ships.length cx _ zs0 zs1 km0 km1)).mono ?_
        rw [HBN.out]
        rintro e wq6_23 ⟨rfl, hbk⟩
        have HBK := kB.out.trans (hbk.mono kB.out.size)
        have QS := Lib.hid (show wq6_23.cell? ⟨w.heap.size, 0, none⟩ = some (.int .i64 k.length) ∧ wq6_23.cell? ⟨w.heap.size, 1, none⟩ = some (.int .i64 k.lanes) ∧ wq6_23.cell? ⟨w.heap.size, 2, none⟩ = some (.int .i64 k.minutes) ∧ wq6_23.cell? ⟨wr.heap.size, 0, none⟩ = some (.int .i64 x.start) ∧ wq6_23.cell? ⟨wr.heap.size, 1, none⟩ = some (.bool x.up) ∧ wq6_23.cell? ⟨wr.heap.size, 2, none⟩ = some (.slice Ax x.ships.length cx) ∧ wq6_23.cell? ⟨gl, ol + j * 3, none⟩ = some (.int .i64 z.start) ∧ wq6_23.cell? ⟨gl, ol + j * 3 + 1, none⟩ = some (.bool z.up) ∧ wq6_23.cell? ⟨gl, ol + j * 3 + 2, none⟩ = some (.slice Az nz cz) ∧ Hid (Below w6.heap.size w6 wq6_23) from ⟨cell_onV Fk0.out HBK, cell_onV Fk1.out HBK, cell_onV Fk2.out HBK, cell_onV FP0.out HBK, cell_onV FP1.out HBK, cell_onV FP2.out HBK, cell_onV FQ0.out HBK, cell_onV FQ1.out HBK, cell_onV FQ2.out HBK, Lib.hid HBK⟩)
        clear hbk kB hHeld HBK
        go_simp
        refine hK.out _ _ ?_ (fun hHeld => ?_)
        · (try dsimp only); exact QS.out
        clear hK K
        try simp only [Act.put, List.setIfInBounds_toArray, List.set_cons_zero, List.set_cons_succ]
        refine tk 24 ?_
        refine tk 25 ?_
        refine tk 26 ?_
        refine wpAnyH_done (by kernel_rfl) ?_ _
        go_wp2
        go_ret
        exact ⟨ret_bool E.out.symm, B6.out.trans (hHeld.2.2.2.2.2.2.2.2.2.out.mono B6.out.size)⟩
      | true =>
        have Fk0 := Lib.hid (show w6.cell? ⟨w.heap.size, 0, none⟩ = some (.int .i64 k.length) from Kk_6.out.cell 0)
        have Fk1 := Lib.hid (show w6.cell? ⟨w.heap.size, 1, none⟩ = some (.int .i64 k.lanes) from Kk_6.out.cell 1)
        have Fk2 := Lib.hid (show w6.cell? ⟨w.heap.size, 2, none⟩ = some (.int .i64 k.minutes) from Kk_6.out.cell 2)
        have DD := Lib.hid ((Below.refl w6.heap.size w6).drew)
        have vFk0 := Fk0.out
        have vFk1 := Fk1.out
        have vFk2 := Fk2.out
        have vFP0 := FP0.out
        have vFP1 := FP1.out
        have vFP2 := FP2.out
        have vFQ0 := FQ0.out
        have vFQ1 := FQ1.out
        have vFQ2 := FQ2.out
        refine wp_region_held_drew (S := (fun w' => w'.cell? ⟨w.heap.size, 0, none⟩ = some (.int .i64 k.length) ∧ w'.cell? ⟨w.heap.size, 1, none⟩ = some (.int .i64 k.lanes) ∧ w'.cell? ⟨w.heap.size, 2, none⟩ = some (.int .i64 k.minutes) ∧ w'.cell? ⟨wr.heap.size, 0, none⟩ = some (.int .i64 x.start) ∧ w'.cell? ⟨wr.heap.size, 1, none⟩ = some (.bool x.up) ∧ w'.cell? ⟨wr.heap.size, 2, none⟩ = some (.slice Ax x.ships.length cx) ∧ w'.cell? ⟨gl, ol + j * 3, none⟩ = some (.int .i64 z.start) ∧ w'.cell? ⟨gl, ol + j * 3 + 1, none⟩ = some (.bool z.up) ∧ w'.cell? ⟨gl, ol + j * 3 + 2, none⟩ = some (.slice Az nz cz) ∧ Hid (Below w6.heap.size w6 w'))) (by kernel_rfl) ?_ (fun hHeld => ?_)
        · (try dsimp only); go_keep
        refine tk 0 ?_
        refine tk 1 ?_
        refine wpAnyH_ready (rs := [2]) (by kernel_rfl) (by simp) ?_
        refine AllReadyH.cons rfl (fun K hK => ?_) AllReadyH.nil
        rw [if_pos (by rfl)]
        go_simp
        go_at_call 43
        have kB := hHeld.2.2.2.2.2.2.2.2.2
        refine ((isMinute_any _ _)).mono ?_
        rw [HBI.out]
        rintro e wq6_2 ⟨rfl, hbk1⟩
        have hbk := below_eq hbk1
        have HBK := kB.out.trans (hbk.mono kB.out.size)
        have QS := Lib.hid (show wq6_2.cell? ⟨w.heap.size, 0, none⟩ = some (.int .i64 k.length) ∧ wq6_2.cell? ⟨w.heap.size, 1, none⟩ = some (.int .i64 k.lanes) ∧ wq6_2.cell? ⟨w.heap.size, 2, none⟩ = some (.int .i64 k.minutes) ∧ wq6_2.cell? ⟨wr.heap.size, 0, none⟩ = some (.int .i64 x.start) ∧ wq6_2.cell? ⟨wr.heap.size, 1, none⟩ = some (.bool x.up) ∧ wq6_2.cell? ⟨wr.heap.size, 2, none⟩ = some (.slice Ax x.ships.length cx) ∧ wq6_2.cell? ⟨gl, ol + j * 3, none⟩ = some (.int .i64 z.start) ∧ wq6_2.cell? ⟨gl, ol + j * 3 + 1, none⟩ = some (.bool z.up) ∧ wq6_2.cell? ⟨gl, ol + j * 3 + 2, none⟩ = some (.slice Az nz cz) ∧ Hid (Below w6.heap.size w6 wq6_2) from ⟨cell_onV Fk0.out HBK, cell_onV Fk1.out HBK, cell_onV Fk2.out HBK, cell_onV FP0.out HBK, cell_onV FP1.out HBK, cell_onV FP2.out HBK, cell_onV FQ0.out HBK, cell_onV FQ1.out HBK, cell_onV FQ2.out HBK, Lib.hid HBK⟩)
        clear hbk kB hHeld HBK
        go_simp
        refine hK.out _ _ ?_ (fun hHeld => ?_)
        · (try dsimp only); exact QS.out
        clear hK K
        try simp only [Act.put, List.setIfInBounds_toArray, List.set_cons_zero, List.set_cons_succ]
        refine tk 3 ?_
        refine tk 4 ?_
        refine tk 5 ?_
        refine tk 6 ?_
        refine tk 7 ?_
        refine tk 8 ?_
        refine wpAnyH_ready (rs := [9]) (by kernel_rfl) (by simp) ?_
        refine AllReadyH.cons rfl (fun K hK => ?_) AllReadyH.nil
        rw [if_pos (by rfl)]
        go_simp
        go_at_call 47
        have kB := hHeld.2.2.2.2.2.2.2.2.2
        refine ((implCanLock k _ _ fl x.ships _ (Rfl.out.below (B6.out.trans (kB.out.mono B6.out.size))) (HXI6.out.below kB.out) HXL.out)).mono ?_
        rw [HBF.out]
        rintro e wq6_9 ⟨rfl, hbk⟩
        have HBK := kB.out.trans (hbk.mono kB.out.size)
        have QS := Lib.hid (show wq6_9.cell? ⟨w.heap.size, 0, none⟩ = some (.int .i64 k.length) ∧ wq6_9.cell? ⟨w.heap.size, 1, none⟩ = some (.int .i64 k.lanes) ∧ wq6_9.cell? ⟨w.heap.size, 2, none⟩ = some (.int .i64 k.minutes) ∧ wq6_9.cell? ⟨wr.heap.size, 0, none⟩ = some (.int .i64 x.start) ∧ wq6_9.cell? ⟨wr.heap.size, 1, none⟩ = some (.bool x.up) ∧ wq6_9.cell? ⟨wr.heap.size, 2, none⟩ = some (.slice Ax x.ships.length cx) ∧ wq6_9.cell? ⟨gl, ol + j * 3, none⟩ = some (.int .i64 z.start) ∧ wq6_9.cell? ⟨gl, ol + j * 3 + 1, none⟩ = some (.bool z.up) ∧ wq6_9.cell? ⟨gl, ol + j * 3 + 2, none⟩ = some (.slice Az nz cz) ∧ Hid (Below w6.heap.size w6 wq6_9) from ⟨cell_onV Fk0.out HBK, cell_onV Fk1.out HBK, cell_onV Fk2.out HBK, cell_onV FP0.out HBK, cell_onV FP1.out HBK, cell_onV FP2.out HBK, cell_onV FQ0.out HBK, cell_onV FQ1.out HBK, cell_onV FQ2.out HBK, Lib.hid HBK⟩)
        clear hbk kB hHeld HBK
        go_simp
        refine hK.out _ _ ?_ (fun hHeld => ?_)
        · (try dsimp only); exact QS.out
        clear hK K
        try simp only [Act.put, List.setIfInBounds_toArray, List.set_cons_zero, List.set_cons_succ]
        refine tk 10 ?_
        refine tk 11 ?_
        refine tk 12 ?_
        refine tk 13 ?_
        refine tk 14 ?_
        refine tk 15 ?_
        refine tk 16 ?_
        refine tk 17 ?_
        refine tk 18 ?_
        refine tk 19 ?_
        refine tk 20 ?_
        refine tk 21 ?_
        refine tk 22 ?_
        refine wpAnyH_ready (rs := [23]) (by kernel_rfl) (by simp) ?_
        refine AllReadyH.cons rfl (fun K hK => ?_) AllReadyH.nil
        rw [if_pos (by rfl)]
        go_simp
        go_at_call 48
        have kB := hHeld.2.2.2.2.2.2.2.2.2
        refine ((implIsNext k z.start z.up Az nz cz x.start x.up Ax x.ships.length cx _ zs0 zs1 km0 km1)).mono ?_
        rw [HBN.out]
        rintro e wq6_23 ⟨rfl, hbk⟩
        have HBK := kB.out.trans (hbk.mono kB.out.size)
        have QS := Lib.hid (show wq6_23.cell? ⟨w.heap.size, 0, none⟩ = some (.int .i64 k.length) ∧ wq6_23.cell? ⟨w.heap.size, 1, none⟩ = some (.int .i64 k.lanes) ∧ wq6_23.cell? ⟨w.heap.size, 2, none⟩ = some (.int .i64 k.minutes) ∧ wq6_23.cell? ⟨wr.heap.size, 0, none⟩ = some (.int .i64 x.start) ∧ wq6_23.cell? ⟨wr.heap.size, 1, none⟩ = some (.bool x.up) ∧ wq6_23.cell? ⟨wr.heap.size, 2, none⟩ = some (.slice Ax x.ships.length cx) ∧ wq6_23.cell? ⟨gl, ol + j * 3, none⟩ = some (.int .i64 z.start) ∧ wq6_23.cell? ⟨gl, ol + j * 3 + 1, none⟩ = some (.bool z.up) ∧ wq6_23.cell? ⟨gl, ol + j * 3 + 2, none⟩ = some (.slice Az nz cz) ∧ Hid (Below w6.heap.size w6 wq6_23) from ⟨cell_onV Fk0.out HBK, cell_onV Fk1.out HBK, cell_onV Fk2.out HBK, cell_onV FP0.out HBK, cell_onV FP1.out HBK, cell_onV FP2.out HBK, cell_onV FQ0.out HBK, cell_onV FQ1.out HBK, cell_onV FQ2.out HBK, Lib.hid HBK⟩)
        clear hbk kB hHeld HBK
        go_simp
        refine hK.out _ _ ?_ (fun hHeld => ?_)
        · (try dsimp only); exact QS.out
        clear hK K
        try simp only [Act.put, List.setIfInBounds_toArray, List.set_cons_zero, List.set_cons_succ]
        refine tk 24 ?_
        refine tk 25 ?_
        refine tk 26 ?_
        refine wpAnyH_done (by kernel_rfl) ?_ _
        have TN := Lib.hid (hT.out.next HXD.out (EL.out.trans (by rw [HBN.out, HBI.out, HBF.out]; rfl)))
        have BK := Lib.hid hHeld.2.2.2.2.2.2.2.2.2.out
        have hb7 := Lib.hid (hb6.out.trans (BK.out.mono hb6.out.size))
        clear BK hHeld DD
        go_wp2
        go_roundw
        case rel => exact ⟨i + 1, by omega, by go_num, TN, hb7⟩
        case measure => simp [intOf]; omega
end Go.Proofs.Ytlddampjbmklkaa
