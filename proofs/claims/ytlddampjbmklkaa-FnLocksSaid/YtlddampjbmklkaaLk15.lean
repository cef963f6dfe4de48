
/- What LocksLaw rests on, part 15: contracts and mathematics. -/
import Derived.Test.YtlddampjbmklkaaLkTk
import Derived.Test.YtlddampjbmklkaaLk11
import Derived.Test.YtlddampjbmklkaaLk12
import Derived.Test.YtlddampjbmklkaaLk9
namespace Go.Proofs.Ytlddampjbmklkaa
open Go.RowKit
set_option maxRecDepth 100000
theorem below_eq {w w' : World} (h : w = w') : Below w.heap.size w w' := by rw [← h]; exact Below.refl _ _
/-- The locking before the i-th. -/
def prevL (l : List LockD) : Nat → Option LockD
  | 0 => none
  | j + 1 => l[j]?
/-- The first i lockings are in order. -/
structure PlanTo (k : ChamberD) (fl : List ShipD) (l : List LockD) (i : Nat) : Prop where
  eq : planFrom k fl none l = planFrom k fl (prevL l i) (l.drop i)
  start : ∀ b, prevL l i = some b → 0 ≤ b.start ∧ b.start ≤ 2880
theorem PlanTo.zero (k : ChamberD) (fl : List ShipD) (l : List LockD) : PlanTo k fl l 0 := ⟨rfl, fun b h => by cases h⟩
theorem planFrom_drop {k : ChamberD} {fl : List ShipD} {l : List LockD} {i : Nat} {g : LockD} (hg : l[i]? = some g) (b : Option LockD) : planFrom k fl b (l.drop i) = (lockB k fl g b && planFrom k fl (some g) (l.drop (i + 1))) := by
  obtain ⟨hi, rfl⟩ := List.getElem?_eq_some_iff.1 hg
  rw [List.drop_eq_getElem_cons hi]
  rfl
theorem PlanTo.no {k : ChamberD} {fl : List ShipD} {l : List LockD} {i : Nat} {g : LockD} (h : PlanTo k fl l i) (hg : l[i]? = some g) (hb : lockB k fl g (prevL l i) = false) : planFrom k fl none l = false := by
  rw [h.eq, planFrom_drop hg, hb]
  rfl
theorem PlanTo.next {k : ChamberD} {fl : List ShipD} {l : List LockD} {i : Nat} {g : LockD} (h : PlanTo k fl l i) (hg : l[i]? = some g) (hb : lockB k fl g (prevL l i) = true) : PlanTo k fl l (i + 1) := by
  refine ⟨?_, fun b e => ?_⟩
  · rw [h.eq, planFrom_drop hg, hb]
    show _ = planFrom k fl (l[i]?) (l.drop (i + 1))
    rw [hg, Bool.true_and]
  · have e : l[i]? = some b := e
    rw [hg] at e
    injection e with e
    subst e
    unfold lockB turnB at hb
    simp only [Bool.and_eq_true] at hb
    exact of_decide_eq_true hb.1.1
theorem PlanTo.all {k : ChamberD} {fl : List ShipD} {l : List LockD} (h : PlanTo k fl l l.length) : planFrom k fl none l = true := by
  rw [h.eq, List.drop_eq_nil_of_le (Nat.le_refl _)]
  rfl
def fitsO (k : ChamberD) (fl : List ShipD) (s : List Int) : Bool := match lensO fl s with
  | some t => (packO k t).isSome
  | none => false
theorem lockB_first (k : ChamberD) (fl : List ShipD) (g : LockD) : lockB k fl g none = (inB g.start 0 2880 && fitsO k fl g.ships) := by
  unfold lockB turnB
  rw [Bool.and_true]
  rfl
theorem lockB_next (k : ChamberD) (fl : List ShipD) (g b : LockD) : lockB k fl g (some b) = (inB g.start 0 2880 && (decide (b.start + k.minutes ≤ g.start) && (g.up != b.up)) && fitsO k fl g.ships) := rfl
theorem fitsO_none {k : ChamberD} {fl : List ShipD} {s : List Int} (h : lensO fl s = none) : fitsO k fl s = false := by unfold fitsO; rw [h]
theorem fitsO_some {k : ChamberD} {fl : List ShipD} {s t : List Int} (h : lensO fl s = some t) : fitsO k fl s = (packO k t).isSome := by unfold fitsO; rw [h]
set_option maxHeartbeats 16000000 in
theorem specLockPlanOk (k : ChamberD) (yfl : Value) (fl : List ShipD) (yrows : Value) (rows : List LockR) (w : World) (rfl : SlShip w yfl fl) (rrows : RdLocks w yrows rows) (ffl : ∀ x ∈ fl, ShipD.wf x) (hn : (rows.length : Int) + bulkLock rows ≤ 9000000) :
    Calls Try.prog 20 #[k.val, yfl, yrows] w (fun e w' => e = .returned (.bool (lockPlanB k fl (rows.map LockR.d))) ∧ Below w.heap.size w w') := by
  have Rfl := Lib.hid rfl
  obtain ⟨Afl, cfl, rfl⟩ := SlOf.form rfl
  clear rfl
  have Nfl := Lib.hid ffl
  clear ffl
  have Rrows := Lib.hid rrows
  obtain ⟨Arows, crows, rfl⟩ := SlOf.form rrows.1
  clear rrows
  obtain ⟨W0, hW0⟩ : ∃ W0, W0 = (w.alloc (.cells #[.int .i64 k.length, .int .i64 k.lanes, .int .i64 k.minutes] 24)) := ⟨_, rfl⟩
  have B := Lib.hid (Joins.below_alloc1 w (.cells #[.int .i64 k.length, .int .i64 k.lanes, .int .i64 k.minutes] 24))
  have Kk := Lib.hid (Blk.new w #[.int .i64 k.length, .int .i64 k.lanes, .int .i64 k.minutes] 24)
  have HW0 := Lib.hid hW0
  rw [← hW0] at B Kk
  clear hW0
  have hfl := Rfl.out.1
  obtain ⟨l, hld⟩ : ∃ l, rows.map LockR.d = l := ⟨_, rfl⟩
  have HLD := Lib.hid hld
  obtain ⟨b1, hb1⟩ : ∃ b, chamB k = b := ⟨_, rfl⟩
  have Hb1 := Lib.hid hb1
  obtain ⟨b2, hb2⟩ : ∃ b, fleetB fl = b := ⟨_, rfl⟩
  have Hb2 := Lib.hid hb2
  obtain ⟨b3, hb3⟩ : ∃ b, decide (rows.length ≤ 12) = b := ⟨_, rfl⟩
  have Hb3 := Lib.hid hb3
  have E0 := Lib.hid (show lockPlanB k fl l = (b1 && b2 && b3 && planFrom k fl none l) by unfold lockPlanB; rw [hb1, hb2, ← hb3, ← hld, List.length_map])
  rw [hld]
  obtain ⟨m, hm⟩ : ∃ m, rows.length = m := ⟨_, rfl⟩
  have HM := Lib.hid hm
  rw [hm] at Hb3
  try rw [hm]
  clear hb1 hb2 hb3 hld hm
  cases b1 with
  | false =>
    have E := Lib.hid (E0.out.trans (show _ = false by simp))
    go_enter Try.func20, Try.ntmps20
    have vk0 : W0.cell? ⟨w.heap.size, 0, none⟩ = some (.int .i64 k.length) := Kk.out.cell 0
    have vk1 : W0.cell? ⟨w.heap.size, 1, none⟩ = some (.int .i64 k.lanes) := Kk.out.cell 1
    have vk2 : W0.cell? ⟨w.heap.size, 2, none⟩ = some (.int .i64 k.minutes) := Kk.out.cell 2
    go_wp2_with fail
    rw [← HW0.out]
    clear vk0 vk1 vk2
    refine (specChamberOk k _).mono ?_
    rw [Hb1.out]
    rintro e w1 ⟨rfl, hb1⟩
    have B1 := Lib.hid (B.out.trans (hb1.mono B.out.size))
    have Kk_1 := Lib.hid (Kk.out.below hb1)
    clear hb1
    go_wp2
    go_ret
    exact ⟨ret_bool E.out.symm, B1.out⟩
  | true =>
  cases b2 with
  | false =>
    have E := Lib.hid (E0.out.trans (show _ = false by simp))
    go_enter Try.func20, Try.ntmps20
    have vk0 : W0.cell? ⟨w.heap.size, 0, none⟩ = some (.int .i64 k.length) := Kk.out.cell 0
    have vk1 : W0.cell? ⟨w.heap.size, 1, none⟩ = some (.int .i64 k.lanes) := Kk.out.cell 1
    have vk2 : W0.cell? ⟨w.heap.size, 2, none⟩ = some (.int .i64 k.minutes) := Kk.out.cell 2
    go_wp2_with fail
    rw [← HW0.out]
    clear vk0 vk1 vk2
    refine (specChamberOk k _).mono ?_
    rw [Hb1.out]
    rintro e w1 ⟨rfl, hb1⟩
    have B1 := Lib.hid (B.out.trans (hb1.mono B.out.size))
    have Kk_1 := Lib.hid (Kk.out.below hb1)
    clear hb1
    have vk0 : w1.cell? ⟨w.heap.size, 0, none⟩ = some (.int .i64 k.length) := Kk_1.out.cell 0
    have vk1 : w1.cell? ⟨w.heap.size, 1, none⟩ = some (.int .i64 k.lanes) := Kk_1.out.cell 1
    have vk2 : w1.cell? ⟨w.heap.size, 2, none⟩ = some (.int .i64 k.minutes) := Kk_1.out.cell 2
    go_wp2_with fail
    clear vk0 vk1 vk2
    refine (specFleetOk _ fl _ (Rfl.out.below B1.out) Nfl.out).mono ?_
    rw [Hb2.out]
    rintro e w2 ⟨rfl, hb2⟩
    have B2 := Lib.hid (B1.out.trans (hb2.mono B1.out.size))
    have Kk_2 := Lib.hid (Kk_1.out.below hb2)
    clear hb2
    go_wp2
    go_ret
    exact ⟨ret_bool E.out.symm, B2.out⟩
  | true =>
  cases b3 with
  | false =>
    have E := Lib.hid (E0.out.trans (show _ = false by simp))
    go_enter Try.func20, Try.ntmps20
    have vk0 : W0.cell? ⟨w.heap.size, 0, none⟩ = some (.int .i64 k.length) := Kk.out.cell 0
    have vk1 : W0.cell? ⟨w.heap.size, 1, none⟩ = some (.int .i64 k.lanes) := Kk.out.cell 1
    have vk2 : W0.cell? ⟨w.heap.size, 2, none⟩ = some (.int .i64 k.minutes) := Kk.out.cell 2
    go_wp2_with fail
    rw [← HW0.out]
    clear vk0 vk1 vk2
    refine (specChamberOk k _).mono ?_
    rw [Hb1.out]
    rintro e w1 ⟨rfl, hb1⟩
    have B1 := Lib.hid (B.out.trans (hb1.mono B.out.size))
    have Kk_1 := Lib.hid (Kk.out.below hb1)
    clear hb1
    have vk0 : w1.cell? ⟨w.heap.size, 0, none⟩ = some (.int .i64 k.length) := Kk_1.out.cell 0
    have vk1 : w1.cell? ⟨w.heap.size, 1, none⟩ = some (.int .i64 k.lanes) := Kk_1.out.cell 1
    have vk2 : w1.cell? ⟨w.heap.size, 2, none⟩ = some (.int .i64 k.minutes) := Kk_1.out.cell 2
    go_wp2_with fail
    clear vk0 vk1 vk2
    refine (specFleetOk _ fl _ (Rfl.out.below B1.out) Nfl.out).mono ?_
    rw [Hb2.out]
    rintro e w2 ⟨rfl, hb2⟩
    have B2 := Lib.hid (B1.out.trans (hb2.mono B1.out.size))
    have Kk_2 := Lib.hid (Kk_1.out.below hb2)
    clear hb2
    have h12 : ¬ m ≤ 12 := of_decide_eq_false Hb3.out
    have g12 : decide ((12 : Int) < (m : Int)) = true := decide_eq_true (by omega)
    go_wp2
    go_ret
    exact ⟨ret_bool E.out.symm, B2.out⟩
  | true =>
  have h12 : m ≤ 12 := of_decide_eq_true Hb3.out
  have g12 : decide ((12 : Int) < (m : Int)) = false := decide_eq_false (by omega)
  have E1 := Lib.hid (E0.out.trans (show _ = planFrom k fl none l by simp))
  obtain ⟨kl0, kl1, ka0, ka1, km0, km1⟩ := chamB_true Hb1.out
  go_enter Try.func20, Try.ntmps20
  have vk0 : W0.cell? ⟨w.heap.size, 0, none⟩ = some (.int .i64 k.length) := Kk.out.cell 0
  have vk1 : W0.cell? ⟨w.heap.size, 1, none⟩ = some (.int .i64 k.lanes) := Kk.out.cell 1
  have vk2 : W0.cell? ⟨w.heap.size, 2, none⟩ = some (.int .i64 k.minutes) := Kk.out.cell 2
  go_wp2_with fail
  rw [← HW0.out]
  clear vk0 vk1 vk2
  refine (specChamberOk k _).mono ?_
  rw [Hb1.out]
  rintro e w1 ⟨rfl, hb1⟩
  have B1 := Lib.hid (B.out.trans (hb1.mono B.out.size))
  have Kk_1 := Lib.hid (Kk.out.below hb1)
  clear hb1
  have vk0 : w1.cell? ⟨w.heap.size, 0, none⟩ = some (.int .i64 k.length) := Kk_1.out.cell 0
  have vk1 : w1.cell? ⟨w.heap.size, 1, none⟩ = some (.int .i64 k.lanes) := Kk_1.out.cell 1
  have vk2 : w1.cell? ⟨w.heap.size, 2, none⟩ = some (.int .i64 k.minutes) := Kk_1.out.cell 2
  go_wp2_with fail
  clear vk0 vk1 vk2
  refine (specFleetOk _ fl _ (Rfl.out.below B1.out) Nfl.out).mono ?_
  rw [Hb2.out]
  rintro e w2 ⟨rfl, hb2⟩
  have B2 := Lib.hid (B1.out.trans (hb2.mono B1.out.size))
  have Kk_2 := Lib.hid (Kk_1.out.below hb2)
  clear hb2
  go_wp2
  go_loopw [28] (fun t wr => ∃ i : Nat, i ≤ m ∧ t = .int .i64 (i : Int) ∧ Hid (PlanTo k fl l i) ∧ Hid (Below w2.heap.size w2 wr)) (fun t _ => m - (intOf t).toNat)
  case atStart => exact ⟨0, Nat.zero_le _, rfl, Lib.hid (PlanTo.zero _ _ _), Lib.hid (Below.refl _ _)⟩
  case round =>
    obtain ⟨i, hi, rfl, hT, hb⟩ := hrel
    have BR := Lib.hid (B2.out.trans (hb.out.mono B2.out.size))
    have hzs := hb.out.size
    by_cases hlt : i < m
    rotate_left
    · obtain rfl : i = m := by omega
      have E := Lib.hid (E1.out.trans (PlanTo.all (by rw [← HLD.out, List.length_map, HM.out, HLD.out]; exact hT.out)))
      go_wp2
      go_ret
      exact ⟨ret_bool E.out.symm, BR.out⟩
    obtain ⟨x, hx⟩ : ∃ x, rows[i]? = some x := ⟨_, List.getElem?_eq_getElem (by have := HM.out; omega)⟩
    have HXD := Lib.hid (show l[i]? = some x.d by rw [← HLD.out]; exact lockD_at hx)
    have hxin := Rrows.out.2 x (List.mem_of_getElem? hx)
    obtain ⟨Ax, cx, hxv⟩ := hxin.at
    rw [hxv] at hxin
    have HXI := Lib.hid hxin
    have HXL := Lib.hid (show x.ships.length ≤ 9000000 by have := bulkLock_mem (List.mem_of_getElem? hx); omega)
    obtain ⟨j, hj⟩ : ∃ j, j = i - 1 := ⟨_, rfl⟩
    obtain ⟨z, hz⟩ : ∃ z, rows[j]? = some z := ⟨_, List.getElem?_eq_getElem (by have := HM.out; omega)⟩
    have HZD := Lib.hid (show l[j]? = some z.d by rw [← HLD.out]; exact lockD_at hz)
    rcases Rrows.out.1.2 with ⟨he, _⟩ | ⟨gl, ol, cl', e, lpos, lcap, lc⟩
    · rw [he] at hx; simp at hx
    injection e with ea e2 e3
    subst ea
    clear e2 e3 lpos lcap
    obtain ⟨p0, p1, p2⟩ := LockR.at lc i x hx
    obtain ⟨q0, q1, q2⟩ := LockR.at lc j z hz
    rw [hxv] at p2
    have y0 := cell_onV p0 BR.out
    have y1 := cell_onV p1 BR.out
    have y2 := cell_onV p2 BR.out
    have ZQ0 := Lib.hid q0
    have ZQ1 := Lib.hid q1
    clear p0 p1 p2 q0 q1 q2 lc hx hz hxv hxin
    go_upto_region 6 with fail
    have BL := Joins.below_alloc1 wr (.cells #[.int .i64 x.start, .bool x.up, .slice Ax x.ships.length cx] 38)
    have KN := Blk.new wr #[.int .i64 x.start, .bool x.up, .slice Ax x.ships.length cx] 38
    obtain ⟨w6, hw6⟩ : ∃ w6, w6 = wr.alloc (.cells #[.int .i64 x.start, .bool x.up, .slice Ax x.ships.length cx] 38) := ⟨_, rfl⟩
    rw [← hw6] at BL KN ⊢
    have B6 := Lib.hid (BR.out.trans (BL.mono BR.out.size))
    have Kk_6 := Lib.hid ((Kk_2.out.below hb.out).below BL)
    have KP := Lib.hid KN
    have hb6 := Lib.hid (hb.out.trans (BL.mono hb.out.size))
    clear hw6 BL KN y0 y1 y2 hb hzs
    have FP0 := Lib.hid (show w6.cell? ⟨wr.heap.size, 0, none⟩ = some (.int .i64 x.start) from KP.out.cell 0)
    have FP1 := Lib.hid (show w6.cell? ⟨wr.heap.size, 1, none⟩ = some (.bool x.up) from KP.out.cell 1)
    have FQ0 := Lib.hid (show w6.cell? ⟨gl, ol + j * 3, none⟩ = some (.int .i64 z.start) from cell_onV ZQ0.out B6.out)
    have FQ1 := Lib.hid (show w6.cell? ⟨gl, ol + j * 3 + 1, none⟩ = some (.bool z.up) from cell_onV ZQ1.out B6.out)
    obtain ⟨bi, hbi⟩ : ∃ b, inB x.start 0 2880 = b := ⟨_, rfl⟩
    have HBI := Lib.hid hbi
    clear hbi
    by_cases hi0 : i = 0
    · subst hi0
      have EL := Lib.hid (show lockB k fl x.d (prevL l 0) = (inB x.start 0 2880 && fitsO k fl x.ships) from lockB_first k fl x.d)
      cases bi with
      | false =>
        have E := Lib.hid (E1.out.trans (hT.out.no HXD.out (EL.out.trans (by rw [HBI.out]; rfl))))
        have Fk0 := Lib.hid (show w6.cell? ⟨w.heap.size, 0, none⟩ = some (.int .i64 k.length) from Kk_6.out.cell 0)
        have Fk1 := Lib.hid (show w6.cell? ⟨w.heap.size, 1, none⟩ = some (.int .i64 k.lanes) from Kk_6.out.cell 1)
        have Fk2 := Lib.hid (show w6.cell? ⟨w.heap.size, 2, none⟩ = some (.int .i64 k.minutes) from Kk_6.out.cell 2)
        have DD := Lib.hid ((Below.refl w6.heap.size w6).drew)
        have vFk0 := Fk0.out
        have vFk1 := Fk1.out
        have vFk2 := Fk2.out
        have vFP0 := FP0.out
        have vFP1 := FP1.out
        refine wp_region_held_drew (S := (fun w' => w'.cell? ⟨w.heap.size, 0, none⟩ = some (.int .i64 k.length) ∧ w'.cell? ⟨w.heap.size, 1, none⟩ = some (.int .i64 k.lanes) ∧ w'.cell? ⟨w.heap.size, 2, none⟩ = some (.int .i64 k.minutes) ∧ w'.cell? ⟨wr.heap.size, 0, none⟩ = some (.int .i64 x.start) ∧ w'.cell? ⟨wr.heap.size, 1, none⟩ = some (.bool x.up) ∧ Hid (Below w6.heap.size w6 w'))) (by kernel_rfl) ?_ (fun hHeld => ?_)
        · (try dsimp only); go_keep
        refine tk 0 ?_
        refine tk 1 ?_
        refine wpAnyH_ready (rs := [2]) (by kernel_rfl) (by simp) ?_
        refine AllReadyH.cons rfl (fun K hK => ?_) AllReadyH.nil
        rw [if_pos (by rfl)]
        go_simp
        go_at_call 56
        have kB := hHeld.2.2.2.2.2
        refine ((l01In_any _ _ _ _)).mono ?_
        rw [HBI.out]
        rintro e wq6_2 ⟨rfl, hbk1⟩
        have hbk := below_eq hbk1
        have HBK := kB.out.trans (hbk.mono kB.out.size)
        have QS := Lib.hid (show wq6_2.cell? ⟨w.heap.size, 0, none⟩ = some (.int .i64 k.length) ∧ wq6_2.cell? ⟨w.heap.size, 1, none⟩ = some (.int .i64 k.lanes) ∧ wq6_2.cell? ⟨w.heap.size, 2, none⟩ = some (.int .i64 k.minutes) ∧ wq6_2.cell? ⟨wr.heap.size, 0, none⟩ = some (.int .i64 x.start) ∧ wq6_2.cell? ⟨wr.heap.size, 1, none⟩ = some (.bool x.up) ∧ Hid (Below w6.heap.size w6 wq6_2) from ⟨cell_onV Fk0.out HBK, cell_onV Fk1.out HBK, cell_onV Fk2.out HBK, cell_onV FP0.out HBK, cell_onV FP1.out HBK, Lib.hid HBK⟩)
        clear hbk kB hHeld HBK
        go_simp
        refine hK.out _ _ ?_ (fun hHeld => ?_)
        · (try dsimp only); exact QS.out
        clear hK K
        try simp only [Act.put, List.setIfInBounds_toArray, List.set_cons_zero, List.set_cons_succ]
        refine tk 3 ?_
        refine tk 4 ?_
        refine tku 5 ?_
        refine tku 6 ?_
        refine tku 7 ?_
        refine tku 8 ?_
        refine tku 9 ?_
        refine tku 10 ?_
        refine tku 11 ?_
        refine tku 12 ?_
        refine tku 13 ?_
        refine tku 14 ?_
        refine tku 15 ?_
        refine tku 16 ?_
        refine tku 17 ?_
        refine tku 18 ?_
        refine tku 19 ?_
        refine tku 20 ?_
        refine tku 21 ?_
        refine tku 22 ?_
        refine tku 23 ?_
        refine tku 24 ?_
        refine tku 25 ?_
        refine tku 26 ?_
        refine tku 27 ?_
        refine tku 28 ?_
        refine tku 29 ?_
        refine tku 30 ?_
        refine tku 31 ?_
        refine tk 32 ?_
        refine wpAnyH_done (by kernel_rfl) ?_ _
        go_wp2
        go_ret
        exact ⟨ret_bool E.out.symm, B6.out.trans (hHeld.2.2.2.2.2.out.mono B6.out.size)⟩
      | true =>
        have Fk0 := Lib.hid (show w6.cell? ⟨w.heap.size, 0, none⟩ = some (.int .i64 k.length) from Kk_6.out.cell 0)
        have Fk1 := Lib.hid (show w6.cell? ⟨w.heap.size, 1, none⟩ = some (.int .i64 k.lanes) from Kk_6.out.cell 1)
        have Fk2 := Lib.hid (show w6.cell? ⟨w.heap.size, 2, none⟩ = some (.int .i64 k.minutes) from Kk_6.out.cell 2)
        have DD := Lib.hid ((Below.refl w6.heap.size w6).drew)
        have vFk0 := Fk0.out
        have vFk1 := Fk1.out
        have vFk2 := Fk2.out
        have vFP0 := FP0.out
        have vFP1 := FP1.out
        refine wp_region_held_drew (S := (fun w' => w'.cell? ⟨w.heap.size, 0, none⟩ = some (.int .i64 k.length) ∧ w'.cell? ⟨w.heap.size, 1, none⟩ = some (.int .i64 k.lanes) ∧ w'.cell? ⟨w.heap.size, 2, none⟩ = some (.int .i64 k.minutes) ∧ w'.cell? ⟨wr.heap.size, 0, none⟩ = some (.int .i64 x.start) ∧ w'.cell? ⟨wr.heap.size, 1, none⟩ = some (.bool x.up) ∧ Hid (Below w6.heap.size w6 w'))) (by kernel_rfl) ?_ (fun hHeld => ?_)
        · (try dsimp only); go_keep
        refine tk 0 ?_
        refine tk 1 ?_
        refine wpAnyH_ready (rs := [2]) (by kernel_rfl) (by simp) ?_
        refine AllReadyH.cons rfl (fun K hK => ?_) AllReadyH.nil
        rw [if_pos (by rfl)]
        go_simp
        go_at_call 56
        have kB := hHeld.2.2.2.2.2
        refine ((l01In_any _ _ _ _)).mono ?_
        rw [HBI.out]
        rintro e wq6_2 ⟨rfl, hbk1⟩
        have hbk := below_eq hbk1
        have HBK := kB.out.trans (hbk.mono kB.out.size)
        have QS := Lib.hid (show wq6_2.cell? ⟨w.heap.size, 0, none⟩ = some (.int .i64 k.length) ∧ wq6_2.cell? ⟨w.heap.size, 1, none⟩ = some (.int .i64 k.lanes) ∧ wq6_2.cell? ⟨w.heap.size, 2, none⟩ = some (.int .i64 k.minutes) ∧ wq6_2.cell? ⟨wr.heap.size, 0, none⟩ = some (.int .i64 x.start) ∧ wq6_2.cell? ⟨wr.heap.size, 1, none⟩ = some (.bool x.up) ∧ Hid (Below w6.heap.size w6 wq6_2) from ⟨cell_onV Fk0.out HBK, cell_onV Fk1.out HBK, cell_onV Fk2.out HBK, cell_onV FP0.out HBK, cell_onV FP1.out HBK, Lib.hid HBK⟩)
        clear hbk kB hHeld HBK
        go_simp
        refine hK.out _ _ ?_ (fun hHeld => ?_)
        · (try dsimp only); exact QS.out
        clear hK K
        try simp only [Act.put, List.setIfInBounds_toArray, List.set_cons_zero, List.set_cons_succ]
        refine tk 3 ?_
        refine tk 4 ?_
        refine tk 5 ?_
        refine tk 6 ?_
        refine tk 7 ?_
        refine tku 8 ?_
        refine tku 9 ?_
        refine tku 10 ?_
        refine tku 11 ?_
        refine tku 12 ?_
        refine tku 13 ?_
        refine tku 14 ?_
        refine tku 15 ?_
        refine tku 16 ?_
        refine tku 17 ?_
        refine tku 18 ?_
        refine tku 19 ?_
        refine tku 20 ?_
        refine tku 21 ?_
        refine tku 22 ?_
        refine tku 23 ?_
        refine tku 24 ?_
        refine tku 25 ?_
        refine tku 26 ?_
        refine tku 27 ?_
        refine tku 28 ?_
        refine tku 29 ?_
        refine tku 30 ?_
        refine tk 31 ?_
        refine tk 32 ?_
        refine wpAnyH_done (by kernel_rfl) ?_ _
        have EQ := Lib.hid (show lockB k fl x.d (prevL l 0) = fitsO k fl x.ships from EL.out.trans (by rw [HBI.out, Bool.true_and]))
        have BK := Lib.hid hHeld.2.2.2.2.2.out
        have B7 := Lib.hid (B6.out.trans (BK.out.mono B6.out.size))
        have Kk_7 := Lib.hid (Kk_6.out.below BK.out)
        have KP7 := Lib.hid (KP.out.below BK.out)
        have hb7 := Lib.hid (hb6.out.trans (BK.out.mono hb6.out.size))
        clear BK hHeld DD vFP0 vFP1 vFk0 vFk1 vFk2
        have u2 : wq6_2.cell? ⟨wr.heap.size, 2, none⟩ = some (.slice Ax x.ships.length cx) := KP7.out.cell 2
        obtain ⟨lo, hlo⟩ : ∃ y, lensO fl x.ships = y := ⟨_, rfl⟩
        have HLO := Lib.hid hlo
        clear hlo
        go_wp2_with fail
        clear u2
        refine (specLengths _ _ fl x.ships _ (Rfl.out.below B7.out) (HXI.out.below B7.out) HXL.out).mono ?_
        rw [HLO.out]
        rintro e w8 ⟨v8, rfl, hv8, hb8⟩
        have B8 := Lib.hid (B7.out.trans (hb8.mono B7.out.size))
        have Kk_8 := Lib.hid (Kk_7.out.below hb8)
        have hbw8 := Lib.hid (hb7.out.trans (hb8.mono hb7.out.size))
        clear hb8
        cases lo with
        | none =>
          have E := Lib.hid (E1.out.trans (hT.out.no HXD.out (EQ.out.trans (fitsO_none HLO.out))))
          go_wp2
          go_ret
          exact ⟨ret_bool E.out.symm, B8.out⟩
        | some t =>
          have EQ2 := Lib.hid (EQ.out.trans (fitsO_some HLO.out))
          have HT8 := Lib.hid (OwnInt.sl (hv8 t rfl) (by have := lensO_len HLO.out; omega))
          obtain ⟨po, hpo⟩ : ∃ y, (packO k t).isSome = y := ⟨_, rfl⟩
          have HPO := Lib.hid hpo
          clear hpo hv8
          have vk0 : w8.cell? ⟨w.heap.size, 0, none⟩ = some (.int .i64 k.length) := Kk_8.out.cell 0
          have vk1 : w8.cell? ⟨w.heap.size, 1, none⟩ = some (.int .i64 k.lanes) := Kk_8.out.cell 1
          have vk2 : w8.cell? ⟨w.heap.size, 2, none⟩ = some (.int .i64 k.minutes) := Kk_8.out.cell 2
          go_wp2_with fail
          clear vk0 vk1 vk2
          refine (specPackShips k _ t _ HT8.out).mono ?_
          rw [HPO.out]
          rintro e w9 ⟨v9, rfl, -, hb9⟩
          have B9 := Lib.hid (B8.out.trans (hb9.mono B8.out.size))
          have hbw9 := Lib.hid (hbw8.out.trans (hb9.mono hbw8.out.size))
          clear hb9
          cases po with
          | false =>
            have E := Lib.hid (E1.out.trans (hT.out.no HXD.out (EQ2.out.trans HPO.out)))
            go_wp2
            go_ret
            exact ⟨ret_bool E.out.symm, B9.out⟩
          | true =>
            have TN := Lib.hid (hT.out.next HXD.out (EQ2.out.trans HPO.out))
            go_wp2
            go_roundw
            case rel => exact ⟨1, by omega, by go_num, TN, hbw9⟩
            case measure => simp [intOf]; omega
    · have EL := Lib.hid (show lockB k fl x.d (prevL l i) = (inB x.start 0 2880 && (decide (z.start + k.minutes ≤ x.start) && (x.up != z.up)) && fitsO k fl x.ships) by
        have e : prevL l i = some z.d := by rw [show i = j + 1 by omega]; exact HZD.out
        rw [e]; exact lockB_next k fl x.d z.d)
      obtain ⟨zs0, zs1⟩ : 0 ≤ z.start ∧ z.start ≤ 2880 := hT.out.start z.d (by rw [show i = j + 1 by omega]; exact HZD.out)
      have wj : IntKind.i64.wrap ((i : Int) - 1) = (j : Int) := by rw [IntKind.wrap_i64]; omega
      have wa : IntKind.i64.wrap (z.start + k.minutes) = z.start + k.minutes := by rw [IntKind.wrap_i64]; omega
      have gn : 0 < i := by omega
      have gi : decide (0 < i) = true := decide_eq_true gn
      have hjl : j < m := by omega
      clear hj
      cases bi with
      | false =>
        have E := Lib.hid (E1.out.trans (hT.out.no HXD.out (EL.out.trans (by rw [HBI.out]; rfl))))
        have Fk0 := Lib.hid (show w6.cell? ⟨w.heap.size, 0, none⟩ = some (.int .i64 k.length) from Kk_6.out.cell 0)
        have Fk1 := Lib.hid (show w6.cell? ⟨w.heap.size, 1, none⟩ = some (.int .i64 k.lanes) from Kk_6.out.cell 1)
        have Fk2 := Lib.hid (show w6.cell? ⟨w.heap.size, 2, none⟩ = some (.int .i64 k.minutes) from Kk_6.out.cell 2)
        have DD := Lib.hid ((Below.refl w6.heap.size w6).drew)
        have vFk0 := Fk0.out
        have vFk1 := Fk1.out
        have vFk2 := Fk2.out
        have vFP0 := FP0.out
        have vFP1 := FP1.out
        have vFQ0 := FQ0.out
        have vFQ1 := FQ1.out
        refine wp_region_held_drew (S := (fun w' => w'.cell? ⟨w.heap.size, 0, none⟩ = some (.int .i64 k.length) ∧ w'.cell? ⟨w.heap.size, 1, none⟩ = some (.int .i64 k.lanes) ∧ w'.cell? ⟨w.heap.size, 2, none⟩ = some (.int .i64 k.minutes) ∧ w'.cell? ⟨wr.heap.size, 0, none⟩ = some (.int .i64 x.start) ∧ w'.cell? ⟨wr.heap.size, 1, none⟩ = some (.bool x.up) ∧ w'.cell? ⟨gl, ol + j * 3, none⟩ = some (.int .i64 z.start) ∧ w'.cell? ⟨gl, ol + j * 3 + 1, none⟩ = some (.bool z.up) ∧ Hid (Below w6.heap.size w6 w'))) (by kernel_rfl) ?_ (fun hHeld => ?_)
        · (try dsimp only); go_keep
        refine tk 0 ?_
        refine tk 1 ?_
        refine wpAnyH_ready (rs := [2]) (by kernel_rfl) (by simp) ?_
        refine AllReadyH.cons rfl (fun K hK => ?_) AllReadyH.nil
        rw [if_pos (by rfl)]
        go_simp
        go_at_call 56
        have kB := hHeld.2.2.2.2.2.2.2
        refine ((l01In_any _ _ _ _)).mono ?_
        rw [HBI.out]
        rintro e wq6_2 ⟨rfl, hbk1⟩
        have hbk := below_eq hbk1
        have HBK := kB.out.trans (hbk.mono kB.out.size)
        have QS := Lib.hid (show wq6_2.cell? ⟨w.heap.size, 0, none⟩ = some (.int .i64 k.length) ∧ wq6_2.cell? ⟨w.heap.size, 1, none⟩ = some (.int .i64 k.lanes) ∧ wq6_2.cell? ⟨w.heap.size, 2, none⟩ = some (.int .i64 k.minutes) ∧ wq6_2.cell? ⟨wr.heap.size, 0, none⟩ = some (.int .i64 x.start) ∧ wq6_2.cell? ⟨wr.heap.size, 1, none⟩ = some (.bool x.up) ∧ wq6_2.cell? ⟨gl, ol + j * 3, none⟩ = some (.int .i64 z.start) ∧ wq6_2.cell? ⟨gl, ol + j * 3 + 1, none⟩ = some (.bool z.up) ∧ Hid (Below w6.heap.size w6 wq6_2) from ⟨cell_onV Fk0.out HBK, cell_onV Fk1.out HBK, cell_onV Fk2.out HBK, cell_onV FP0.out HBK, cell_onV FP1.out HBK, cell_onV FQ0.out HBK, cell_onV FQ1.out HBK, Lib.hid HBK⟩)
        clear hbk kB hHeld HBK
        go_simp
        refine hK.out _ _ ?_ (fun hHeld => ?_)
        · (try dsimp only); exact QS.out
        clear hK K
        try simp only [Act.put, List.setIfInBounds_toArray, List.set_cons_zero, List.set_cons_succ]
        refine tk 3 ?_
        refine tk 4 ?_
        refine tku 5 ?_
        refine tku 6 ?_
        refine tku 7 ?_
        refine tku 8 ?_
        refine tku 9 ?_
        refine tku 10 ?_
        refine tku 11 ?_
        refine tku 12 ?_
        refine tku 13 ?_
        refine tku 14 ?_
        refine tku 15 ?_
        refine tku 16 ?_
        refine tku 17 ?_
        refine tku 18 ?_
        refine tku 19 ?_
        refine tku 20 ?_
        refine tku 21 ?_
        refine tku 22 ?_
        refine tku 23 ?_
        refine tku 24 ?_
        refine tku 25 ?_
        refine tku 26 ?_
        refine tku 27 ?_
        refine tku 28 ?_
        refine tku 29 ?_
        refine tku 30 ?_
        refine tku 31 ?_
        refine tk 32 ?_
        refine wpAnyH_done (by kernel_rfl) ?_ _
        go_wp2
        go_ret
        exact ⟨ret_bool E.out.symm, B6.out.trans (hHeld.2.2.2.2.2.2.2.out.mono B6.out.size)⟩
      | true =>
      by_cases hls : x.start < z.start + k.minutes
      · have d1 : decide (x.start < z.start + k.minutes) = true := decide_eq_true hls
        have E := Lib.hid (E1.out.trans (hT.out.no HXD.out (EL.out.trans (by rw [decide_eq_false (show ¬ z.start + k.minutes ≤ x.start by omega)]; simp))))
        have Fk0 := Lib.hid (show w6.cell? ⟨w.heap.size, 0, none⟩ = some (.int .i64 k.length) from Kk_6.out.cell 0)
        have Fk1 := Lib.hid (show w6.cell? ⟨w.heap.size, 1, none⟩ = some (.int .i64 k.lanes) from Kk_6.out.cell 1)
        have Fk2 := Lib.hid (show w6.cell? ⟨w.heap.size, 2, none⟩ = some (.int .i64 k.minutes) from Kk_6.out.cell 2)
        have DD := Lib.hid ((Below.refl w6.heap.size w6).drew)
        have vFk0 := Fk0.out
        have vFk1 := Fk1.out
        have vFk2 := Fk2.out
        have vFP0 := FP0.out
        have vFP1 := FP1.out
        have vFQ0 := FQ0.out
        have vFQ1 := FQ1.out
        refine wp_region_held_drew (S := (fun w' => w'.cell? ⟨w.heap.size, 0, none⟩ = some (.int .i64 k.length) ∧ w'.cell? ⟨w.heap.size, 1, none⟩ = some (.int .i64 k.lanes) ∧ w'.cell? ⟨w.heap.size, 2, none⟩ = some (.int .i64 k.minutes) ∧ w'.cell? ⟨wr.heap.size, 0, none⟩ = some (.int .i64 x.start) ∧ w'.cell? ⟨wr.heap.size, 1, none⟩ = some (.bool x.up) ∧ w'.cell? ⟨gl, ol + j * 3, none⟩ = some (.int .i64 z.start) ∧ w'.cell? ⟨gl, ol + j * 3 + 1, none⟩ = some (.bool z.up) ∧ Hid (Below w6.heap.size w6 w'))) (by kernel_rfl) ?_ (fun hHeld => ?_)
        · (try dsimp only); go_keep
        refine tk 0 ?_
        refine tk 1 ?_
        refine wpAnyH_ready (rs := [2]) (by kernel_rfl) (by simp) ?_
        refine AllReadyH.cons rfl (fun K hK => ?_) AllReadyH.nil
        rw [if_pos (by rfl)]
        go_simp
        go_at_call 56
        have kB := hHeld.2.2.2.2.2.2.2
        refine ((l01In_any _ _ _ _)).mono ?_
        rw [HBI.out]
        rintro e wq6_2 ⟨rfl, hbk1⟩
        have hbk := below_eq hbk1
        have HBK := kB.out.trans (hbk.mono kB.out.size)
        have QS := Lib.hid (show wq6_2.cell? ⟨w.heap.size, 0, none⟩ = some (.int .i64 k.length) ∧ wq6_2.cell? ⟨w.heap.size, 1, none⟩ = some (.int .i64 k.lanes) ∧ wq6_2.cell? ⟨w.heap.size, 2, none⟩ = some (.int .i64 k.minutes) ∧ wq6_2.cell? ⟨wr.heap.size, 0, none⟩ = some (.int .i64 x.start) ∧ wq6_2.cell? ⟨wr.heap.size, 1, none⟩ = some (.bool x.up) ∧ wq6_2.cell? ⟨gl, ol + j * 3, none⟩ = some (.int .i64 z.start) ∧ wq6_2.cell? ⟨gl, ol + j * 3 + 1, none⟩ = some (.bool z.up) ∧ Hid (Below w6.heap.size w6 wq6_2) from ⟨cell_onV Fk0.out HBK, cell_onV Fk1.out HBK, cell_onV Fk2.out HBK, cell_onV FP0.out HBK, cell_onV FP1.out HBK, cell_onV FQ0.out HBK, cell_onV FQ1.out HBK, Lib.hid HBK⟩)
        clear hbk kB hHeld HBK
        go_simp
        refine hK.out _ _ ?_ (fun hHeld => ?_)
        · (try dsimp only); exact QS.out
        clear hK K
        try simp only [Act.put, List.setIfInBounds_toArray, List.set_cons_zero, List.set_cons_succ]
        refine tk 3 ?_
        refine tk 4 ?_
        refine tk 5 ?_
        refine tk 6 ?_
        refine tk 7 ?_
        refine tk 8 ?_
        refine tk 9 ?_
        refine tk 10 ?_
        refine tk 11 ?_
        refine tk 12 ?_
        refine tk 13 ?_
        refine tk 14 ?_
        refine tk 15 ?_
        refine tk 16 ?_
        refine tk 17 ?_
        refine tk 18 ?_
        refine tk 19 ?_
        refine tk 20 ?_
        refine tku 21 ?_
        refine tku 22 ?_
        refine tku 23 ?_
        refine tku 24 ?_
        refine tku 25 ?_
        refine tku 26 ?_
        refine tku 27 ?_
        refine tku 28 ?_
        refine tku 29 ?_
        refine tk 30 ?_
        refine tk 31 ?_
        refine tk 32 ?_
        refine wpAnyH_done (by kernel_rfl) ?_ _
        go_wp2
        go_ret
        exact ⟨ret_bool E.out.symm, B6.out.trans (hHeld.2.2.2.2.2.2.2.out.mono B6.out.size)⟩
      · have d1 : decide (x.start < z.start + k.minutes) = false := decide_eq_false hls
        obtain ⟨bu, hbu⟩ : ∃ b, (x.up == z.up) = b := ⟨_, rfl⟩
        have EL2 := Lib.hid (EL.out.trans (show _ = (!bu && fitsO k fl x.ships) by rw [HBI.out, decide_eq_true (show z.start + k.minutes ≤ x.start by omega), bne, hbu]; simp))
        cases bu with
        | true =>
          have E := Lib.hid (E1.out.trans (hT.out.no HXD.out (EL2.out.trans (by simp))))
          have Fk0 := Lib.hid (show w6.cell? ⟨w.heap.size, 0, none⟩ = some (.int .i64 k.length) from Kk_6.out.cell 0)
          have Fk1 := Lib.hid (show w6.cell? ⟨w.heap.size, 1, none⟩ = some (.int .i64 k.lanes) from Kk_6.out.cell 1)
          have Fk2 := Lib.hid (show w6.cell? ⟨w.heap.size, 2, none⟩ = some (.int .i64 k.minutes) from Kk_6.out.cell 2)
          have DD := Lib.hid ((Below.refl w6.heap.size w6).drew)
          have vFk0 := Fk0.out
          have vFk1 := Fk1.out
          have vFk2 := Fk2.out
          have vFP0 := FP0.out
          have vFP1 := FP1.out
          have vFQ0 := FQ0.out
          have vFQ1 := FQ1.out
          refine wp_region_held_drew (S := (fun w' => w'.cell? ⟨w.heap.size, 0, none⟩ = some (.int .i64 k.length) ∧ w'.cell? ⟨w.heap.size, 1, none⟩ = some (.int .i64 k.lanes) ∧ w'.cell? ⟨w.heap.size, 2, none⟩ = some (.int .i64 k.minutes) ∧ w'.cell? ⟨wr.heap.size, 0, none⟩ = some (.int .i64 x.start) ∧ w'.cell? ⟨wr.heap.size, 1, none⟩ = some (.bool x.up) ∧ w'.cell? ⟨gl, ol + j * 3, none⟩ = some (.int .i64 z.start) ∧ w'.cell? ⟨gl, ol + j * 3 + 1, none⟩ = some (.bool z.up) ∧ Hid (Below w6.heap.size w6 w'))) (by kernel_rfl) ?_ (fun hHeld => ?_)
          · (try dsimp only); go_keep
          refine tk 0 ?_
          refine tk 1 ?_
          refine wpAnyH_ready (rs := [2]) (by kernel_rfl) (by simp) ?_
          refine AllReadyH.cons rfl (fun K hK => ?_) AllReadyH.nil
          rw [if_pos (by rfl)]
          go_simp
          go_at_call 56
          have kB := hHeld.2.2.2.2.2.2.2
          refine ((l01In_any _ _ _ _)).mono ?_
          rw [HBI.out]
          rintro e wq6_2 ⟨rfl, hbk1⟩
          have hbk := below_eq hbk1
          have HBK := kB.out.trans (hbk.mono kB.out.size)
          have QS := Lib.hid (show wq6_2.cell? ⟨w.heap.size, 0, none⟩ = some (.int .i64 k.length) ∧ wq6_2.cell? ⟨w.heap.size, 1, none⟩ = some (.int .i64 k.lanes) ∧ wq6_2.cell? ⟨w.heap.size, 2, none⟩ = some (.int .i64 k.minutes) ∧ wq6_2.cell? ⟨wr.heap.size, 0, none⟩ = some (.int .i64 x.start) ∧ wq6_2.cell? ⟨wr.heap.size, 1, none⟩ = some (.bool x.up) ∧ wq6_2.cell? ⟨gl, ol + j * 3, none⟩ = some (.int .i64 z.start) ∧ wq6_2.cell? ⟨gl, ol + j * 3 + 1, none⟩ = some (.bool z.up) ∧ Hid (Below w6.heap.size w6 wq6_2) from ⟨cell_onV Fk0.out HBK, cell_onV Fk1.out HBK, cell_onV Fk2.out HBK, cell_onV FP0.out HBK, cell_onV FP1.out HBK, cell_onV FQ0.out HBK, cell_onV FQ1.out HBK, Lib.hid HBK⟩)
          clear hbk kB hHeld HBK
          go_simp
          refine hK.out _ _ ?_ (fun hHeld => ?_)
          · (try dsimp only); exact QS.out
          clear hK K
          try simp only [Act.put, List.setIfInBounds_toArray, List.set_cons_zero, List.set_cons_succ]
          refine tk 3 ?_
          refine tk 4 ?_
          refine tk 5 ?_
          refine tk 6 ?_
          refine tk 7 ?_
          refine tk 8 ?_
          refine tk 9 ?_
          refine tk 10 ?_
          refine tk 11 ?_
          refine tk 12 ?_
          refine tk 13 ?_
          refine tk 14 ?_
          refine tk 15 ?_
          refine tk 16 ?_
          refine tk 17 ?_
          refine tk 18 ?_
          refine tk 19 ?_
          refine tk 20 ?_
          refine tk 21 ?_
          refine tk 22 ?_
          refine tk 23 ?_
          refine tk 24 ?_
          refine tk 25 ?_
          refine tk 26 ?_
          refine tk 27 ?_
          refine tk 28 ?_
          refine tk 29 ?_
          refine tk 30 ?_
          refine tk 31 ?_
          refine tk 32 ?_
          refine wpAnyH_done (by kernel_rfl) ?_ _
          go_wp2
          go_ret
          exact ⟨ret_bool E.out.symm, B6.out.trans (hHeld.2.2.2.2.2.2.2.out.mono B6.out.size)⟩
        | false =>
          have Fk0 := Lib.hid (show w6.cell? ⟨w.heap.size, 0, none⟩ = some (.int .i64 k.length) from Kk_6.out.cell 0)
          have Fk1 := Lib.hid (show w6.cell? ⟨w.heap.size, 1, none⟩ = some (.int .i64 k.lanes) from Kk_6.out.cell 1)
          have Fk2 := Lib.hid (show w6.cell? ⟨w.heap.size, 2, none⟩ = some (.int .i64 k.minutes) from Kk_6.out.cell 2)
          have DD := Lib.hid ((Below.refl w6.heap.size w6).drew)
          have vFk0 := Fk0.out
          have vFk1 := Fk1.out
          have vFk2 := Fk2.out
          have vFP0 := FP0.out
          have vFP1 := FP1.out
          have vFQ0 := FQ0.out
          have vFQ1 := FQ1.out
          refine wp_region_held_drew (S := (fun w' => w'.cell? ⟨w.heap.size, 0, none⟩ = some (.int .i64 k.length) ∧ w'.cell? ⟨w.heap.size, 1, none⟩ = some (.int .i64 k.lanes) ∧ w'.cell? ⟨w.heap.size, 2, none⟩ = some (.int .i64 k.minutes) ∧ w'.cell? ⟨wr.heap.size, 0, none⟩ = some (.int .i64 x.start) ∧ w'.cell? ⟨wr.heap.size, 1, none⟩ = some (.bool x.up) ∧ w'.cell? ⟨gl, ol + j * 3, none⟩ = some (.int .i64 z.start) ∧ w'.cell? ⟨gl, ol + j * 3 + 1, none⟩ = some (.bool z.up) ∧ Hid (Below w6.heap.size w6 w'))) (by kernel_rfl) ?_ (fun hHeld => ?_)
          · (try dsimp only); go_keep
          refine tk 0 ?_
          refine tk 1 ?_
          refine wpAnyH_ready (rs := [2]) (by kernel_rfl) (by simp) ?_
          refine AllReadyH.cons rfl (fun K hK => ?_) AllReadyH.nil
          rw [if_pos (by rfl)]
          go_simp
          go_at_call 56
          have kB := hHeld.2.2.2.2.2.2.2
          refine ((l01In_any _ _ _ _)).mono ?_
          rw [HBI.out]
          rintro e wq6_2 ⟨rfl, hbk1⟩
          have hbk := below_eq hbk1
          have HBK := kB.out.trans (hbk.mono kB.out.size)
          have QS := Lib.hid (show wq6_2.cell? ⟨w.heap.size, 0, none⟩ = some (.int .i64 k.length) ∧ wq6_2.cell? ⟨w.heap.size, 1, none⟩ = some (.int .i64 k.lanes) ∧ wq6_2.cell? ⟨w.heap.size, 2, none⟩ = some (.int .i64 k.minutes) ∧ wq6_2.cell? ⟨wr.heap.size, 0, none⟩ = some (.int .i64 x.start) ∧ wq6_2.cell? ⟨wr.heap.size, 1, none⟩ = some (.bool x.up) ∧ wq6_2.cell? ⟨gl, ol + j * 3, none⟩ = some (.int .i64 z.start) ∧ wq6_2.cell? ⟨gl, ol + j * 3 + 1, none⟩ = some (.bool z.up) ∧ Hid (Below w6.heap.size w6 wq6_2) from ⟨cell_onV Fk0.out HBK, cell_onV Fk1.out HBK, cell_onV Fk2.out HBK, cell_onV FP0.out HBK, cell_onV FP1.out HBK, cell_onV FQ0.out HBK, cell_onV FQ1.out HBK, Lib.hid HBK⟩)
          clear hbk kB hHeld HBK
          go_simp
          refine hK.out _ _ ?_ (fun hHeld => ?_)
          · (try dsimp only); exact QS.out
          clear hK K
          try simp only [Act.put, List.setIfInBounds_toArray, List.set_cons_zero, List.set_cons_succ]
          refine tk 3 ?_
          refine tk 4 ?_
          refine tk 5 ?_
          refine tk 6 ?_
          refine tk 7 ?_
          refine tk 8 ?_
          refine tk 9 ?_
          refine tk 10 ?_
          refine tk 11 ?_
          refine tk 12 ?_
          refine tk 13 ?_
          refine tk 14 ?_
          refine tk 15 ?_
          refine tk 16 ?_
          refine tk 17 ?_
          refine tk 18 ?_
          refine tk 19 ?_
          refine tk 20 ?_
          refine tk 21 ?_
          refine tk 22 ?_
          refine tk 23 ?_
          refine tk 24 ?_
          refine tk 25 ?_
          refine tk 26 ?_
          refine tk 27 ?_
          refine tk 28 ?_
          refine tk 29 ?_
          refine tk 30 ?_
          refine tk 31 ?_
          refine tk 32 ?_
          refine wpAnyH_done (by kernel_rfl) ?_ _
          have EQ := Lib.hid (show lockB k fl x.d (prevL l i) = fitsO k fl x.ships from EL2.out.trans (by simp))
          have BK := Lib.hid hHeld.2.2.2.2.2.2.2.out
          have B7 := Lib.hid (B6.out.trans (BK.out.mono B6.out.size))
          have Kk_7 := Lib.hid (Kk_6.out.below BK.out)
          have KP7 := Lib.hid (KP.out.below BK.out)
          have hb7 := Lib.hid (hb6.out.trans (BK.out.mono hb6.out.size))
          clear BK hHeld DD vFP0 vFP1 vFQ0 vFQ1 vFk0 vFk1 vFk2
          have u2 : wq6_2.cell? ⟨wr.heap.size, 2, none⟩ = some (.slice Ax x.ships.length cx) := KP7.out.cell 2
          obtain ⟨lo, hlo⟩ : ∃ y, lensO fl x.ships = y := ⟨_, rfl⟩
          have HLO := Lib.hid hlo
          clear hlo
          go_wp2_with fail
          clear u2
          refine (specLengths _ _ fl x.ships _ (Rfl.out.below B7.out) (HXI.out.below B7.out) HXL.out).mono ?_
          rw [HLO.out]
          rintro e w8 ⟨v8, rfl, hv8, hb8⟩
          have B8 := Lib.hid (B7.out.trans (hb8.mono B7.out.size))
          have Kk_8 := Lib.hid (Kk_7.out.below hb8)
          have hbw8 := Lib.hid (hb7.out.trans (hb8.mono hb7.out.size))
          clear hb8
          cases lo with
          | none =>
            have E := Lib.hid (E1.out.trans (hT.out.no HXD.out (EQ.out.trans (fitsO_none HLO.out))))
            go_wp2
            go_ret
            exact ⟨ret_bool E.out.symm, B8.out⟩
          | some t =>
            have EQ2 := Lib.hid (EQ.out.trans (fitsO_some HLO.out))
            have HT8 := Lib.hid (OwnInt.sl (hv8 t rfl) (by have := lensO_len HLO.out; omega))
            obtain ⟨po, hpo⟩ : ∃ y, (packO k t).isSome = y := ⟨_, rfl⟩
            have HPO := Lib.hid hpo
            clear hpo hv8
            have vk0 : w8.cell? ⟨w.heap.size, 0, none⟩ = some (.int .i64 k.length) := Kk_8.out.cell 0
            have vk1 : w8.cell? ⟨w.heap.size, 1, none⟩ = some (.int .i64 k.lanes) := Kk_8.out.cell 1
            have vk2 : w8.cell? ⟨w.heap.size, 2, none⟩ = some (.int .i64 k.minutes) := Kk_8.out.cell 2
            go_wp2_with fail
            clear vk0 vk1 vk2
            refine (specPackShips k _ t _ HT8.out).mono ?_
            rw [HPO.out]
            rintro e w9 ⟨v9, rfl, -, hb9⟩
            have B9 := Lib.hid (B8.out.trans (hb9.mono B8.out.size))
            have hbw9 := Lib.hid (hbw8.out.trans (hb9.mono hbw8.out.size))
            clear hb9
            cases po with
            | false =>
              have E := Lib.hid (E1.out.trans (hT.out.no HXD.out (EQ2.out.trans HPO.out)))
              go_wp2
              go_ret
              exact ⟨ret_bool E.out.symm, B9.out⟩
            | true =>
              have TN := Lib.hid (hT.out.next HXD.out (EQ2.out.trans HPO.out))
              go_wp2
              go_roundw
              case rel => exact ⟨i + 1, by omega, by go_num, TN, hbw9⟩
              case measure => simp [intOf]; omega
end Go.Proofs.Ytlddampjbmklkaa
