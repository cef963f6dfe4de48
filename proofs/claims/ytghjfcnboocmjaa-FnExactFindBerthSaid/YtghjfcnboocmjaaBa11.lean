
/- What ExactStaysOk and ExactFindBerth and ExactAllotBerths and ExactBerthLoad rests on, part 11: contracts and mathematics. -/
import Derived.Test.YtghjfcnboocmjaaBaTk
import Derived.Test.YtghjfcnboocmjaaBa9
import Derived.Test.YtghjfcnboocmjaaBa8
import Derived.Deep.RegionHeld3
namespace Go.Proofs.Ytghjfcnboocmjaa
open Go.RowKit
set_option maxRecDepth 100000
theorem below_eqS {w w' : World} (h : w = w') : Below w.heap.size w w' := by rw [← h]; exact Below.refl _ _
theorem stayB_parts {bs : List BerthD} {fl : List ShipD} {s : StayD} {b1 b2 b3 b4 : Bool} (h1 : inB s.ship 0 ((fl.length : Int) - 1) = b1) (h2 : inB s.berth 0 ((bs.length : Int) - 1) = b2) (h3 : timeB s = b3) (h4 : fitAt bs fl s = b4) : stayB bs fl s = (b1 && b2 && b3 && b4) := by unfold stayB; rw [h1, h2, h3, h4]
theorem fitAt_at {bs : List BerthD} {fl : List ShipD} {s : StayD} {i j : Nat} {b : BerthD} {x : ShipD} (h1 : s.berth = (i : Int)) (h2 : s.ship = (j : Int)) (hb : bs[i]? = some b) (hx : fl[j]? = some x) : fitAt bs fl s = fitB b x := by unfold fitAt; rw [h1, h2, Int.toNat_natCast, Int.toNat_natCast, hb, hx]
theorem pStay_no {bs : List BerthD} {fl : List ShipD} {l : List StayD} {s : StayD} (h : stayB bs fl s = false) : pStay bs fl l s = false := by unfold pStay; rw [h]; rfl
theorem staysB_no {bs : List BerthD} {fl : List ShipD} {l : List StayD} {i : Nat} {s : StayD} (hx : l[i]? = some s) (hp : pStay bs fl (l.take i) s = false) : runB (pStay bs fl) [] l = false := run_no hx hp
set_option maxHeartbeats 32000000 in
theorem specStaysOk (ybs : Value) (bs : List BerthD) (yfl : Value) (fl : List ShipD) (yl : Value) (l : List StayD) (w : World) (rbs : SlBerth w ybs bs) (rfl : SlShip w yfl fl) (rl : SlStay w yl l) (fbs : ∀ x ∈ bs, BerthD.wf x) (ffl : ∀ x ∈ fl, ShipD.wf x) :
    Calls Try.prog 31 #[ybs, yfl, yl] w (fun e w' => e = .returned (.bool (staysB bs fl l)) ∧ Below w.heap.size w w') := by
  have Rbs := Lib.hid rbs
  obtain ⟨Abs, cbs, rfl⟩ := SlOf.form rbs
  clear rbs
  have Nbs := Lib.hid fbs
  clear fbs
  have Rfl := Lib.hid rfl
  obtain ⟨Afl, cfl, rfl⟩ := SlOf.form rfl
  clear rfl
  have Nfl := Lib.hid ffl
  clear ffl
  have Rl := Lib.hid rl
  obtain ⟨Al, cl, rfl⟩ := SlOf.form rl
  clear rl
  have B := Lib.hid (Below.refl w.heap.size w)
  have hlb := Rbs.out.1
  have hlf := Rfl.out.1
  have hll := Rl.out.1
  obtain ⟨b1, hb1⟩ : ∃ b, berthsB bs = b := ⟨_, rfl⟩
  have Hb1 := Lib.hid hb1
  obtain ⟨b2, hb2⟩ : ∃ b, fleetB fl = b := ⟨_, rfl⟩
  have Hb2 := Lib.hid hb2
  obtain ⟨b3, hb3⟩ : ∃ b, decide (l.length ≤ 12) = b := ⟨_, rfl⟩
  have Hb3 := Lib.hid hb3
  have E0 := Lib.hid (show staysB bs fl l = (b1 && b2 && b3 && runB (pStay bs fl) [] l) by unfold staysB; rw [hb1, hb2, ← hb3])
  have hcap : 0 < l.length → l.length ≤ cl := fun h0 => by
    rcases Rl.out.2 with ⟨he, _⟩ | ⟨g, o, c, e, _, hc, _⟩
    · rw [he] at h0; simp at h0
    · injection e with _ _ e3; omega
  have HCAP := Lib.hid hcap
  have HRL := Lib.hid Rl.out
  obtain ⟨m, hm⟩ : ∃ m, l.length = m := ⟨_, rfl⟩
  have HM := Lib.hid hm
  rw [hm] at Hb3 HCAP hll Rl
  try rw [hm]
  obtain ⟨nb, hnb⟩ : ∃ m, bs.length = m := ⟨_, rfl⟩
  have HNB := Lib.hid hnb
  rw [hnb] at hlb Rbs
  try rw [hnb]
  obtain ⟨nf, hnf⟩ : ∃ m, fl.length = m := ⟨_, rfl⟩
  have HNF := Lib.hid hnf
  rw [hnf] at hlf Rfl
  try rw [hnf]
  clear hb1 hb2 hb3 hm hnb hnf hcap
  cases b1 with
  | false =>
    have E := Lib.hid (E0.out.trans (show _ = false by simp))
    go_enter Try.func31, Try.ntmps31
    go_wp2_with fail
    refine (specBerthsOk _ bs _ (Rbs.out.below B.out) Nbs.out).mono ?_
    rw [Hb1.out]
    rintro e w1 ⟨rfl, hb1⟩
    have B1 := Lib.hid (B.out.trans (hb1.mono B.out.size))
    clear hb1
    go_wp2
    go_ret
    exact ⟨ret_bool E.out.symm, B1.out⟩
  | true =>
  cases b2 with
  | false =>
    have E := Lib.hid (E0.out.trans (show _ = false by simp))
    go_enter Try.func31, Try.ntmps31
    go_wp2_with fail
    refine (specBerthsOk _ bs _ (Rbs.out.below B.out) Nbs.out).mono ?_
    rw [Hb1.out]
    rintro e w1 ⟨rfl, hb1⟩
    have B1 := Lib.hid (B.out.trans (hb1.mono B.out.size))
    clear hb1
    go_wp2_with fail
    refine (specFleetOk _ fl _ (Rfl.out.below B1.out) Nfl.out).mono ?_
    rw [Hb2.out]
    rintro e w2 ⟨rfl, hb2⟩
    have B2 := Lib.hid (B1.out.trans (hb2.mono B1.out.size))
    clear hb2
    go_wp2
    go_ret
    exact ⟨ret_bool E.out.symm, B2.out⟩
  | true =>
  cases b3 with
  | false =>
    have E := Lib.hid (E0.out.trans (show _ = false by simp))
    go_enter Try.func31, Try.ntmps31
    go_wp2_with fail
    refine (specBerthsOk _ bs _ (Rbs.out.below B.out) Nbs.out).mono ?_
    rw [Hb1.out]
    rintro e w1 ⟨rfl, hb1⟩
    have B1 := Lib.hid (B.out.trans (hb1.mono B.out.size))
    clear hb1
    go_wp2_with fail
    refine (specFleetOk _ fl _ (Rfl.out.below B1.out) Nfl.out).mono ?_
    rw [Hb2.out]
    rintro e w2 ⟨rfl, hb2⟩
    have B2 := Lib.hid (B1.out.trans (hb2.mono B1.out.size))
    clear hb2
    have h12 : ¬ m ≤ 12 := of_decide_eq_false Hb3.out
    have g12 : decide ((12 : Int) < (m : Int)) = true := decide_eq_true (by omega)
    go_wp2
    go_ret
    exact ⟨ret_bool E.out.symm, B2.out⟩
  | true =>
  have h12 : m ≤ 12 := of_decide_eq_true Hb3.out
  have g12 : decide ((12 : Int) < (m : Int)) = false := decide_eq_false (by omega)
  have E1 := Lib.hid (E0.out.trans (show _ = runB (pStay bs fl) [] l by simp))
  go_enter Try.func31, Try.ntmps31
  go_wp2_with fail
  refine (specBerthsOk _ bs _ (Rbs.out.below B.out) Nbs.out).mono ?_
  rw [Hb1.out]
  rintro e w1 ⟨rfl, hb1⟩
  have B1 := Lib.hid (B.out.trans (hb1.mono B.out.size))
  clear hb1
  go_wp2_with fail
  refine (specFleetOk _ fl _ (Rfl.out.below B1.out) Nfl.out).mono ?_
  rw [Hb2.out]
  rintro e w2 ⟨rfl, hb2⟩
  have B2 := Lib.hid (B1.out.trans (hb2.mono B1.out.size))
  clear hb2
  go_wp2
  go_loopw [26] (fun t wr => ∃ i : Nat, i ≤ m ∧ t = .int .i64 (i : Int) ∧ Hid (RunTo (pStay bs fl) l i) ∧ Hid (Below w2.heap.size w2 wr)) (fun t _ => m - (intOf t).toNat)
  case atStart => exact ⟨0, Nat.zero_le _, rfl, Lib.hid (RunTo.zero _ _), Lib.hid (Below.refl _ _)⟩
  case round =>
    obtain ⟨i, hi, rfl, hT, hb⟩ := hrel
    have BR := Lib.hid (B2.out.trans (hb.out.mono B2.out.size))
    have hzs := hb.out.size
    by_cases hlt : i < m
    rotate_left
    · obtain rfl : i = m := by omega
      have E := Lib.hid (E1.out.trans (RunTo.all (by rw [HM.out]; exact hT.out)))
      go_wp2
      go_ret
      exact ⟨ret_bool E.out.symm, BR.out⟩
    have hcap := HCAP.out (by omega)
    obtain ⟨x, hx⟩ : ∃ x, l[i]? = some x := ⟨_, List.getElem?_eq_getElem (by have := HM.out; omega)⟩
    have HX := Lib.hid hx
    rcases HRL.out.2 with ⟨he, _⟩ | ⟨gl, ol, cl', e, lpos, lcap, lc⟩
    · rw [he] at hx; simp at hx
    injection e with ea e2 e3
    subst ea
    clear e2 e3 lpos lcap
    have HLC := Lib.hid lc
    obtain ⟨p0, p1, p2, p3⟩ := SlStay.cells lc i x hx
    have y0 := cell_onV p0 BR.out
    have y1 := cell_onV p1 BR.out
    have y2 := cell_onV p2 BR.out
    have y3 := cell_onV p3 BR.out
    clear p0 p1 p2 p3 lc hx
    go_upto_region 6 with fail
    have BL := Joins.below_alloc1 wr (.cells #[.int .i64 x.ship, .int .i64 x.berth, .int .i64 x.fr, .int .i64 x.tt] 33)
    have KN := Blk.new wr #[.int .i64 x.ship, .int .i64 x.berth, .int .i64 x.fr, .int .i64 x.tt] 33
    obtain ⟨w6, hw6⟩ : ∃ w6, w6 = wr.alloc (.cells #[.int .i64 x.ship, .int .i64 x.berth, .int .i64 x.fr, .int .i64 x.tt] 33) := ⟨_, rfl⟩
    rw [← hw6] at BL KN ⊢
    have B6 := Lib.hid (BR.out.trans (BL.mono BR.out.size))
    have KP := Lib.hid KN
    have hb6 := Lib.hid (hb.out.trans (BL.mono hb.out.size))
    obtain ⟨wo, hwo⟩ : ∃ W, W = wr := ⟨_, rfl⟩
    rw [← hwo] at KP hzs ⊢
    clear hw6 hwo BL KN y0 y1 y2 y3 hb
    have FP0 := Lib.hid (show w6.cell? ⟨wo.heap.size, 0, none⟩ = some (.int .i64 x.ship) from KP.out.cell 0)
    have FP1 := Lib.hid (show w6.cell? ⟨wo.heap.size, 1, none⟩ = some (.int .i64 x.berth) from KP.out.cell 1)
    have FP2 := Lib.hid (show w6.cell? ⟨wo.heap.size, 2, none⟩ = some (.int .i64 x.fr) from KP.out.cell 2)
    have FP3 := Lib.hid (show w6.cell? ⟨wo.heap.size, 3, none⟩ = some (.int .i64 x.tt) from KP.out.cell 3)
    have ws1 : IntKind.i64.wrap ((nf : Int) - 1) = (nf : Int) - 1 := by rw [IntKind.wrap_i64]; omega
    have ws2 : IntKind.i64.wrap ((nb : Int) - 1) = (nb : Int) - 1 := by rw [IntKind.wrap_i64]; omega
    obtain ⟨c1, hc1⟩ : ∃ b, inB x.ship 0 ((nf : Int) - 1) = b := ⟨_, rfl⟩
    have Hc1 := Lib.hid hc1
    obtain ⟨c2, hc2⟩ : ∃ b, inB x.berth 0 ((nb : Int) - 1) = b := ⟨_, rfl⟩
    have Hc2 := Lib.hid hc2
    obtain ⟨c3, hc3⟩ : ∃ b, timeB x = b := ⟨_, rfl⟩
    have Hc3 := Lib.hid hc3
    obtain ⟨c4, hc4⟩ : ∃ b, fitAt bs fl x = b := ⟨_, rfl⟩
    have Hc4 := Lib.hid hc4
    have ES := Lib.hid (stayB_parts (bs := bs) (fl := fl) (s := x) (b1 := c1) (b2 := c2) (b3 := c3) (b4 := c4) (by rw [HNF.out]; exact hc1) (by rw [HNB.out]; exact hc2) hc3 hc4)
    clear hc1 hc2 hc3 hc4
    cases c1 with
    | false =>
      have DD := Lib.hid ((Below.refl w6.heap.size w6).drew)
      have vFP0 := FP0.out
      have vFP1 := FP1.out
      have vFP2 := FP2.out
      have vFP3 := FP3.out
      refine wp_region_held_drew (S := (fun w' => w'.cell? ⟨wo.heap.size, 0, none⟩ = some (.int .i64 x.ship) ∧ w'.cell? ⟨wo.heap.size, 1, none⟩ = some (.int .i64 x.berth) ∧ w'.cell? ⟨wo.heap.size, 2, none⟩ = some (.int .i64 x.fr) ∧ w'.cell? ⟨wo.heap.size, 3, none⟩ = some (.int .i64 x.tt) ∧ Hid (Below w6.heap.size w6 w'))) (by kernel_rfl) ?_ (fun hHeld => ?_)
      · (try dsimp only); go_keep
      refine tk 0 ?_
      refine tk 1 ?_
      refine tk 2 ?_
      refine tk 3 ?_
      refine tk 4 ?_
      refine wpAnyH_ready (rs := [5]) (by kernel_rfl) (by simp) ?_
      refine AllReadyH.cons rfl (fun K hK => ?_) AllReadyH.nil
      rw [if_pos (by rfl)]
      go_simp
      go_at_call 65
      have kB := hHeld.2.2.2.2
      refine ((l01In_any _ _ _ _)).mono ?_
      rw [Hc1.out]
      rintro e wq6_5 ⟨rfl, hbk1⟩
      have hbk := below_eqS hbk1
      have HBK := kB.out.trans (hbk.mono kB.out.size)
      have QS := Lib.hid (show wq6_5.cell? ⟨wo.heap.size, 0, none⟩ = some (.int .i64 x.ship) ∧ wq6_5.cell? ⟨wo.heap.size, 1, none⟩ = some (.int .i64 x.berth) ∧ wq6_5.cell? ⟨wo.heap.size, 2, none⟩ = some (.int .i64 x.fr) ∧ wq6_5.cell? ⟨wo.heap.size, 3, none⟩ = some (.int .i64 x.tt) ∧ Hid (Below w6.heap.size w6 wq6_5) from ⟨cell_onV FP0.out HBK, cell_onV FP1.out HBK, cell_onV FP2.out HBK, cell_onV FP3.out HBK, Lib.hid HBK⟩)
      clear hbk kB hHeld HBK
      go_simp
      refine hK.out _ _ ?_ (fun hHeld => ?_)
      · (try dsimp only); exact QS.out
      clear hK K
      try simp only [Act.put, List.setIfInBounds_toArray, List.set_cons_zero, List.set_cons_succ]
      refine tk 6 ?_
      refine tk 7 ?_
      refine tku 8 ?_
      refine tku 9 ?_
      refine tku 10 ?_
      refine tku 11 ?_
      refine tku 12 ?_
      refine tku 13 ?_
      refine tku 14 ?_
      refine tk 15 ?_
      refine tk 16 ?_
      refine tku 17 ?_
      refine tku 18 ?_
      refine tku 19 ?_
      refine tk 20 ?_
      refine tk 21 ?_
      refine tku 22 ?_
      refine tku 23 ?_
      refine tku 24 ?_
      refine tku 25 ?_
      refine tku 26 ?_
      refine tku 27 ?_
      refine tku 28 ?_
      refine tku 29 ?_
      refine tku 30 ?_
      refine tku 31 ?_
      refine tku 32 ?_
      refine tku 33 ?_
      refine tk 34 ?_
      refine wpAnyH_done (by kernel_rfl) ?_ _
      have E := Lib.hid (E1.out.trans (staysB_no HX.out (pStay_no (ES.out.trans (by simp)))))
      go_wp2
      go_ret
      exact ⟨ret_bool E.out.symm, B6.out.trans (hHeld.2.2.2.2.out.mono B6.out.size)⟩
    | true =>
    cases c2 with
    | false =>
      have DD := Lib.hid ((Below.refl w6.heap.size w6).drew)
      have vFP0 := FP0.out
      have vFP1 := FP1.out
      have vFP2 := FP2.out
      have vFP3 := FP3.out
      refine wp_region_held_drew (S := (fun w' => w'.cell? ⟨wo.heap.size, 0, none⟩ = some (.int .i64 x.ship) ∧ w'.cell? ⟨wo.heap.size, 1, none⟩ = some (.int .i64 x.berth) ∧ w'.cell? ⟨wo.heap.size, 2, none⟩ = some (.int .i64 x.fr) ∧ w'.cell? ⟨wo.heap.size, 3, none⟩ = some (.int .i64 x.tt) ∧ Hid (Below w6.heap.size w6 w'))) (by kernel_rfl) ?_ (fun hHeld => ?_)
      · (try dsimp only); go_keep
      refine tk 0 ?_
      refine tk 1 ?_
      refine tk 2 ?_
      refine tk 3 ?_
      refine tk 4 ?_
      refine wpAnyH_ready (rs := [5]) (by kernel_rfl) (by simp) ?_
      refine AllReadyH.cons rfl (fun K hK => ?_) AllReadyH.nil
      rw [if_pos (by rfl)]
      go_simp
      go_at_call 65
      have kB := hHeld.2.2.2.2
      refine ((l01In_any _ _ _ _)).mono ?_
      rw [Hc1.out]
      rintro e wq6_5 ⟨rfl, hbk1⟩
      have hbk := below_eqS hbk1
      have HBK := kB.out.trans (hbk.mono kB.out.size)
      have QS := Lib.hid (show wq6_5.cell? ⟨wo.heap.size, 0, none⟩ = some (.int .i64 x.ship) ∧ wq6_5.cell? ⟨wo.heap.size, 1, none⟩ = some (.int .i64 x.berth) ∧ wq6_5.cell? ⟨wo.heap.size, 2, none⟩ = some (.int .i64 x.fr) ∧ wq6_5.cell? ⟨wo.heap.size, 3, none⟩ = some (.int .i64 x.tt) ∧ Hid (Below w6.heap.size w6 wq6_5) from ⟨cell_onV FP0.out HBK, cell_onV FP1.out HBK, cell_onV FP2.out HBK, cell_onV FP3.out HBK, Lib.hid HBK⟩)
      clear hbk kB hHeld HBK
      go_simp
      refine hK.out _ _ ?_ (fun hHeld => ?_)
      · (try dsimp only); exact QS.out
      clear hK K
      try simp only [Act.put, List.setIfInBounds_toArray, List.set_cons_zero, List.set_cons_succ]
      refine tk 6 ?_
      refine tk 7 ?_
      refine tk 8 ?_
      refine tk 9 ?_
      refine tk 10 ?_
      refine tk 11 ?_
      refine tk 12 ?_
      refine wpAnyH_ready (rs := [13]) (by kernel_rfl) (by simp) ?_
      refine AllReadyH.cons rfl (fun K hK => ?_) AllReadyH.nil
      rw [if_pos (by rfl)]
      go_simp
      go_at_call 65
      have kB := hHeld.2.2.2.2
      refine ((l01In_any _ _ _ _)).mono ?_
      rw [Hc2.out]
      rintro e wq6_13 ⟨rfl, hbk1⟩
      have hbk := below_eqS hbk1
      have HBK := kB.out.trans (hbk.mono kB.out.size)
      have QS := Lib.hid (show wq6_13.cell? ⟨wo.heap.size, 0, none⟩ = some (.int .i64 x.ship) ∧ wq6_13.cell? ⟨wo.heap.size, 1, none⟩ = some (.int .i64 x.berth) ∧ wq6_13.cell? ⟨wo.heap.size, 2, none⟩ = some (.int .i64 x.fr) ∧ wq6_13.cell? ⟨wo.heap.size, 3, none⟩ = some (.int .i64 x.tt) ∧ Hid (Below w6.heap.size w6 wq6_13) from ⟨cell_onV FP0.out HBK, cell_onV FP1.out HBK, cell_onV FP2.out HBK, cell_onV FP3.out HBK, Lib.hid HBK⟩)
      clear hbk kB hHeld HBK
      go_simp
      refine hK.out _ _ ?_ (fun hHeld => ?_)
      · (try dsimp only); exact QS.out
      clear hK K
      try simp only [Act.put, List.setIfInBounds_toArray, List.set_cons_zero, List.set_cons_succ]
      refine tk 14 ?_
      refine tk 15 ?_
      refine tk 16 ?_
      refine tku 17 ?_
      refine tku 18 ?_
      refine tku 19 ?_
      refine tk 20 ?_
      refine tk 21 ?_
      refine tku 22 ?_
      refine tku 23 ?_
      refine tku 24 ?_
      refine tku 25 ?_
      refine tku 26 ?_
      refine tku 27 ?_
      refine tku 28 ?_
      refine tku 29 ?_
      refine tku 30 ?_
      refine tku 31 ?_
      refine tku 32 ?_
      refine tku 33 ?_
      refine tk 34 ?_
      refine wpAnyH_done (by kernel_rfl) ?_ _
      have E := Lib.hid (E1.out.trans (staysB_no HX.out (pStay_no (ES.out.trans (by simp)))))
      go_wp2
      go_ret
      exact ⟨ret_bool E.out.symm, B6.out.trans (hHeld.2.2.2.2.out.mono B6.out.size)⟩
    | true =>
    cases c3 with
    | false =>
      have DD := Lib.hid ((Below.refl w6.heap.size w6).drew)
      have vFP0 := FP0.out
      have vFP1 := FP1.out
      have vFP2 := FP2.out
      have vFP3 := FP3.out
      refine wp_region_held_drew (S := (fun w' => w'.cell? ⟨wo.heap.size, 0, none⟩ = some (.int .i64 x.ship) ∧ w'.cell? ⟨wo.heap.size, 1, none⟩ = some (.int .i64 x.berth) ∧ w'.cell? ⟨wo.heap.size, 2, none⟩ = some (.int .i64 x.fr) ∧ w'.cell? ⟨wo.heap.size, 3, none⟩ = some (.int .i64 x.tt) ∧ Hid (Below w6.heap.size w6 w'))) (by kernel_rfl) ?_ (fun hHeld => ?_)
      · (try dsimp only); go_keep
      refine tk 0 ?_
      refine tk 1 ?_
      refine tk 2 ?_
      refine tk 3 ?_
      refine tk 4 ?_
      refine wpAnyH_ready (rs := [5]) (by kernel_rfl) (by simp) ?_
      refine AllReadyH.cons rfl (fun K hK => ?_) AllReadyH.nil
      rw [if_pos (by rfl)]
      go_simp
      go_at_call 65
      have kB := hHeld.2.2.2.2
      refine ((l01In_any _ _ _ _)).mono ?_
      rw [Hc1.out]
      rintro e wq6_5 ⟨rfl, hbk1⟩
      have hbk := below_eqS hbk1
      have HBK := kB.out.trans (hbk.mono kB.out.size)
      have QS := Lib.hid (show wq6_5.cell? ⟨wo.heap.size, 0, none⟩ = some (.int .i64 x.ship) ∧ wq6_5.cell? ⟨wo.heap.size, 1, none⟩ = some (.int .i64 x.berth) ∧ wq6_5.cell? ⟨wo.heap.size, 2, none⟩ = some (.int .i64 x.fr) ∧ wq6_5.cell? ⟨wo.heap.size, 3, none⟩ = some (.int .i64 x.tt) ∧ Hid (Below w6.heap.size w6 wq6_5) from ⟨cell_onV FP0.out HBK, cell_onV FP1.out HBK, cell_onV FP2.out HBK, cell_onV FP3.out HBK, Lib.hid HBK⟩)
      clear hbk kB hHeld HBK
      go_simp
      refine hK.out _ _ ?_ (fun hHeld => ?_)
      · (try dsimp only); exact QS.out
      clear hK K
      try simp only [Act.put, List.setIfInBounds_toArray, List.set_cons_zero, List.set_cons_succ]
      refine tk 6 ?_
      refine tk 7 ?_
      refine tk 8 ?_
      refine tk 9 ?_
      refine tk 10 ?_
      refine tk 11 ?_
      refine tk 12 ?_
      refine wpAnyH_ready (rs := [13]) (by kernel_rfl) (by simp) ?_
      refine AllReadyH.cons rfl (fun K hK => ?_) AllReadyH.nil
      rw [if_pos (by rfl)]
      go_simp
      go_at_call 65
      have kB := hHeld.2.2.2.2
      refine ((l01In_any _ _ _ _)).mono ?_
      rw [Hc2.out]
      rintro e wq6_13 ⟨rfl, hbk1⟩
      have hbk := below_eqS hbk1
      have HBK := kB.out.trans (hbk.mono kB.out.size)
      have QS := Lib.hid (show wq6_13.cell? ⟨wo.heap.size, 0, none⟩ = some (.int .i64 x.ship) ∧ wq6_13.cell? ⟨wo.heap.size, 1, none⟩ = some (.int .i64 x.berth) ∧ wq6_13.cell? ⟨wo.heap.size, 2, none⟩ = some (.int .i64 x.fr) ∧ wq6_13.cell? ⟨wo.heap.size, 3, none⟩ = some (.int .i64 x.tt) ∧ Hid (Below w6.heap.size w6 wq6_13) from ⟨cell_onV FP0.out HBK, cell_onV FP1.out HBK, cell_onV FP2.out HBK, cell_onV FP3.out HBK, Lib.hid HBK⟩)
      clear hbk kB hHeld HBK
      go_simp
      refine hK.out _ _ ?_ (fun hHeld => ?_)
      · (try dsimp only); exact QS.out
      clear hK K
      try simp only [Act.put, List.setIfInBounds_toArray, List.set_cons_zero, List.set_cons_succ]
      refine tk 14 ?_
      refine tk 15 ?_
      refine tk 16 ?_
      refine tk 17 ?_
      refine wpAnyH_ready (rs := [18]) (by kernel_rfl) (by simp) ?_
      refine AllReadyH.cons rfl (fun K hK => ?_) AllReadyH.nil
      rw [if_pos (by rfl)]
      go_simp
      go_at_call 69
      have kB := hHeld.2.2.2.2
      refine ((specTime x _)).mono ?_
      rw [Hc3.out]
      rintro e wq6_18 ⟨rfl, hbk⟩
      have HBK := kB.out.trans (hbk.mono kB.out.size)
      have QS := Lib.hid (show wq6_18.cell? ⟨wo.heap.size, 0, none⟩ = some (.int .i64 x.ship) ∧ wq6_18.cell? ⟨wo.heap.size, 1, none⟩ = some (.int .i64 x.berth) ∧ wq6_18.cell? ⟨wo.heap.size, 2, none⟩ = some (.int .i64 x.fr) ∧ wq6_18.cell? ⟨wo.heap.size, 3, none⟩ = some (.int .i64 x.tt) ∧ Hid (Below w6.heap.size w6 wq6_18) from ⟨cell_onV FP0.out HBK, cell_onV FP1.out HBK, cell_onV FP2.out HBK, cell_onV FP3.out HBK, Lib.hid HBK⟩)
      clear hbk kB hHeld HBK
      go_simp
      refine hK.out _ _ ?_ (fun hHeld => ?_)
      · (try dsimp only); exact QS.out
      clear hK K
      try simp only [Act.put, List.setIfInBounds_toArray, List.set_cons_zero, List.set_cons_succ]
      refine tk 19 ?_
      refine tk 20 ?_
      refine tk 21 ?_
      refine tku 22 ?_
      refine tku 23 ?_
      refine tku 24 ?_
      refine tku 25 ?_
      refine tku 26 ?_
      refine tku 27 ?_
      refine tku 28 ?_
      refine tku 29 ?_
      refine tku 30 ?_
      refine tku 31 ?_
      refine tku 32 ?_
      refine tku 33 ?_
      refine tk 34 ?_
      refine wpAnyH_done (by kernel_rfl) ?_ _
      have E := Lib.hid (E1.out.trans (staysB_no HX.out (pStay_no (ES.out.trans (by simp)))))
      go_wp2
      go_ret
      exact ⟨ret_bool E.out.symm, B6.out.trans (hHeld.2.2.2.2.out.mono B6.out.size)⟩
    | true =>
    have hs := of_decide_eq_true (show decide (0 ≤ x.ship ∧ x.ship ≤ (nf : Int) - 1) = true from Hc1.out)
    have hbb := of_decide_eq_true (show decide (0 ≤ x.berth ∧ x.berth ≤ (nb : Int) - 1) = true from Hc2.out)
    obtain ⟨js, hjs⟩ : ∃ j : Nat, x.ship = (j : Int) := ⟨x.ship.toNat, by omega⟩
    obtain ⟨jb, hjb⟩ : ∃ j : Nat, x.berth = (j : Int) := ⟨x.berth.toNat, by omega⟩
    obtain ⟨sx, hsx⟩ : ∃ s, fl[js]? = some s := ⟨_, List.getElem?_eq_getElem (by have := HNF.out; omega)⟩
    obtain ⟨bx, hbx⟩ : ∃ b, bs[jb]? = some b := ⟨_, List.getElem?_eq_getElem (by have := HNB.out; omega)⟩
    have WS := Lib.hid (Nfl.out sx (List.mem_of_getElem? hsx))
    have WB := Lib.hid (Nbs.out bx (List.mem_of_getElem? hbx))
    have HFT := Lib.hid ((fitAt_at hjb hjs hbx hsx).symm.trans Hc4.out)
    rcases Rfl.out.2 with ⟨he, _⟩ | ⟨gf, of, cf', e, fpos, fcap, fc⟩
    · rw [he] at hsx; simp at hsx
    injection e with ea e2 e3
    subst ea
    clear e2 e3 fpos fcap
    rcases Rbs.out.2 with ⟨he, _⟩ | ⟨gb, ob, cb', e, bpos, bcap, bc⟩
    · rw [he] at hbx; simp at hbx
    injection e with ea e2 e3
    subst ea
    clear e2 e3 bpos bcap
    obtain ⟨r0, r1, r2, r3, r4, r5⟩ := SlShip.cells fc js sx hsx
    obtain ⟨t0, t1, t2⟩ := SlBerth.cells bc jb bx hbx
    clear fc bc hsx hbx
    have FS0 := Lib.hid (show w6.cell? ⟨gf, of + js * 6, none⟩ = some (.string sx.name) from cell_onV r0 B6.out)
    have FS1 := Lib.hid (show w6.cell? ⟨gf, of + js * 6 + 1, none⟩ = some (.int .i64 sx.length) from cell_onV r1 B6.out)
    have FS2 := Lib.hid (show w6.cell? ⟨gf, of + js * 6 + 2, none⟩ = some (.int .i64 sx.draught) from cell_onV r2 B6.out)
    have FS3 := Lib.hid (show w6.cell? ⟨gf, of + js * 6 + 3, none⟩ = some (.int .i64 sx.line) from cell_onV r3 B6.out)
    have FS4 := Lib.hid (show w6.cell? ⟨gf, of + js * 6 + 4, none⟩ = some (.int .i64 sx.tugs) from cell_onV r4 B6.out)
    have FS5 := Lib.hid (show w6.cell? ⟨gf, of + js * 6 + 5, none⟩ = some (.bool sx.slow) from cell_onV r5 B6.out)
    have FB0 := Lib.hid (show w6.cell? ⟨gb, ob + jb * 3, none⟩ = some (.string bx.name) from cell_onV t0 B6.out)
    have FB1 := Lib.hid (show w6.cell? ⟨gb, ob + jb * 3 + 1, none⟩ = some (.int .i64 bx.length) from cell_onV t1 B6.out)
    have FB2 := Lib.hid (show w6.cell? ⟨gb, ob + jb * 3 + 2, none⟩ = some (.int .i64 bx.depth) from cell_onV t2 B6.out)
    clear r0 r1 r2 r3 r4 r5 t0 t1 t2
    have hjsf : js < nf := by omega
    have hjbb : jb < nb := by omega
    have Hd1 := Lib.hid (show inB (js : Int) 0 ((nf : Int) - 1) = true by rw [← hjs]; exact Hc1.out)
    have Hd2 := Lib.hid (show inB (jb : Int) 0 ((nb : Int) - 1) = true by rw [← hjb]; exact Hc2.out)
    have Hd3 := Lib.hid (show timeB ⟨(js : Int), (jb : Int), x.fr, x.tt⟩ = true from Hc3.out)
    clear hs hbb
    skip
    cases c4 with
    | false =>
      have DD := Lib.hid ((Below.refl w6.heap.size w6).drew)
      have vFP0 := FP0.out
      have vFP1 := FP1.out
      have vFP2 := FP2.out
      have vFP3 := FP3.out
      have vFS0 := FS0.out
      have vFS1 := FS1.out
      have vFS2 := FS2.out
      have vFS3 := FS3.out
      have vFS4 := FS4.out
      have vFS5 := FS5.out
      have vFB0 := FB0.out
      have vFB1 := FB1.out
      have vFB2 := FB2.out
      refine wp_region_held_drew (S := (fun w' => w'.cell? ⟨wo.heap.size, 0, none⟩ = some (.int .i64 x.ship) ∧ w'.cell? ⟨wo.heap.size, 1, none⟩ = some (.int .i64 x.berth) ∧ w'.cell? ⟨wo.heap.size, 2, none⟩ = some (.int .i64 x.fr) ∧ w'.cell? ⟨wo.heap.size, 3, none⟩ = some (.int .i64 x.tt) ∧ w'.cell? ⟨gf, of + js * 6, none⟩ = some (.string sx.name) ∧ w'.cell? ⟨gf, of + js * 6 + 1, none⟩ = some (.int .i64 sx.length) ∧ w'.cell? ⟨gf, of + js * 6 + 2, none⟩ = some (.int .i64 sx.draught) ∧ w'.cell? ⟨gf, of + js * 6 + 3, none⟩ = some (.int .i64 sx.line) ∧ w'.cell? ⟨gf, of + js * 6 + 4, none⟩ = some (.int .i64 sx.tugs) ∧ w'.cell? ⟨gf, of + js * 6 + 5, none⟩ = some (.bool sx.slow) ∧ w'.cell? ⟨gb, ob + jb * 3, none⟩ = some (.string bx.name) ∧ w'.cell? ⟨gb, ob + jb * 3 + 1, none⟩ = some (.int .i64 bx.length) ∧ w'.cell? ⟨gb, ob + jb * 3 + 2, none⟩ = some (.int .i64 bx.depth) ∧ Hid (Below w6.heap.size w6 w'))) (by kernel_rfl) ?_ (fun hHeld => ?_)
      · (try dsimp only); go_keep
      refine tk 0 ?_
      refine tk 1 ?_
      refine tk 2 ?_
      refine tk 3 ?_
      refine tk 4 ?_
      refine wpAnyH_ready (rs := [5]) (by kernel_rfl) (by simp) ?_
      refine AllReadyH.cons rfl (fun K hK => ?_) AllReadyH.nil
      rw [if_pos (by rfl)]
      go_simp
      go_at_call 65
      have kB := hHeld.2.2.2.2.2.2.2.2.2.2.2.2.2
      refine ((l01In_any _ _ _ _)).mono ?_
      rw [Hd1.out]
      rintro e wq6_5 ⟨rfl, hbk1⟩
      have hbk := below_eqS hbk1
      have HBK := kB.out.trans (hbk.mono kB.out.size)
      have QS := Lib.hid (show wq6_5.cell? ⟨wo.heap.size, 0, none⟩ = some (.int .i64 x.ship) ∧ wq6_5.cell? ⟨wo.heap.size, 1, none⟩ = some (.int .i64 x.berth) ∧ wq6_5.cell? ⟨wo.heap.size, 2, none⟩ = some (.int .i64 x.fr) ∧ wq6_5.cell? ⟨wo.heap.size, 3, none⟩ = some (.int .i64 x.tt) ∧ wq6_5.cell? ⟨gf, of + js * 6, none⟩ = some (.string sx.name) ∧ wq6_5.cell? ⟨gf, of + js * 6 + 1, none⟩ = some (.int .i64 sx.length) ∧ wq6_5.cell? ⟨gf, of + js * 6 + 2, none⟩ = some (.int .i64 sx.draught) ∧ wq6_5.cell? ⟨gf, of + js * 6 + 3, none⟩ = some (.int .i64 sx.line) ∧ wq6_5.cell? ⟨gf, of + js * 6 + 4, none⟩ = some (.int .i64 sx.tugs) ∧ wq6_5.cell? ⟨gf, of + js * 6 + 5, none⟩ = some (.bool sx.slow) ∧ wq6_5.cell? ⟨gb, ob + jb * 3, none⟩ = some (.string bx.name) ∧ wq6_5.cell? ⟨gb, ob + jb * 3 + 1, none⟩ = some (.int .i64 bx.length) ∧ wq6_5.cell? ⟨gb, ob + jb * 3 + 2, none⟩ = some (.int .i64 bx.depth) ∧ Hid (Below w6.heap.size w6 wq6_5) from ⟨cell_onV FP0.out HBK, cell_onV FP1.out HBK, cell_onV FP2.out HBK, cell_onV FP3.out HBK, cell_onV FS0.out HBK, cell_onV FS1.out HBK, cell_onV FS2.out HBK, cell_onV FS3.out HBK, cell_onV FS4.out HBK, cell_onV FS5.out HBK, cell_onV FB0.out HBK, cell_onV FB1.out HBK, cell_onV FB2.out HBK, Lib.hid HBK⟩)
      clear hbk kB hHeld HBK
      go_simp
      refine hK.out _ _ ?_ (fun hHeld => ?_)
      · (try dsimp only); exact QS.out
      clear hK K
      try simp only [Act.put, List.setIfInBounds_toArray, List.set_cons_zero, List.set_cons_succ]
      refine tk 6 ?_
      refine tk 7 ?_
      refine tk 8 ?_
      refine tk 9 ?_
      refine tk 10 ?_
      refine tk 11 ?_
      refine tk 12 ?_
      refine wpAnyH_ready (rs := [13]) (by kernel_rfl) (by simp) ?_
      refine AllReadyH.cons rfl (fun K hK => ?_) AllReadyH.nil
      rw [if_pos (by rfl)]
      go_simp
      go_at_call 65
      have kB := hHeld.2.2.2.2.2.2.2.2.2.2.2.2.2
      refine ((l01In_any _ _ _ _)).mono ?_
      rw [Hd2.out]
      rintro e wq6_13 ⟨rfl, hbk1⟩
      have hbk := below_eqS hbk1
      have HBK := kB.out.trans (hbk.mono kB.out.size)
      have QS := Lib.hid (show wq6_13.cell? ⟨wo.heap.size, 0, none⟩ = some (.int .i64 x.ship) ∧ wq6_13.cell? ⟨wo.heap.size, 1, none⟩ = some (.int .i64 x.berth) ∧ wq6_13.cell? ⟨wo.heap.size, 2, none⟩ = some (.int .i64 x.fr) ∧ wq6_13.cell? ⟨wo.heap.size, 3, none⟩ = some (.int .i64 x.tt) ∧ wq6_13.cell? ⟨gf, of + js * 6, none⟩ = some (.string sx.name) ∧ wq6_13.cell? ⟨gf, of + js * 6 + 1, none⟩ = some (.int .i64 sx.length) ∧ wq6_13.cell? ⟨gf, of + js * 6 + 2, none⟩ = some (.int .i64 sx.draught) ∧ wq6_13.cell? ⟨gf, of + js * 6 + 3, none⟩ = some (.int .i64 sx.line) ∧ wq6_13.cell? ⟨gf, of + js * 6 + 4, none⟩ = some (.int .i64 sx.tugs) ∧ wq6_13.cell? ⟨gf, of + js * 6 + 5, none⟩ = some (.bool sx.slow) ∧ wq6_13.cell? ⟨gb, ob + jb * 3, none⟩ = some (.string bx.name) ∧ wq6_13.cell? ⟨gb, ob + jb * 3 + 1, none⟩ = some (.int .i64 bx.length) ∧ wq6_13.cell? ⟨gb, ob + jb * 3 + 2, none⟩ = some (.int .i64 bx.depth) ∧ Hid (Below w6.heap.size w6 wq6_13) from ⟨cell_onV FP0.out HBK, cell_onV FP1.out HBK, cell_onV FP2.out HBK, cell_onV FP3.out HBK, cell_onV FS0.out HBK, cell_onV FS1.out HBK, cell_onV FS2.out HBK, cell_onV FS3.out HBK, cell_onV FS4.out HBK, cell_onV FS5.out HBK, cell_onV FB0.out HBK, cell_onV FB1.out HBK, cell_onV FB2.out HBK, Lib.hid HBK⟩)
      clear hbk kB hHeld HBK
      go_simp
      refine hK.out _ _ ?_ (fun hHeld => ?_)
      · (try dsimp only); exact QS.out
      clear hK K
      try simp only [Act.put, List.setIfInBounds_toArray, List.set_cons_zero, List.set_cons_succ]
      refine tk 14 ?_
      refine tk 15 ?_
      refine tk 16 ?_
      refine tk 17 ?_
      refine wpAnyH_ready (rs := [18]) (by kernel_rfl) (by simp) ?_
      refine AllReadyH.cons rfl (fun K hK => ?_) AllReadyH.nil
      rw [if_pos (by rfl)]
      go_simp
      go_at_call 69
      have kB := hHeld.2.2.2.2.2.2.2.2.2.2.2.2.2
      refine ((specTime ⟨(js : Int), (jb : Int), x.fr, x.tt⟩ _)).mono ?_
      rw [Hd3.out]
      rintro e wq6_18 ⟨rfl, hbk⟩
      have HBK := kB.out.trans (hbk.mono kB.out.size)
      have QS := Lib.hid (show wq6_18.cell? ⟨wo.heap.size, 0, none⟩ = some (.int .i64 x.ship) ∧ wq6_18.cell? ⟨wo.heap.size, 1, none⟩ = some (.int .i64 x.berth) ∧ wq6_18.cell? ⟨wo.heap.size, 2, none⟩ = some (.int .i64 x.fr) ∧ wq6_18.cell? ⟨wo.heap.size, 3, none⟩ = some (.int .i64 x.tt) ∧ wq6_18.cell? ⟨gf, of + js * 6, none⟩ = some (.string sx.name) ∧ wq6_18.cell? ⟨gf, of + js * 6 + 1, none⟩ = some (.int .i64 sx.length) ∧ wq6_18.cell? ⟨gf, of + js * 6 + 2, none⟩ = some (.int .i64 sx.draught) ∧ wq6_18.cell? ⟨gf, of + js * 6 + 3, none⟩ = some (.int .i64 sx.line) ∧ wq6_18.cell? ⟨gf, of + js * 6 + 4, none⟩ = some (.int .i64 sx.tugs) ∧ wq6_18.cell? ⟨gf, of + js * 6 + 5, none⟩ = some (.bool sx.slow) ∧ wq6_18.cell? ⟨gb, ob + jb * 3, none⟩ = some (.string bx.name) ∧ wq6_18.cell? ⟨gb, ob + jb * 3 + 1, none⟩ = some (.int .i64 bx.length) ∧ wq6_18.cell? ⟨gb, ob + jb * 3 + 2, none⟩ = some (.int .i64 bx.depth) ∧ Hid (Below w6.heap.size w6 wq6_18) from ⟨cell_onV FP0.out HBK, cell_onV FP1.out HBK, cell_onV FP2.out HBK, cell_onV FP3.out HBK, cell_onV FS0.out HBK, cell_onV FS1.out HBK, cell_onV FS2.out HBK, cell_onV FS3.out HBK, cell_onV FS4.out HBK, cell_onV FS5.out HBK, cell_onV FB0.out HBK, cell_onV FB1.out HBK, cell_onV FB2.out HBK, Lib.hid HBK⟩)
      clear hbk kB hHeld HBK
      go_simp
      refine hK.out _ _ ?_ (fun hHeld => ?_)
      · (try dsimp only); exact QS.out
      clear hK K
      try simp only [Act.put, List.setIfInBounds_toArray, List.set_cons_zero, List.set_cons_succ]
      refine tk 19 ?_
      refine tk 20 ?_
      refine tk 21 ?_
      refine tk 22 ?_
      refine tk 23 ?_
      refine tk 24 ?_
      refine tk 25 ?_
      refine tk 26 ?_
      refine tk 27 ?_
      refine tk 28 ?_
      refine tk 29 ?_
      refine tk 30 ?_
      refine tk 31 ?_
      refine wpAnyH_ready (rs := [32]) (by kernel_rfl) (by simp) ?_
      refine AllReadyH.cons rfl (fun K hK => ?_) AllReadyH.nil
      rw [if_pos (by rfl)]
      go_simp
      go_at_call 26
      have kB := hHeld.2.2.2.2.2.2.2.2.2.2.2.2.2
      refine ((specFitsBerth bx sx _ WB.out WS.out)).mono ?_
      rw [HFT.out]
      rintro e wq6_32 ⟨rfl, hbk⟩
      have HBK := kB.out.trans (hbk.mono kB.out.size)
      have QS := Lib.hid (show wq6_32.cell? ⟨wo.heap.size, 0, none⟩ = some (.int .i64 x.ship) ∧ wq6_32.cell? ⟨wo.heap.size, 1, none⟩ = some (.int .i64 x.berth) ∧ wq6_32.cell? ⟨wo.heap.size, 2, none⟩ = some (.int .i64 x.fr) ∧ wq6_32.cell? ⟨wo.heap.size, 3, none⟩ = some (.int .i64 x.tt) ∧ wq6_32.cell? ⟨gf, of + js * 6, none⟩ = some (.string sx.name) ∧ wq6_32.cell? ⟨gf, of + js * 6 + 1, none⟩ = some (.int .i64 sx.length) ∧ wq6_32.cell? ⟨gf, of + js * 6 + 2, none⟩ = some (.int .i64 sx.draught) ∧ wq6_32.cell? ⟨gf, of + js * 6 + 3, none⟩ = some (.int .i64 sx.line) ∧ wq6_32.cell? ⟨gf, of + js * 6 + 4, none⟩ = some (.int .i64 sx.tugs) ∧ wq6_32.cell? ⟨gf, of + js * 6 + 5, none⟩ = some (.bool sx.slow) ∧ wq6_32.cell? ⟨gb, ob + jb * 3, none⟩ = some (.string bx.name) ∧ wq6_32.cell? ⟨gb, ob + jb * 3 + 1, none⟩ = some (.int .i64 bx.length) ∧ wq6_32.cell? ⟨gb, ob + jb * 3 + 2, none⟩ = some (.int .i64 bx.depth) ∧ Hid (Below w6.heap.size w6 wq6_32) from ⟨cell_onV FP0.out HBK, cell_onV FP1.out HBK, cell_onV FP2.out HBK, cell_onV FP3.out HBK, cell_onV FS0.out HBK, cell_onV FS1.out HBK, cell_onV FS2.out HBK, cell_onV FS3.out HBK, cell_onV FS4.out HBK, cell_onV FS5.out HBK, cell_onV FB0.out HBK, cell_onV FB1.out HBK, cell_onV FB2.out HBK, Lib.hid HBK⟩)
      clear hbk kB hHeld HBK
      go_simp
      refine hK.out _ _ ?_ (fun hHeld => ?_)
      · (try dsimp only); exact QS.out
      clear hK K
      try simp only [Act.put, List.setIfInBounds_toArray, List.set_cons_zero, List.set_cons_succ]
      refine tk 33 ?_
      refine tk 34 ?_
      refine wpAnyH_done (by kernel_rfl) ?_ _
      have E := Lib.hid (E1.out.trans (staysB_no HX.out (pStay_no (ES.out.trans (by simp)))))
      go_wp2
      go_ret
      exact ⟨ret_bool E.out.symm, B6.out.trans (hHeld.2.2.2.2.2.2.2.2.2.2.2.2.2.out.mono B6.out.size)⟩
    | true =>
      have DD := Lib.hid ((Below.refl w6.heap.size w6).drew)
      have vFP0 := FP0.out
      have vFP1 := FP1.out
      have vFP2 := FP2.out
      have vFP3 := FP3.out
      have vFS0 := FS0.out
      have vFS1 := FS1.out
      have vFS2 := FS2.out
      have vFS3 := FS3.out
      have vFS4 := FS4.out
      have vFS5 := FS5.out
      have vFB0 := FB0.out
      have vFB1 := FB1.out
      have vFB2 := FB2.out
      refine wp_region_held_drew (S := (fun w' => w'.cell? ⟨wo.heap.size, 0, none⟩ = some (.int .i64 x.ship) ∧ w'.cell? ⟨wo.heap.size, 1, none⟩ = some (.int .i64 x.berth) ∧ w'.cell? ⟨wo.heap.size, 2, none⟩ = some (.int .i64 x.fr) ∧ w'.cell? ⟨wo.heap.size, 3, none⟩ = some (.int .i64 x.tt) ∧ w'.cell? ⟨gf, of + js * 6, none⟩ = some (.string sx.name) ∧ w'.cell? ⟨gf, of + js * 6 + 1, none⟩ = some (.int .i64 sx.length) ∧ w'.cell? ⟨gf, of + js * 6 + 2, none⟩ = some (.int .i64 sx.draught) ∧ w'.cell? ⟨gf, of + js * 6 + 3, none⟩ = some (.int .i64 sx.line) ∧ w'.cell? ⟨gf, of + js * 6 + 4, none⟩ = some (.int .i64 sx.tugs) ∧ w'.cell? ⟨gf, of + js * 6 + 5, none⟩ = some (.bool sx.slow) ∧ w'.cell? ⟨gb, ob + jb * 3, none⟩ = some (.string bx.name) ∧ w'.cell? ⟨gb, ob + jb * 3 + 1, none⟩ = some (.int .i64 bx.length) ∧ w'.cell? ⟨gb, ob + jb * 3 + 2, none⟩ = some (.int .i64 bx.depth) ∧ Hid (Below w6.heap.size w6 w'))) (by kernel_rfl) ?_ (fun hHeld => ?_)
      · (try dsimp only); go_keep
      refine tk 0 ?_
      refine tk 1 ?_
      refine tk 2 ?_
      refine tk 3 ?_
      refine tk 4 ?_
      refine wpAnyH_ready (rs := [5]) (by kernel_rfl) (by simp) ?_
      refine AllReadyH.cons rfl (fun K hK => ?_) AllReadyH.nil
      rw [if_pos (by rfl)]
      go_simp
      go_at_call 65
      have kB := hHeld.2.2.2.2.2.2.2.2.2.2.2.2.2
      refine ((l01In_any _ _ _ _)).mono ?_
      rw [Hd1.out]
      rintro e wq6_5 ⟨rfl, hbk1⟩
      have hbk := below_eqS hbk1
      have HBK := kB.out.trans (hbk.mono kB.out.size)
      have QS := Lib.hid (show wq6_5.cell? ⟨wo.heap.size, 0, none⟩ = some (.int .i64 x.ship) ∧ wq6_5.cell? ⟨wo.heap.size, 1, none⟩ = some (.int .i64 x.berth) ∧ wq6_5.cell? ⟨wo.heap.size, 2, none⟩ = some (.int .i64 x.fr) ∧ wq6_5.cell? ⟨wo.heap.size, 3, none⟩ = some (.int .i64 x.tt) ∧ wq6_5.cell? ⟨gf, of + js * 6, none⟩ = some (.string sx.name) ∧ wq6_5.cell? ⟨gf, of + js * 6 + 1, none⟩ = some (.int .i64 sx.length) ∧ wq6_5.cell? ⟨gf, of + js * 6 + 2, none⟩ = some (.int .i64 sx.draught) ∧ wq6_5.cell? ⟨gf, of + js * 6 + 3, none⟩ = some (.int .i64 sx.line) ∧ wq6_5.cell? ⟨gf, of + js * 6 + 4, none⟩ = some (.int .i64 sx.tugs) ∧ wq6_5.cell? ⟨gf, of + js * 6 + 5, none⟩ = some (.bool sx.slow) ∧ wq6_5.cell? ⟨gb, ob + jb * 3, none⟩ = some (.string bx.name) ∧ wq6_5.cell? ⟨gb, ob + jb * 3 + 1, none⟩ = some (.int .i64 bx.length) ∧ wq6_5.cell? ⟨gb, ob + jb * 3 + 2, none⟩ = some (.int .i64 bx.depth) ∧ Hid (Below w6.heap.size w6 wq6_5) from ⟨cell_onV FP0.out HBK, cell_onV FP1.out HBK, cell_onV FP2.out HBK, cell_onV FP3.out HBK, cell_onV FS0.out HBK, cell_onV FS1.out HBK, cell_onV FS2.out HBK, cell_onV FS3.out HBK, cell_onV FS4.out HBK, cell_onV FS5.out HBK, cell_onV FB0.out HBK, cell_onV FB1.out HBK, cell_onV FB2.out HBK, Lib.hid HBK⟩)
      clear hbk kB hHeld HBK
      go_simp
      refine hK.out _ _ ?_ (fun hHeld => ?_)
      · (try dsimp only); exact QS.out
      clear hK K
      try simp only [Act.put, List.setIfInBounds_toArray, List.set_cons_zero, List.set_cons_succ]
      refine tk 6 ?_
      refine tk 7 ?_
      refine tk 8 ?_
      refine tk 9 ?_
      refine tk 10 ?_
      refine tk 11 ?_
      refine tk 12 ?_
      refine wpAnyH_ready (rs := [13]) (by kernel_rfl) (by simp) ?_
      refine AllReadyH.cons rfl (fun K hK => ?_) AllReadyH.nil
      rw [if_pos (by rfl)]
      go_simp
      go_at_call 65
      have kB := hHeld.2.2.2.2.2.2.2.2.2.2.2.2.2
      refine ((l01In_any _ _ _ _)).mono ?_
      rw [Hd2.out]
      rintro e wq6_13 ⟨rfl, hbk1⟩
      have hbk := below_eqS hbk1
      have HBK := kB.out.trans (hbk.mono kB.out.size)
      have QS := Lib.hid (show wq6_13.cell? ⟨wo.heap.size, 0, none⟩ = some (.int .i64 x.ship) ∧ wq6_13.cell? ⟨wo.heap.size, 1, none⟩ = some (.int .i64 x.berth) ∧ wq6_13.cell? ⟨wo.heap.size, 2, none⟩ = some (.int .i64 x.fr) ∧ wq6_13.cell? ⟨wo.heap.size, 3, none⟩ = some (.int .i64 x.tt) ∧ wq6_13.cell? ⟨gf, of + js * 6, none⟩ = some (.string sx.name) ∧ wq6_13.cell? ⟨gf, of + js * 6 + 1, none⟩ = some (.int .i64 sx.length) ∧ wq6_13.cell? ⟨gf, of + js * 6 + 2, none⟩ = some (.int .i64 sx.draught) ∧ wq6_13.cell? ⟨gf, of + js * 6 + 3, none⟩ = some (.int .i64 sx.line) ∧ wq6_13.cell? ⟨gf, of + js * 6 + 4, none⟩ = some (.int .i64 sx.tugs) ∧ wq6_13.cell? ⟨gf, of + js * 6 + 5, none⟩ = some (.bool sx.slow) ∧ wq6_13.cell? ⟨gb, ob + jb * 3, none⟩ = some (.string bx.name) ∧ wq6_13.cell? ⟨gb, ob + jb * 3 + 1, none⟩ = some (.int .i64 bx.length) ∧ wq6_13.cell? ⟨gb, ob + jb * 3 + 2, none⟩ = some (.int .i64 bx.depth) ∧ Hid (Below w6.heap.size w6 wq6_13) from ⟨cell_onV FP0.out HBK, cell_onV FP1.out HBK, cell_onV FP2.out HBK, cell_onV FP3.out HBK, cell_onV FS0.out HBK, cell_onV FS1.out HBK, cell_onV FS2.out HBK, cell_onV FS3.out HBK, cell_onV FS4.out HBK, cell_onV FS5.out HBK, cell_onV FB0.out HBK, cell_onV FB1.out HBK, cell_onV FB2.out HBK, Lib.hid HBK⟩)
      clear hbk kB hHeld HBK
      go_simp
      refine hK.out _ _ ?_ (fun hHeld => ?_)
      · (try dsimp only); exact QS.out
      clear hK K
      try simp only [Act.put, List.setIfInBounds_toArray, List.set_cons_zero, List.set_cons_succ]
      refine tk 14 ?_
      refine tk 15 ?_
      refine tk 16 ?_
      refine tk 17 ?_
      refine wpAnyH_ready (rs := [18]) (by kernel_rfl) (by simp) ?_
      refine AllReadyH.cons rfl (fun K hK => ?_) AllReadyH.nil
      rw [if_pos (by rfl)]
      go_simp
      go_at_call 69
      have kB := hHeld.2.2.2.2.2.2.2.2.2.2.2.2.2
      refine ((specTime ⟨(js : Int), (jb : Int), x.fr, x.tt⟩ _)).mono ?_
      rw [Hd3.out]
      rintro e wq6_18 ⟨rfl, hbk⟩
      have HBK := kB.out.trans (hbk.mono kB.out.size)
      have QS := Lib.hid (show wq6_18.cell? ⟨wo.heap.size, 0, none⟩ = some (.int .i64 x.ship) ∧ wq6_18.cell? ⟨wo.heap.size, 1, none⟩ = some (.int .i64 x.berth) ∧ wq6_18.cell? ⟨wo.heap.size, 2, none⟩ = some (.int .i64 x.fr) ∧ wq6_18.cell? ⟨wo.heap.size, 3, none⟩ = some (.int .i64 x.tt) ∧ wq6_18.cell? ⟨gf, of + js * 6, none⟩ = some (.string sx.name) ∧ wq6_18.cell? ⟨gf, of + js * 6 + 1, none⟩ = some (.int .i64 sx.length) ∧ wq6_18.cell? ⟨gf, of + js * 6 + 2, none⟩ = some (.int .i64 sx.draught) ∧ wq6_18.cell? ⟨gf, of + js * 6 + 3, none⟩ = some (.int .i64 sx.line) ∧ wq6_18.cell? ⟨gf, of + js * 6 + 4, none⟩ = some (.int .i64 sx.tugs) ∧ wq6_18.cell? ⟨gf, of + js * 6 + 5, none⟩ = some (.bool sx.slow) ∧ wq6_18.cell? ⟨gb, ob + jb * 3, none⟩ = some (.string bx.name) ∧ wq6_18.cell? ⟨gb, ob + jb * 3 + 1, none⟩ = some (.int .i64 bx.length) ∧ wq6_18.cell? ⟨gb, ob + jb * 3 + 2, none⟩ = some (.int .i64 bx.depth) ∧ Hid (Below w6.heap.size w6 wq6_18) from ⟨cell_onV FP0.out HBK, cell_onV FP1.out HBK, cell_onV FP2.out HBK, cell_onV FP3.out HBK, cell_onV FS0.out HBK, cell_onV FS1.out HBK, cell_onV FS2.out HBK, cell_onV FS3.out HBK, cell_onV FS4.out HBK, cell_onV FS5.out HBK, cell_onV FB0.out HBK, cell_onV FB1.out HBK, cell_onV FB2.out HBK, Lib.hid HBK⟩)
      clear hbk kB hHeld HBK
      go_simp
      refine hK.out _ _ ?_ (fun hHeld => ?_)
      · (try dsimp only); exact QS.out
      clear hK K
      try simp only [Act.put, List.setIfInBounds_toArray, List.set_cons_zero, List.set_cons_succ]
      refine tk 19 ?_
      refine tk 20 ?_
      refine tk 21 ?_
      refine tk 22 ?_
      refine tk 23 ?_
      refine tk 24 ?_
      refine tk 25 ?_
      refine tk 26 ?_
      refine tk 27 ?_
      refine tk 28 ?_
      refine tk 29 ?_
      refine tk 30 ?_
      refine tk 31 ?_
      refine wpAnyH_ready (rs := [32]) (by kernel_rfl) (by simp) ?_
      refine AllReadyH.cons rfl (fun K hK => ?_) AllReadyH.nil
      rw [if_pos (by rfl)]
      go_simp
      go_at_call 26
      have kB := hHeld.2.2.2.2.2.2.2.2.2.2.2.2.2
      refine ((specFitsBerth bx sx _ WB.out WS.out)).mono ?_
      rw [HFT.out]
      rintro e wq6_32 ⟨rfl, hbk⟩
      have HBK := kB.out.trans (hbk.mono kB.out.size)
      have QS := Lib.hid (show wq6_32.cell? ⟨wo.heap.size, 0, none⟩ = some (.int .i64 x.ship) ∧ wq6_32.cell? ⟨wo.heap.size, 1, none⟩ = some (.int .i64 x.berth) ∧ wq6_32.cell? ⟨wo.heap.size, 2, none⟩ = some (.int .i64 x.fr) ∧ wq6_32.cell? ⟨wo.heap.size, 3, none⟩ = some (.int .i64 x.tt) ∧ wq6_32.cell? ⟨gf, of + js * 6, none⟩ = some (.string sx.name) ∧ wq6_32.cell? ⟨gf, of + js * 6 + 1, none⟩ = some (.int .i64 sx.length) ∧ wq6_32.cell? ⟨gf, of + js * 6 + 2, none⟩ = some (.int .i64 sx.draught) ∧ wq6_32.cell? ⟨gf, of + js * 6 + 3, none⟩ = some (.int .i64 sx.line) ∧ wq6_32.cell? ⟨gf, of + js * 6 + 4, none⟩ = some (.int .i64 sx.tugs) ∧ wq6_32.cell? ⟨gf, of + js * 6 + 5, none⟩ = some (.bool sx.slow) ∧ wq6_32.cell? ⟨gb, ob + jb * 3, none⟩ = some (.string bx.name) ∧ wq6_32.cell? ⟨gb, ob + jb * 3 + 1, none⟩ = some (.int .i64 bx.length) ∧ wq6_32.cell? ⟨gb, ob + jb * 3 + 2, none⟩ = some (.int .i64 bx.depth) ∧ Hid (Below w6.heap.size w6 wq6_32) from ⟨cell_onV FP0.out HBK, cell_onV FP1.out HBK, cell_onV FP2.out HBK, cell_onV FP3.out HBK, cell_onV FS0.out HBK, cell_onV FS1.out HBK, cell_onV FS2.out HBK, cell_onV FS3.out HBK, cell_onV FS4.out HBK, cell_onV FS5.out HBK, cell_onV FB0.out HBK, cell_onV FB1.out HBK, cell_onV FB2.out HBK, Lib.hid HBK⟩)
      clear hbk kB hHeld HBK
      go_simp
      refine hK.out _ _ ?_ (fun hHeld => ?_)
      · (try dsimp only); exact QS.out
      clear hK K
      try simp only [Act.put, List.setIfInBounds_toArray, List.set_cons_zero, List.set_cons_succ]
      refine tk 33 ?_
      refine tk 34 ?_
      refine wpAnyH_done (by kernel_rfl) ?_ _
      have BK := Lib.hid hHeld.2.2.2.2.2.2.2.2.2.2.2.2.2.out
      have B7 := Lib.hid (B6.out.trans (BK.out.mono B6.out.size))
      have KP7 := Lib.hid (KP.out.below BK.out)
      obtain ⟨w7, hw7⟩ : ∃ W, W = wq6_32 := ⟨_, rfl⟩
      rw [← hw7] at B7 KP7 BK ⊢
      clear hw7 hHeld DD hjs hjb
      clear vFP0 vFP1 vFP2 vFP3 vFS0 vFS1 vFS2 vFS3 vFS4 vFS5 vFB0 vFB1 vFB2
      have hkc : (0 : Int) ≤ (i : Int) ∧ (i : Int) ≤ (cl : Int) := by omega
      go_wp2
      go_loopw [70] (fun t wx => ∃ j : Nat, j ≤ i ∧ t = .int .i64 (j : Int) ∧ Hid (NoneTo (meetB x) l j) ∧ Hid (Below w7.heap.size w7 wx)) (fun t _ => i - (intOf t).toNat)
      case atStart => exact ⟨0, Nat.zero_le _, rfl, Lib.hid (NoneTo.zero _ _), Lib.hid (Below.refl _ _)⟩
      case round =>
        obtain ⟨j, hj, rfl, hN, hbx⟩ := hrel
        have B8 := Lib.hid (B7.out.trans (hbx.out.mono B7.out.size))
        have hzx := B8.out.size
        by_cases hjk : j < i
        rotate_left
        · obtain rfl : j = i := by omega
          have R2 := Lib.hid (hT.out.next HX.out (by unfold pStay; rw [ES.out, hN.out]; rfl))
          have hb9 := Lib.hid ((hb6.out.trans (BK.out.mono hb6.out.size)).trans (hbx.out.mono (by have h1 := hb6.out.size; have h2 := BK.out.size; omega)))
          go_wp2
          go_roundw
          case rel => exact ⟨j + 1, by omega, by go_num, R2, hb9⟩
          case measure => simp [intOf]; omega
        obtain ⟨y, hy⟩ : ∃ y, l[j]? = some y := ⟨_, List.getElem?_eq_getElem (by have := HM.out; omega)⟩
        have HY := Lib.hid hy
        obtain ⟨p0, p1, p2, p3⟩ := SlStay.cells HLC.out j y hy
        have y0 := cell_onV p0 B8.out
        have y1 := cell_onV p1 B8.out
        have y2 := cell_onV p2 B8.out
        have y3 := cell_onV p3 B8.out
        have KX := KP7.out.below hbx.out
        have hwz := KX.lt
        have z0 : wr.cell? ⟨wo.heap.size, 0, none⟩ = some (.int .i64 x.ship) := KX.cell 0
        have z1 : wr.cell? ⟨wo.heap.size, 1, none⟩ = some (.int .i64 x.berth) := KX.cell 1
        have z2 : wr.cell? ⟨wo.heap.size, 2, none⟩ = some (.int .i64 x.fr) := KX.cell 2
        have z3 : wr.cell? ⟨wo.heap.size, 3, none⟩ = some (.int .i64 x.tt) := KX.cell 3
        have BY := Lib.hid (hbx.out.alloc hbx.out.size (.cells #[.int .i64 y.ship, .int .i64 y.berth, .int .i64 y.fr, .int .i64 y.tt] 33))
        clear p0 p1 p2 p3 hy KX
        obtain ⟨e1, he1⟩ : ∃ b, (y.ship == x.ship) = b := ⟨_, rfl⟩
        obtain ⟨e2, he2⟩ : ∃ b, (y.berth == x.berth) = b := ⟨_, rfl⟩
        obtain ⟨e3, he3⟩ : ∃ b, decide (max y.fr x.fr < min y.tt x.tt) = b := ⟨_, rfl⟩
        have EM := Lib.hid (show meetB x y = ((e1 || e2) && e3) by unfold meetB; rw [he1, he2, he3])
        have HE3 := Lib.hid he3
        clear he3
        cases e1 with
        | false =>
          cases e2 with
          | false =>
            have N2 := Lib.hid (hN.out.next HY.out (EM.out.trans (by simp)))
            go_wp2
            go_roundw
            case rel => exact ⟨j + 1, by omega, by go_num, N2, BY⟩
            case measure => simp [intOf]; omega
          | true =>
            obtain ⟨M, hM⟩ : ∃ M, max y.fr x.fr = M := ⟨_, rfl⟩
            obtain ⟨mn, hmn⟩ : ∃ M, min y.tt x.tt = M := ⟨_, rfl⟩
            have he3 : decide (M < mn) = e3 := by rw [← hM, ← hmn]; exact HE3.out
            have q1 : (if y.fr < x.fr then x.fr else y.fr) = M := by rw [← hM]; split <;> omega
            have q1b : (if x.fr < y.fr then y.fr else x.fr) = M := by rw [← hM]; split <;> omega
            have q2 : (if y.tt < x.tt then y.tt else x.tt) = mn := by rw [← hmn]; split <;> omega
            have q2b : (if x.tt < y.tt then x.tt else y.tt) = mn := by rw [← hmn]; split <;> omega
            cases e3 with
            | false =>
              have N2 := Lib.hid (hN.out.next HY.out (EM.out.trans (by simp)))
              go_wp2
              go_roundw
              case rel => exact ⟨j + 1, by omega, by go_num, N2, BY⟩
              case measure => simp [intOf]; omega
            | true =>
              have E := Lib.hid (E1.out.trans (staysB_no HX.out (by unfold pStay; rw [any_at HY.out hjk (EM.out.trans (by simp))]; simp)))
              go_wp2
              go_ret
              exact ⟨ret_bool E.out.symm, B7.out.trans (BY.out.mono B7.out.size)⟩
        | true =>
          obtain ⟨M, hM⟩ : ∃ M, max y.fr x.fr = M := ⟨_, rfl⟩
          obtain ⟨mn, hmn⟩ : ∃ M, min y.tt x.tt = M := ⟨_, rfl⟩
          have he3 : decide (M < mn) = e3 := by rw [← hM, ← hmn]; exact HE3.out
          have q1 : (if y.fr < x.fr then x.fr else y.fr) = M := by rw [← hM]; split <;> omega
          have q1b : (if x.fr < y.fr then y.fr else x.fr) = M := by rw [← hM]; split <;> omega
          have q2 : (if y.tt < x.tt then y.tt else x.tt) = mn := by rw [← hmn]; split <;> omega
          have q2b : (if x.tt < y.tt then x.tt else y.tt) = mn := by rw [← hmn]; split <;> omega
          cases e3 with
          | false =>
            have N2 := Lib.hid (hN.out.next HY.out (EM.out.trans (by simp)))
            go_wp2
            go_roundw
            case rel => exact ⟨j + 1, by omega, by go_num, N2, BY⟩
            case measure => simp [intOf]; omega
          | true =>
            have E := Lib.hid (E1.out.trans (staysB_no HX.out (by unfold pStay; rw [any_at HY.out hjk (EM.out.trans (by simp))]; simp)))
            go_wp2
            go_ret
            exact ⟨ret_bool E.out.symm, B7.out.trans (BY.out.mono B7.out.size)⟩
end Go.Proofs.Ytghjfcnboocmjaa
