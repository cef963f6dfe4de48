
/- What ExactFreeTimes and BerthsLaw rests on, part 21: contracts and mathematics. -/
import Derived.Test.YtghjfcnboocmjaaBcTk
import Derived.Test.YtghjfcnboocmjaaBc15
import Derived.Test.YtghjfcnboocmjaaBc19
import Derived.Test.YtghjfcnboocmjaaBc11
import Derived.Test.YtghjfcnboocmjaaBc2
import Derived.Deep.RegionHeld3
namespace Go.Proofs.Ytghjfcnboocmjaa
open Go.RowKit
set_option maxRecDepth 100000
theorem below_eqP {w w' : World} (h : w = w') : Below w.heap.size w w' := by rw [← h]; exact Below.refl _ _
theorem pStay_ship {bs : List BerthD} {fl : List ShipD} {l : List StayD} {s : StayD} (h : inB s.ship 0 ((fl.length : Int) - 1) = false) : pStay bs fl l s = false := by unfold pStay stayB; rw [h]; rfl
theorem pStay_parts {bs : List BerthD} {fl : List ShipD} {l : List StayD} {s : StayD} {j : Nat} {x : ShipD} (h1 : s.ship = (j : Int)) (hx : fl[j]? = some x) : pStay bs fl l s = (fitB (bAt bs s.berth) x && spanB s.fr s.tt && !l.any (meetB s)) := by
  have hj := (List.getElem?_eq_some_iff.1 hx).1
  have e1 : inB s.ship 0 ((fl.length : Int) - 1) = true := decide_eq_true (by omega)
  unfold pStay stayB
  rw [e1, timeB_span]
  by_cases hb : 0 ≤ s.berth ∧ s.berth < bs.length
  · obtain ⟨b, hbb⟩ : ∃ b, bs[s.berth.toNat]? = some b := ⟨_, List.getElem?_eq_getElem (by omega)⟩
    have e2 : inB s.berth 0 ((bs.length : Int) - 1) = true := decide_eq_true (by omega)
    have e3 : bAt bs s.berth = b := by
      have := bAt_at hbb
      rwa [Int.toNat_of_nonneg hb.1] at this
    have e4 : fitAt bs fl s = fitB b x := by unfold fitAt; rw [hbb, h1, Int.toNat_natCast, hx]
    rw [e2, e3, e4]
    cases fitB b x <;> cases spanB s.fr s.tt <;> rfl
  · have e2 : inB s.berth 0 ((bs.length : Int) - 1) = false := decide_eq_false (by omega)
    have e3 : fitB noBerth x = false := by
      unfold fitB
      cases hs : shipB x with
      | false => rfl
      | true =>
        have h3 := (shipB_true hs).2.1
        rw [show decide (x.length ≤ noBerth.length) = false from decide_eq_false (by show ¬ x.length ≤ 0; omega)]
        rfl
    rw [e2, bAt_no hb, e3]
    rfl
theorem staysB_more {bs : List BerthD} {fl : List ShipD} {l : List StayD} {x : StayD} (h : staysB bs fl l = true) (hl : l.length < 12) : staysB bs fl (l ++ [x]) = pStay bs fl l x := by
  obtain ⟨h1, h2, _, h4⟩ := staysB_all h
  unfold staysB
  rw [h1, h2, runB_snoc, h4, decide_eq_true (by rw [List.length_append]; simp; omega)]
  simp
theorem staysB_full {bs : List BerthD} {fl : List ShipD} {l : List StayD} (x : StayD) (hl : ¬ l.length < 12) : staysB bs fl (l ++ [x]) = false := by
  unfold staysB
  rw [decide_eq_false (show ¬ (l ++ [x]).length ≤ 12 by rw [List.length_append]; simp; omega)]
  simp
set_option maxHeartbeats 16000000 in
theorem canStay_any (ybs : Value) (bs : List BerthD) (yfl : Value) (fl : List ShipD) (yl : Value) (l : List StayD) (s : StayD) (w : World) (rbs : SlBerth w ybs bs) (rfl : SlShip w yfl fl) (rl : SlStay w yl l) (fbs : ∀ x ∈ bs, BerthD.wf x) (ffl : ∀ x ∈ fl, ShipD.wf x) :
    Calls Try.prog 57 #[ybs, yfl, yl, s.val] w (fun e w' => e = .returned (.bool (pStay bs fl l s)) ∧ Below w.heap.size w w') := by
  have Rbs := Lib.hid rbs
  obtain ⟨Abs, cbs, rfl⟩ := SlOf.form rbs
  clear rbs
  have Nbs := Lib.hid fbs
  clear fbs
  have Rfl := Lib.hid rfl
  obtain ⟨Afl, cfl, rfl⟩ := SlOf.form rfl
  clear rfl
  have Nfl := Lib.hid ffl
  clear ffl
  have Rl := Lib.hid rl
  obtain ⟨Al, cl, rfl⟩ := SlOf.form rl
  clear rl
  obtain ⟨W0, hW0⟩ : ∃ W0, W0 = (w.alloc (.cells #[.int .i64 s.ship, .int .i64 s.berth, .int .i64 s.fr, .int .i64 s.tt] 33)) := ⟨_, rfl⟩
  have B := Lib.hid (Joins.below_alloc1 w (.cells #[.int .i64 s.ship, .int .i64 s.berth, .int .i64 s.fr, .int .i64 s.tt] 33))
  have Ks := Lib.hid (Blk.new w #[.int .i64 s.ship, .int .i64 s.berth, .int .i64 s.fr, .int .i64 s.tt] 33)
  have HW0 := Lib.hid hW0
  rw [← hW0] at B Ks
  clear hW0
  have hlb := Rbs.out.1
  have hlf := Rfl.out.1
  have hll := Rl.out.1
  obtain ⟨nf, hnf⟩ : ∃ m, fl.length = m := ⟨_, rfl⟩
  have HNF := Lib.hid hnf
  rw [hnf] at hlf Rfl
  try rw [hnf]
  obtain ⟨nb, hnb⟩ : ∃ m, bs.length = m := ⟨_, rfl⟩
  rw [hnb] at hlb Rbs
  try rw [hnb]
  obtain ⟨m, hm⟩ : ∃ m, l.length = m := ⟨_, rfl⟩
  rw [hm] at hll Rl
  try rw [hm]
  clear hnf hnb hm
  obtain ⟨c1, hc1⟩ : ∃ b, inB s.ship 0 ((nf : Int) - 1) = b := ⟨_, rfl⟩
  have Hc1 := Lib.hid hc1
  go_enter Try.func57, Try.ntmps57
  go_upto_region 1 with fail
  rw [← HW0.out]
  cases c1 with
  | false =>
    have E0 := Lib.hid (pStay_ship (bs := bs) (fl := fl) (l := l) (s := s) (by rw [HNF.out]; exact hc1))
    clear hc1
    have Fs0 := Lib.hid (show W0.cell? ⟨w.heap.size, 0, none⟩ = some (.int .i64 s.ship) from Ks.out.cell 0)
    have Fs1 := Lib.hid (show W0.cell? ⟨w.heap.size, 1, none⟩ = some (.int .i64 s.berth) from Ks.out.cell 1)
    have Fs2 := Lib.hid (show W0.cell? ⟨w.heap.size, 2, none⟩ = some (.int .i64 s.fr) from Ks.out.cell 2)
    have Fs3 := Lib.hid (show W0.cell? ⟨w.heap.size, 3, none⟩ = some (.int .i64 s.tt) from Ks.out.cell 3)
    have DD := Lib.hid ((Below.refl W0.heap.size W0).drew)
    have vFs0 := Fs0.out
    have vFs1 := Fs1.out
    have vFs2 := Fs2.out
    have vFs3 := Fs3.out
    refine wp_region_held_drew (S := (fun w' => w'.cell? ⟨w.heap.size, 0, none⟩ = some (.int .i64 s.ship) ∧ w'.cell? ⟨w.heap.size, 1, none⟩ = some (.int .i64 s.berth) ∧ w'.cell? ⟨w.heap.size, 2, none⟩ = some (.int .i64 s.fr) ∧ w'.cell? ⟨w.heap.size, 3, none⟩ = some (.int .i64 s.tt) ∧ Hid (Below W0.heap.size W0 w'))) (by kernel_rfl) ?_ (fun hHeld => ?_)
    · (try dsimp only); go_keep
    refine tk 0 ?_
    refine tk 1 ?_
    refine tk 2 ?_
    refine tk 3 ?_
    refine wpAnyH_ready (rs := [4]) (by kernel_rfl) (by simp) ?_
    refine AllReadyH.cons rfl (fun K hK => ?_) AllReadyH.nil
    rw [if_pos (by rfl)]
    go_simp
    go_at_call 84
    have kB := hHeld.2.2.2.2
    refine ((isIndex_any _ _ _)).mono ?_
    rw [Hc1.out]
    rintro e wq0_4 ⟨rfl, hbk1⟩
    have hbk := below_eqP hbk1
    have HBK := kB.out.trans (hbk.mono kB.out.size)
    have QS := Lib.hid (show wq0_4.cell? ⟨w.heap.size, 0, none⟩ = some (.int .i64 s.ship) ∧ wq0_4.cell? ⟨w.heap.size, 1, none⟩ = some (.int .i64 s.berth) ∧ wq0_4.cell? ⟨w.heap.size, 2, none⟩ = some (.int .i64 s.fr) ∧ wq0_4.cell? ⟨w.heap.size, 3, none⟩ = some (.int .i64 s.tt) ∧ Hid (Below W0.heap.size W0 wq0_4) from ⟨cell_onV Fs0.out HBK, cell_onV Fs1.out HBK, cell_onV Fs2.out HBK, cell_onV Fs3.out HBK, Lib.hid HBK⟩)
    clear hbk kB hHeld HBK
    go_simp
    refine hK.out _ _ ?_ (fun hHeld => ?_)
    · (try dsimp only); exact QS.out
    clear hK K
    try simp only [Act.put, List.setIfInBounds_toArray, List.set_cons_zero, List.set_cons_succ]
    refine tk 5 ?_
    refine tku 6 ?_
    refine tku 7 ?_
    refine tku 8 ?_
    refine tku 10 ?_
    refine tku 11 ?_
    refine tku 12 ?_
    refine tku 13 ?_
    refine tku 14 ?_
    refine tku 9 ?_
    refine tku 15 ?_
    refine tk 16 ?_
    refine tk 17 ?_
    refine tku 18 ?_
    refine tku 19 ?_
    refine tku 20 ?_
    refine tku 21 ?_
    refine tku 22 ?_
    refine tk 23 ?_
    refine tk 24 ?_
    refine tku 25 ?_
    refine tku 26 ?_
    refine tku 27 ?_
    refine tku 28 ?_
    refine tk 29 ?_
    refine tk 30 ?_
    refine wpAnyH_done (by kernel_rfl) ?_ _
    have E := Lib.hid (show _ = _ from E0.out)
    go_wp2
    go_ret
    exact ⟨ret_bool (by rw [E.out]), B.out.trans (hHeld.2.2.2.2.out.mono B.out.size)⟩
  | true =>
  have hs := of_decide_eq_true (show decide (0 ≤ s.ship ∧ s.ship ≤ (nf : Int) - 1) = true from hc1)
  obtain ⟨js, hjs⟩ : ∃ j : Nat, s.ship = (j : Int) := ⟨s.ship.toNat, by omega⟩
  obtain ⟨x, hx⟩ : ∃ x, fl[js]? = some x := ⟨_, List.getElem?_eq_getElem (by have := HNF.out; omega)⟩
  have WS := Lib.hid (Nfl.out x (List.mem_of_getElem? hx))
  have WB := Lib.hid (bAt_wf Nbs.out s.berth)
  have E0 := Lib.hid (pStay_parts (bs := bs) (l := l) hjs hx)
  rcases Rfl.out.2 with ⟨he, _⟩ | ⟨gf, of, cf', e, fpos, fcap, fc⟩
  · rw [he] at hx; simp at hx
  injection e with ea e2 e3
  subst ea
  clear e2 e3 fpos fcap
  obtain ⟨r0, r1, r2, r3, r4, r5⟩ := SlShip.cells fc js x hx
  clear fc hx
  have FS0 := Lib.hid (show W0.cell? ⟨gf, of + js * 6, none⟩ = some (.string x.name) from cell_onV r0 B.out)
  have FS1 := Lib.hid (show W0.cell? ⟨gf, of + js * 6 + 1, none⟩ = some (.int .i64 x.length) from cell_onV r1 B.out)
  have FS2 := Lib.hid (show W0.cell? ⟨gf, of + js * 6 + 2, none⟩ = some (.int .i64 x.draught) from cell_onV r2 B.out)
  have FS3 := Lib.hid (show W0.cell? ⟨gf, of + js * 6 + 3, none⟩ = some (.int .i64 x.line) from cell_onV r3 B.out)
  have FS4 := Lib.hid (show W0.cell? ⟨gf, of + js * 6 + 4, none⟩ = some (.int .i64 x.tugs) from cell_onV r4 B.out)
  have FS5 := Lib.hid (show W0.cell? ⟨gf, of + js * 6 + 5, none⟩ = some (.bool x.slow) from cell_onV r5 B.out)
  clear r0 r1 r2 r3 r4 r5
  obtain ⟨bb, hbb⟩ : ∃ b, bAt bs s.berth = b := ⟨_, rfl⟩
  have HBB := Lib.hid hbb
  rw [hbb] at WB
  obtain ⟨cf, hcf⟩ : ∃ b, fitB bb x = b := ⟨_, rfl⟩
  have HFT := Lib.hid hcf
  obtain ⟨cs, hcs⟩ : ∃ b, spanB s.fr s.tt = b := ⟨_, rfl⟩
  have HSP := Lib.hid hcs
  obtain ⟨ca, hca⟩ : ∃ b, l.any (meetB s) = b := ⟨_, rfl⟩
  have HAN := Lib.hid hca
  have E1 := Lib.hid (E0.out.trans (show _ = (cf && cs && !ca) by rw [hbb, hcf, hcs, hca]))
  have hjn : js < nf := by omega
  have Hd1 := Lib.hid (show inB (js : Int) 0 ((nf : Int) - 1) = true by rw [← hjs]; exact hc1)
  clear hbb hcf hcs hca hc1 hs E0
  cases cf with
  | false =>
    have Fs0 := Lib.hid (show W0.cell? ⟨w.heap.size, 0, none⟩ = some (.int .i64 s.ship) from Ks.out.cell 0)
    have Fs1 := Lib.hid (show W0.cell? ⟨w.heap.size, 1, none⟩ = some (.int .i64 s.berth) from Ks.out.cell 1)
    have Fs2 := Lib.hid (show W0.cell? ⟨w.heap.size, 2, none⟩ = some (.int .i64 s.fr) from Ks.out.cell 2)
    have Fs3 := Lib.hid (show W0.cell? ⟨w.heap.size, 3, none⟩ = some (.int .i64 s.tt) from Ks.out.cell 3)
    have DD := Lib.hid ((Below.refl W0.heap.size W0).drew)
    have vFs0 := Fs0.out
    have vFs1 := Fs1.out
    have vFs2 := Fs2.out
    have vFs3 := Fs3.out
    have vFS0 := FS0.out
    have vFS1 := FS1.out
    have vFS2 := FS2.out
    have vFS3 := FS3.out
    have vFS4 := FS4.out
    have vFS5 := FS5.out
    refine wp_region_held_drew (S := (fun w' => w'.cell? ⟨w.heap.size, 0, none⟩ = some (.int .i64 s.ship) ∧ w'.cell? ⟨w.heap.size, 1, none⟩ = some (.int .i64 s.berth) ∧ w'.cell? ⟨w.heap.size, 2, none⟩ = some (.int .i64 s.fr) ∧ w'.cell? ⟨w.heap.size, 3, none⟩ = some (.int .i64 s.tt) ∧ w'.cell? ⟨gf, of + js * 6, none⟩ = some (.string x.name) ∧ w'.cell? ⟨gf, of + js * 6 + 1, none⟩ = some (.int .i64 x.length) ∧ w'.cell? ⟨gf, of + js * 6 + 2, none⟩ = some (.int .i64 x.draught) ∧ w'.cell? ⟨gf, of + js * 6 + 3, none⟩ = some (.int .i64 x.line) ∧ w'.cell? ⟨gf, of + js * 6 + 4, none⟩ = some (.int .i64 x.tugs) ∧ w'.cell? ⟨gf, of + js * 6 + 5, none⟩ = some (.bool x.slow) ∧ Hid (Below W0.heap.size W0 w'))) (by kernel_rfl) ?_ (fun hHeld => ?_)
    · (try dsimp only); go_keep
    refine tk 0 ?_
    refine tk 1 ?_
    refine tk 2 ?_
    refine tk 3 ?_
    refine wpAnyH_ready (rs := [4]) (by kernel_rfl) (by simp) ?_
    refine AllReadyH.cons rfl (fun K hK => ?_) AllReadyH.nil
    rw [if_pos (by rfl)]
    go_simp
    go_at_call 84
    have kB := hHeld.2.2.2.2.2.2.2.2.2.2
    refine ((isIndex_any _ _ _)).mono ?_
    rw [Hd1.out]
    rintro e wq0_4 ⟨rfl, hbk1⟩
    have hbk := below_eqP hbk1
    have HBK := kB.out.trans (hbk.mono kB.out.size)
    have QS := Lib.hid (show wq0_4.cell? ⟨w.heap.size, 0, none⟩ = some (.int .i64 s.ship) ∧ wq0_4.cell? ⟨w.heap.size, 1, none⟩ = some (.int .i64 s.berth) ∧ wq0_4.cell? ⟨w.heap.size, 2, none⟩ = some (.int .i64 s.fr) ∧ wq0_4.cell? ⟨w.heap.size, 3, none⟩ = some (.int .i64 s.tt) ∧ wq0_4.cell? ⟨gf, of + js * 6, none⟩ = some (.string x.name) ∧ wq0_4.cell? ⟨gf, of + js * 6 + 1, none⟩ = some (.int .i64 x.length) ∧ wq0_4.cell? ⟨gf, of + js * 6 + 2, none⟩ = some (.int .i64 x.draught) ∧ wq0_4.cell? ⟨gf, of + js * 6 + 3, none⟩ = some (.int .i64 x.line) ∧ wq0_4.cell? ⟨gf, of + js * 6 + 4, none⟩ = some (.int .i64 x.tugs) ∧ wq0_4.cell? ⟨gf, of + js * 6 + 5, none⟩ = some (.bool x.slow) ∧ Hid (Below W0.heap.size W0 wq0_4) from ⟨cell_onV Fs0.out HBK, cell_onV Fs1.out HBK, cell_onV Fs2.out HBK, cell_onV Fs3.out HBK, cell_onV FS0.out HBK, cell_onV FS1.out HBK, cell_onV FS2.out HBK, cell_onV FS3.out HBK, cell_onV FS4.out HBK, cell_onV FS5.out HBK, Lib.hid HBK⟩)
    clear hbk kB hHeld HBK
    go_simp
    refine hK.out _ _ ?_ (fun hHeld => ?_)
    · (try dsimp only); exact QS.out
    clear hK K
    try simp only [Act.put, List.setIfInBounds_toArray, List.set_cons_zero, List.set_cons_succ]
    refine tk 5 ?_
    refine tk 6 ?_
    refine tk 7 ?_
    refine tk 8 ?_
    refine tk 10 ?_
    refine tk 11 ?_
    refine tk 12 ?_
    refine tk 13 ?_
    refine tk 14 ?_
    refine wpAnyH_ready (rs := [9]) (by kernel_rfl) (by simp) ?_
    refine AllReadyH.cons rfl (fun K hK => ?_) AllReadyH.nil
    rw [if_pos (by rfl)]
    go_simp
    go_at_call 59
    have kB := hHeld.2.2.2.2.2.2.2.2.2.2
    refine ((berthAt_any _ bs s.berth _ (Rbs.out.below (B.out.trans (kB.out.mono B.out.size))))).mono ?_
    rw [HBB.out]
    rintro e wq0_9 ⟨rfl, hbk⟩
    have HBK := kB.out.trans (hbk.mono kB.out.size)
    have QS := Lib.hid (show wq0_9.cell? ⟨w.heap.size, 0, none⟩ = some (.int .i64 s.ship) ∧ wq0_9.cell? ⟨w.heap.size, 1, none⟩ = some (.int .i64 s.berth) ∧ wq0_9.cell? ⟨w.heap.size, 2, none⟩ = some (.int .i64 s.fr) ∧ wq0_9.cell? ⟨w.heap.size, 3, none⟩ = some (.int .i64 s.tt) ∧ wq0_9.cell? ⟨gf, of + js * 6, none⟩ = some (.string x.name) ∧ wq0_9.cell? ⟨gf, of + js * 6 + 1, none⟩ = some (.int .i64 x.length) ∧ wq0_9.cell? ⟨gf, of + js * 6 + 2, none⟩ = some (.int .i64 x.draught) ∧ wq0_9.cell? ⟨gf, of + js * 6 + 3, none⟩ = some (.int .i64 x.line) ∧ wq0_9.cell? ⟨gf, of + js * 6 + 4, none⟩ = some (.int .i64 x.tugs) ∧ wq0_9.cell? ⟨gf, of + js * 6 + 5, none⟩ = some (.bool x.slow) ∧ Hid (Below W0.heap.size W0 wq0_9) from ⟨cell_onV Fs0.out HBK, cell_onV Fs1.out HBK, cell_onV Fs2.out HBK, cell_onV Fs3.out HBK, cell_onV FS0.out HBK, cell_onV FS1.out HBK, cell_onV FS2.out HBK, cell_onV FS3.out HBK, cell_onV FS4.out HBK, cell_onV FS5.out HBK, Lib.hid HBK⟩)
    clear hbk kB hHeld HBK
    go_simp
    refine hK.out _ _ ?_ (fun hHeld => ?_)
    · (try dsimp only); exact QS.out
    clear hK K
    try simp only [Act.put, List.setIfInBounds_toArray, List.set_cons_zero, List.set_cons_succ]
    refine wpAnyH_ready (rs := [15]) (by kernel_rfl) (by simp) ?_
    refine AllReadyH.cons rfl (fun K hK => ?_) AllReadyH.nil
    rw [if_pos (by rfl)]
    go_simp
    go_at_call 19
    have kB := hHeld.2.2.2.2.2.2.2.2.2.2
    refine ((implFitsBerth bb x _ WB.out WS.out)).mono ?_
    rw [HFT.out]
    rintro e wq0_15 ⟨rfl, hbk⟩
    have HBK := kB.out.trans (hbk.mono kB.out.size)
    have QS := Lib.hid (show wq0_15.cell? ⟨w.heap.size, 0, none⟩ = some (.int .i64 s.ship) ∧ wq0_15.cell? ⟨w.heap.size, 1, none⟩ = some (.int .i64 s.berth) ∧ wq0_15.cell? ⟨w.heap.size, 2, none⟩ = some (.int .i64 s.fr) ∧ wq0_15.cell? ⟨w.heap.size, 3, none⟩ = some (.int .i64 s.tt) ∧ wq0_15.cell? ⟨gf, of + js * 6, none⟩ = some (.string x.name) ∧ wq0_15.cell? ⟨gf, of + js * 6 + 1, none⟩ = some (.int .i64 x.length) ∧ wq0_15.cell? ⟨gf, of + js * 6 + 2, none⟩ = some (.int .i64 x.draught) ∧ wq0_15.cell? ⟨gf, of + js * 6 + 3, none⟩ = some (.int .i64 x.line) ∧ wq0_15.cell? ⟨gf, of + js * 6 + 4, none⟩ = some (.int .i64 x.tugs) ∧ wq0_15.cell? ⟨gf, of + js * 6 + 5, none⟩ = some (.bool x.slow) ∧ Hid (Below W0.heap.size W0 wq0_15) from ⟨cell_onV Fs0.out HBK, cell_onV Fs1.out HBK, cell_onV Fs2.out HBK, cell_onV Fs3.out HBK, cell_onV FS0.out HBK, cell_onV FS1.out HBK, cell_onV FS2.out HBK, cell_onV FS3.out HBK, cell_onV FS4.out HBK, cell_onV FS5.out HBK, Lib.hid HBK⟩)
    clear hbk kB hHeld HBK
    go_simp
    refine hK.out _ _ ?_ (fun hHeld => ?_)
    · (try dsimp only); exact QS.out
    clear hK K
    try simp only [Act.put, List.setIfInBounds_toArray, List.set_cons_zero, List.set_cons_succ]
    refine tk 16 ?_
    refine tk 17 ?_
    refine tku 18 ?_
    refine tku 19 ?_
    refine tku 20 ?_
    refine tku 21 ?_
    refine tku 22 ?_
    refine tk 23 ?_
    refine tk 24 ?_
    refine tku 25 ?_
    refine tku 26 ?_
    refine tku 27 ?_
    refine tku 28 ?_
    refine tk 29 ?_
    refine tk 30 ?_
    refine wpAnyH_done (by kernel_rfl) ?_ _
    have E := Lib.hid (show _ = _ from E1.out.trans (show _ = false by simp))
    go_wp2
    go_ret
    exact ⟨ret_bool (by rw [E.out]), B.out.trans (hHeld.2.2.2.2.2.2.2.2.2.2.out.mono B.out.size)⟩
  | true =>
  cases cs with
  | false =>
    have Fs0 := Lib.hid (show W0.cell? ⟨w.heap.size, 0, none⟩ = some (.int .i64 s.ship) from Ks.out.cell 0)
    have Fs1 := Lib.hid (show W0.cell? ⟨w.heap.size, 1, none⟩ = some (.int .i64 s.berth) from Ks.out.cell 1)
    have Fs2 := Lib.hid (show W0.cell? ⟨w.heap.size, 2, none⟩ = some (.int .i64 s.fr) from Ks.out.cell 2)
    have Fs3 := Lib.hid (show W0.cell? ⟨w.heap.size, 3, none⟩ = some (.int .i64 s.tt) from Ks.out.cell 3)
    have DD := Lib.hid ((Below.refl W0.heap.size W0).drew)
    have vFs0 := Fs0.out
    have vFs1 := Fs1.out
    have vFs2 := Fs2.out
    have vFs3 := Fs3.out
    have vFS0 := FS0.out
    have vFS1 := FS1.out
    have vFS2 := FS2.out
    have vFS3 := FS3.out
    have vFS4 := FS4.out
    have vFS5 := FS5.out
    refine wp_region_held_drew (S := (fun w' => w'.cell? ⟨w.heap.size, 0, none⟩ = some (.int .i64 s.ship) ∧ w'.cell? ⟨w.heap.size, 1, none⟩ = some (.int .i64 s.berth) ∧ w'.cell? ⟨w.heap.size, 2, none⟩ = some (.int .i64 s.fr) ∧ w'.cell? ⟨w.heap.size, 3, none⟩ = some (.int .i64 s.tt) ∧ w'.cell? ⟨gf, of + js * 6, none⟩ = some (.string x.name) ∧ w'.cell? ⟨gf, of + js * 6 + 1, none⟩ = some (.int .i64 x.length) ∧ w'.cell? ⟨gf, of + js * 6 + 2, none⟩ = some (.int .i64 x.draught) ∧ w'.cell? ⟨gf, of + js * 6 + 3, none⟩ = some (.int .i64 x.line) ∧ w'.cell? ⟨gf, of + js * 6 + 4, none⟩ = some (.int .i64 x.tugs) ∧ w'.cell? ⟨gf, of + js * 6 + 5, none⟩ = some (.bool x.slow) ∧ Hid (Below W0.heap.size W0 w'))) (by kernel_rfl) ?_ (fun hHeld => ?_)
    · (try dsimp only); go_keep
    refine tk 0 ?_
    refine tk 1 ?_
    refine tk 2 ?_
    refine tk 3 ?_
    refine wpAnyH_ready (rs := [4]) (by kernel_rfl) (by simp) ?_
    refine AllReadyH.cons rfl (fun K hK => ?_) AllReadyH.nil
    rw [if_pos (by rfl)]
    go_simp
    go_at_call 84
    have kB := hHeld.2.2.2.2.2.2.2.2.2.2
    refine ((isIndex_any _ _ _)).mono ?_
    rw [Hd1.out]
    rintro e wq0_4 ⟨rfl, hbk1⟩
    have hbk := below_eqP hbk1
    have HBK := kB.out.trans (hbk.mono kB.out.size)
    have QS := Lib.hid (show wq0_4.cell? ⟨w.heap.size, 0, none⟩ = some (.int .i64 s.ship) ∧ wq0_4.cell? ⟨w.heap.size, 1, none⟩ = some (.int .i64 s.berth) ∧ wq0_4.cell? ⟨w.heap.size, 2, none⟩ = some (.int .i64 s.fr) ∧ wq0_4.cell? ⟨w.heap.size, 3, none⟩ = some (.int .i64 s.tt) ∧ wq0_4.cell? ⟨gf, of + js * 6, none⟩ = some (.string x.name) ∧ wq0_4.cell? ⟨gf, of + js * 6 + 1, none⟩ = some (.int .i64 x.length) ∧ wq0_4.cell? ⟨gf, of + js * 6 + 2, none⟩ = some (.int .i64 x.draught) ∧ wq0_4.cell? ⟨gf, of + js * 6 + 3, none⟩ = some (.int .i64 x.line) ∧ wq0_4.cell? ⟨gf, of + js * 6 + 4, none⟩ = some (.int .i64 x.tugs) ∧ wq0_4.cell? ⟨gf, of + js * 6 + 5, none⟩ = some (.bool x.slow) ∧ Hid (Below W0.heap.size W0 wq0_4) from ⟨cell_onV Fs0.out HBK, cell_onV Fs1.out HBK, cell_onV Fs2.out HBK, cell_onV Fs3.out HBK, cell_onV FS0.out HBK, cell_onV FS1.out HBK, cell_onV FS2.out HBK, cell_onV FS3.out HBK, cell_onV FS4.out HBK, cell_onV FS5.out HBK, Lib.hid HBK⟩)
    clear hbk kB hHeld HBK
    go_simp
    refine hK.out _ _ ?_ (fun hHeld => ?_)
    · (try dsimp only); exact QS.out
    clear hK K
    try simp only [Act.put, List.setIfInBounds_toArray, List.set_cons_zero, List.set_cons_succ]
    refine tk 5 ?_
    refine tk 6 ?_
    refine tk 7 ?_
    refine tk 8 ?_
    refine tk 10 ?_
    refine tk 11 ?_
    refine tk 12 ?_
    refine tk 13 ?_
    refine tk 14 ?_
    refine wpAnyH_ready (rs := [9]) (by kernel_rfl) (by simp) ?_
    refine AllReadyH.cons rfl (fun K hK => ?_) AllReadyH.nil
    rw [if_pos (by rfl)]
    go_simp
    go_at_call 59
    have kB := hHeld.2.2.2.2.2.2.2.2.2.2
    refine ((berthAt_any _ bs s.berth _ (Rbs.out.below (B.out.trans (kB.out.mono B.out.size))))).mono ?_
    rw [HBB.out]
    rintro e wq0_9 ⟨rfl, hbk⟩
    have HBK := kB.out.trans (hbk.mono kB.out.size)
    have QS := Lib.hid (show wq0_9.cell? ⟨w.heap.size, 0, none⟩ = some (.int .i64 s.ship) ∧ wq0_9.cell? ⟨w.heap.size, 1, none⟩ = some (.int .i64 s.berth) ∧ wq0_9.cell? ⟨w.heap.size, 2, none⟩ = some (.int .i64 s.fr) ∧ wq0_9.cell? ⟨w.heap.size, 3, none⟩ = some (.int .i64 s.tt) ∧ wq0_9.cell? ⟨gf, of + js * 6, none⟩ = some (.string x.name) ∧ wq0_9.cell? ⟨gf, of + js * 6 + 1, none⟩ = some (.int .i64 x.length) ∧ wq0_9.cell? ⟨gf, of + js * 6 + 2, none⟩ = some (.int .i64 x.draught) ∧ wq0_9.cell? ⟨gf, of + js * 6 + 3, none⟩ = some (.int .i64 x.line) ∧ wq0_9.cell? ⟨gf, of + js * 6 + 4, none⟩ = some (.int .i64 x.tugs) ∧ wq0_9.cell? ⟨gf, of + js * 6 + 5, none⟩ = some (.bool x.slow) ∧ Hid (Below W0.heap.size W0 wq0_9) from ⟨cell_onV Fs0.out HBK, cell_onV Fs1.out HBK, cell_onV Fs2.out HBK, cell_onV Fs3.out HBK, cell_onV FS0.out HBK, cell_onV FS1.out HBK, cell_onV FS2.out HBK, cell_onV FS3.out HBK, cell_onV FS4.out HBK, cell_onV FS5.out HBK, Lib.hid HBK⟩)
    clear hbk kB hHeld HBK
    go_simp
    refine hK.out _ _ ?_ (fun hHeld => ?_)
    · (try dsimp only); exact QS.out
    clear hK K
    try simp only [Act.put, List.setIfInBounds_toArray, List.set_cons_zero, List.set_cons_succ]
    refine wpAnyH_ready (rs := [15]) (by kernel_rfl) (by simp) ?_
    refine AllReadyH.cons rfl (fun K hK => ?_) AllReadyH.nil
    rw [if_pos (by rfl)]
    go_simp
    go_at_call 19
    have kB := hHeld.2.2.2.2.2.2.2.2.2.2
    refine ((implFitsBerth bb x _ WB.out WS.out)).mono ?_
    rw [HFT.out]
    rintro e wq0_15 ⟨rfl, hbk⟩
    have HBK := kB.out.trans (hbk.mono kB.out.size)
    have QS := Lib.hid (show wq0_15.cell? ⟨w.heap.size, 0, none⟩ = some (.int .i64 s.ship) ∧ wq0_15.cell? ⟨w.heap.size, 1, none⟩ = some (.int .i64 s.berth) ∧ wq0_15.cell? ⟨w.heap.size, 2, none⟩ = some (.int .i64 s.fr) ∧ wq0_15.cell? ⟨w.heap.size, 3, none⟩ = some (.int .i64 s.tt) ∧ wq0_15.cell? ⟨gf, of + js * 6, none⟩ = some (.string x.name) ∧ wq0_15.cell? ⟨gf, of + js * 6 + 1, none⟩ = some (.int .i64 x.length) ∧ wq0_15.cell? ⟨gf, of + js * 6 + 2, none⟩ = some (.int .i64 x.draught) ∧ wq0_15.cell? ⟨gf, of + js * 6 + 3, none⟩ = some (.int .i64 x.line) ∧ wq0_15.cell? ⟨gf, of + js * 6 + 4, none⟩ = some (.int .i64 x.tugs) ∧ wq0_15.cell? ⟨gf, of + js * 6 + 5, none⟩ = some (.bool x.slow) ∧ Hid (Below W0.heap.size W0 wq0_15) from ⟨cell_onV Fs0.out HBK, cell_onV Fs1.out HBK, cell_onV Fs2.out HBK, cell_onV Fs3.out HBK, cell_onV FS0.out HBK, cell_onV FS1.out HBK, cell_onV FS2.out HBK, cell_onV FS3.out HBK, cell_onV FS4.out HBK, cell_onV FS5.out HBK, Lib.hid HBK⟩)
    clear hbk kB hHeld HBK
    go_simp
    refine hK.out _ _ ?_ (fun hHeld => ?_)
    · (try dsimp only); exact QS.out
    clear hK K
    try simp only [Act.put, List.setIfInBounds_toArray, List.set_cons_zero, List.set_cons_succ]
    refine tk 16 ?_
    refine tk 17 ?_
    refine tk 18 ?_
    refine tk 19 ?_
    refine tk 20 ?_
    refine tk 21 ?_
    refine wpAnyH_ready (rs := [22]) (by kernel_rfl) (by simp) ?_
    refine AllReadyH.cons rfl (fun K hK => ?_) AllReadyH.nil
    rw [if_pos (by rfl)]
    go_simp
    go_at_call 62
    have kB := hHeld.2.2.2.2.2.2.2.2.2.2
    refine ((isSpan_any _ _ _)).mono ?_
    rw [HSP.out]
    rintro e wq0_22 ⟨rfl, hbk1⟩
    have hbk := below_eqP hbk1
    have HBK := kB.out.trans (hbk.mono kB.out.size)
    have QS := Lib.hid (show wq0_22.cell? ⟨w.heap.size, 0, none⟩ = some (.int .i64 s.ship) ∧ wq0_22.cell? ⟨w.heap.size, 1, none⟩ = some (.int .i64 s.berth) ∧ wq0_22.cell? ⟨w.heap.size, 2, none⟩ = some (.int .i64 s.fr) ∧ wq0_22.cell? ⟨w.heap.size, 3, none⟩ = some (.int .i64 s.tt) ∧ wq0_22.cell? ⟨gf, of + js * 6, none⟩ = some (.string x.name) ∧ wq0_22.cell? ⟨gf, of + js * 6 + 1, none⟩ = some (.int .i64 x.length) ∧ wq0_22.cell? ⟨gf, of + js * 6 + 2, none⟩ = some (.int .i64 x.draught) ∧ wq0_22.cell? ⟨gf, of + js * 6 + 3, none⟩ = some (.int .i64 x.line) ∧ wq0_22.cell? ⟨gf, of + js * 6 + 4, none⟩ = some (.int .i64 x.tugs) ∧ wq0_22.cell? ⟨gf, of + js * 6 + 5, none⟩ = some (.bool x.slow) ∧ Hid (Below W0.heap.size W0 wq0_22) from ⟨cell_onV Fs0.out HBK, cell_onV Fs1.out HBK, cell_onV Fs2.out HBK, cell_onV Fs3.out HBK, cell_onV FS0.out HBK, cell_onV FS1.out HBK, cell_onV FS2.out HBK, cell_onV FS3.out HBK, cell_onV FS4.out HBK, cell_onV FS5.out HBK, Lib.hid HBK⟩)
    clear hbk kB hHeld HBK
    go_simp
    refine hK.out _ _ ?_ (fun hHeld => ?_)
    · (try dsimp only); exact QS.out
    clear hK K
    try simp only [Act.put, List.setIfInBounds_toArray, List.set_cons_zero, List.set_cons_succ]
    refine tk 23 ?_
    refine tk 24 ?_
    refine tku 25 ?_
    refine tku 26 ?_
    refine tku 27 ?_
    refine tku 28 ?_
    refine tk 29 ?_
    refine tk 30 ?_
    refine wpAnyH_done (by kernel_rfl) ?_ _
    have E := Lib.hid (show _ = _ from E1.out.trans (show _ = false by simp))
    go_wp2
    go_ret
    exact ⟨ret_bool (by rw [E.out]), B.out.trans (hHeld.2.2.2.2.2.2.2.2.2.2.out.mono B.out.size)⟩
  | true =>
  have Fs0 := Lib.hid (show W0.cell? ⟨w.heap.size, 0, none⟩ = some (.int .i64 s.ship) from Ks.out.cell 0)
  have Fs1 := Lib.hid (show W0.cell? ⟨w.heap.size, 1, none⟩ = some (.int .i64 s.berth) from Ks.out.cell 1)
  have Fs2 := Lib.hid (show W0.cell? ⟨w.heap.size, 2, none⟩ = some (.int .i64 s.fr) from Ks.out.cell 2)
  have Fs3 := Lib.hid (show W0.cell? ⟨w.heap.size, 3, none⟩ = some (.int .i64 s.tt) from Ks.out.cell 3)
  have DD := Lib.hid ((Below.refl W0.heap.size W0).drew)
  have vFs0 := Fs0.out
  have vFs1 := Fs1.out
  have vFs2 := Fs2.out
  have vFs3 := Fs3.out
  have vFS0 := FS0.out
  have vFS1 := FS1.out
  have vFS2 := FS2.out
  have vFS3 := FS3.out
  have vFS4 := FS4.out
  have vFS5 := FS5.out
  refine wp_region_held_drew (S := (fun w' => w'.cell? ⟨w.heap.size, 0, none⟩ = some (.int .i64 s.ship) ∧ w'.cell? ⟨w.heap.size, 1, none⟩ = some (.int .i64 s.berth) ∧ w'.cell? ⟨w.heap.size, 2, none⟩ = some (.int .i64 s.fr) ∧ w'.cell? ⟨w.heap.size, 3, none⟩ = some (.int .i64 s.tt) ∧ w'.cell? ⟨gf, of + js * 6, none⟩ = some (.string x.name) ∧ w'.cell? ⟨gf, of + js * 6 + 1, none⟩ = some (.int .i64 x.length) ∧ w'.cell? ⟨gf, of + js * 6 + 2, none⟩ = some (.int .i64 x.draught) ∧ w'.cell? ⟨gf, of + js * 6 + 3, none⟩ = some (.int .i64 x.line) ∧ w'.cell? ⟨gf, of + js * 6 + 4, none⟩ = some (.int .i64 x.tugs) ∧ w'.cell? ⟨gf, of + js * 6 + 5, none⟩ = some (.bool x.slow) ∧ Hid (Below W0.heap.size W0 w'))) (by kernel_rfl) ?_ (fun hHeld => ?_)
  · (try dsimp only); go_keep
  refine tk 0 ?_
  refine tk 1 ?_
  refine tk 2 ?_
  refine tk 3 ?_
  refine wpAnyH_ready (rs := [4]) (by kernel_rfl) (by simp) ?_
  refine AllReadyH.cons rfl (fun K hK => ?_) AllReadyH.nil
  rw [if_pos (by rfl)]
  go_simp
  go_at_call 84
  have kB := hHeld.2.2.2.2.2.2.2.2.2.2
  refine ((isIndex_any _ _ _)).mono ?_
  rw [Hd1.out]
  rintro e wq0_4 ⟨rfl, hbk1⟩
  have hbk := below_eqP hbk1
  have HBK := kB.out.trans (hbk.mono kB.out.size)
  have QS := Lib.hid (show wq0_4.cell? ⟨w.heap.size, 0, none⟩ = some (.int .i64 s.ship) ∧ wq0_4.cell? ⟨w.heap.size, 1, none⟩ = some (.int .i64 s.berth) ∧ wq0_4.cell? ⟨w.heap.size, 2, none⟩ = some (.int .i64 s.fr) ∧ wq0_4.cell? ⟨w.heap.size, 3, none⟩ = some (.int .i64 s.tt) ∧ wq0_4.cell? ⟨gf, of + js * 6, none⟩ = some (.string x.name) ∧ wq0_4.cell? ⟨gf, of + js * 6 + 1, none⟩ = some (.int .i64 x.length) ∧ wq0_4.cell? ⟨gf, of + js * 6 + 2, none⟩ = some (.int .i64 x.draught) ∧ wq0_4.cell? ⟨gf, of + js * 6 + 3, none⟩ = some (.int .i64 x.line) ∧ wq0_4.cell? ⟨gf, of + js * 6 + 4, none⟩ = some (.int .i64 x.tugs) ∧ wq0_4.cell? ⟨gf, of + js * 6 + 5, none⟩ = some (.bool x.slow) ∧ Hid (Below W0.heap.size W0 wq0_4) from ⟨cell_onV Fs0.out HBK, cell_onV Fs1.out HBK, cell_onV Fs2.out HBK, cell_onV Fs3.out HBK, cell_onV FS0.out HBK, cell_onV FS1.out HBK, cell_onV FS2.out HBK, cell_onV FS3.out HBK, cell_onV FS4.out HBK, cell_onV FS5.out HBK, Lib.hid HBK⟩)
  clear hbk kB hHeld HBK
  go_simp
  refine hK.out _ _ ?_ (fun hHeld => ?_)
  · (try dsimp only); exact QS.out
  clear hK K
  try simp only [Act.put, List.setIfInBounds_toArray, List.set_cons_zero, List.set_cons_succ]
  refine tk 5 ?_
  refine tk 6 ?_
  refine tk 7 ?_
  refine tk 8 ?_
  refine tk 10 ?_
  refine tk 11 ?_
  refine tk 12 ?_
  refine tk 13 ?_
  refine tk 14 ?_
  refine wpAnyH_ready (rs := [9]) (by kernel_rfl) (by simp) ?_
  refine AllReadyH.cons rfl (fun K hK => ?_) AllReadyH.nil
  rw [if_pos (by rfl)]
  go_simp
  go_at_call 59
  have kB := hHeld.2.2.2.2.2.2.2.2.2.2
  refine ((berthAt_any _ bs s.berth _ (Rbs.out.below (B.out.trans (kB.out.mono B.out.size))))).mono ?_
  rw [HBB.out]
  rintro e wq0_9 ⟨rfl, hbk⟩
  have HBK := kB.out.trans (hbk.mono kB.out.size)
  have QS := Lib.hid (show wq0_9.cell? ⟨w.heap.size, 0, none⟩ = some (.int .i64 s.ship) ∧ wq0_9.cell? ⟨w.heap.size, 1, none⟩ = some (.int .i64 s.berth) ∧ wq0_9.cell? ⟨w.heap.size, 2, none⟩ = some (.int .i64 s.fr) ∧ wq0_9.cell? ⟨w.heap.size, 3, none⟩ = some (.int .i64 s.tt) ∧ wq0_9.cell? ⟨gf, of + js * 6, none⟩ = some (.string x.name) ∧ wq0_9.cell? ⟨gf, of + js * 6 + 1, none⟩ = some (.int .i64 x.length) ∧ wq0_9.cell? ⟨gf, of + js * 6 + 2, none⟩ = some (.int .i64 x.draught) ∧ wq0_9.cell? ⟨gf, of + js * 6 + 3, none⟩ = some (.int .i64 x.line) ∧ wq0_9.cell? ⟨gf, of + js * 6 + 4, none⟩ = some (.int .i64 x.tugs) ∧ wq0_9.cell? ⟨gf, of + js * 6 + 5, none⟩ = some (.bool x.slow) ∧ Hid (Below W0.heap.size W0 wq0_9) from ⟨cell_onV Fs0.out HBK, cell_onV Fs1.out HBK, cell_onV Fs2.out HBK, cell_onV Fs3.out HBK, cell_onV FS0.out HBK, cell_onV FS1.out HBK, cell_onV FS2.out HBK, cell_onV FS3.out HBK, cell_onV FS4.out HBK, cell_onV FS5.out HBK, Lib.hid HBK⟩)
  clear hbk kB hHeld HBK
  go_simp
  refine hK.out _ _ ?_ (fun hHeld => ?_)
  · (try dsimp only); exact QS.out
  clear hK K
  try simp only [Act.put, List.setIfInBounds_toArray, List.set_cons_zero, List.set_cons_succ]
  refine wpAnyH_ready (rs := [15]) (by kernel_rfl) (by simp) ?_
  refine AllReadyH.cons rfl (fun K hK => ?_) AllReadyH.nil
  rw [if_pos (by rfl)]
  go_simp
  go_at_call 19
  have kB := hHeld.2.2.2.2.2.2.2.2.2.2
  refine ((implFitsBerth bb x _ WB.out WS.out)).mono ?_
  rw [HFT.out]
  rintro e wq0_15 ⟨rfl, hbk⟩
  have HBK := kB.out.trans (hbk.mono kB.out.size)
  have QS := Lib.hid (show wq0_15.cell? ⟨w.heap.size, 0, none⟩ = some (.int .i64 s.ship) ∧ wq0_15.cell? ⟨w.heap.size, 1, none⟩ = some (.int .i64 s.berth) ∧ wq0_15.cell? ⟨w.heap.size, 2, none⟩ = some (.int .i64 s.fr) ∧ wq0_15.cell? ⟨w.heap.size, 3, none⟩ = some (.int .i64 s.tt) ∧ wq0_15.cell? ⟨gf, of + js * 6, none⟩ = some (.string x.name) ∧ wq0_15.cell? ⟨gf, of + js * 6 + 1, none⟩ = some (.int .i64 x.length) ∧ wq0_15.cell? ⟨gf, of + js * 6 + 2, none⟩ = some (.int .i64 x.draught) ∧ wq0_15.cell? ⟨gf, of + js * 6 + 3, none⟩ = some (.int .i64 x.line) ∧ wq0_15.cell? ⟨gf, of + js * 6 + 4, none⟩ = some (.int .i64 x.tugs) ∧ wq0_15.cell? ⟨gf, of + js * 6 + 5, none⟩ = some (.bool x.slow) ∧ Hid (Below W0.heap.size W0 wq0_15) from ⟨cell_onV Fs0.out HBK, cell_onV Fs1.out HBK, cell_onV Fs2.out HBK, cell_onV Fs3.out HBK, cell_onV FS0.out HBK, cell_onV FS1.out HBK, cell_onV FS2.out HBK, cell_onV FS3.out HBK, cell_onV FS4.out HBK, cell_onV FS5.out HBK, Lib.hid HBK⟩)
  clear hbk kB hHeld HBK
  go_simp
  refine hK.out _ _ ?_ (fun hHeld => ?_)
  · (try dsimp only); exact QS.out
  clear hK K
  try simp only [Act.put, List.setIfInBounds_toArray, List.set_cons_zero, List.set_cons_succ]
  refine tk 16 ?_
  refine tk 17 ?_
  refine tk 18 ?_
  refine tk 19 ?_
  refine tk 20 ?_
  refine tk 21 ?_
  refine wpAnyH_ready (rs := [22]) (by kernel_rfl) (by simp) ?_
  refine AllReadyH.cons rfl (fun K hK => ?_) AllReadyH.nil
  rw [if_pos (by rfl)]
  go_simp
  go_at_call 62
  have kB := hHeld.2.2.2.2.2.2.2.2.2.2
  refine ((isSpan_any _ _ _)).mono ?_
  rw [HSP.out]
  rintro e wq0_22 ⟨rfl, hbk1⟩
  have hbk := below_eqP hbk1
  have HBK := kB.out.trans (hbk.mono kB.out.size)
  have QS := Lib.hid (show wq0_22.cell? ⟨w.heap.size, 0, none⟩ = some (.int .i64 s.ship) ∧ wq0_22.cell? ⟨w.heap.size, 1, none⟩ = some (.int .i64 s.berth) ∧ wq0_22.cell? ⟨w.heap.size, 2, none⟩ = some (.int .i64 s.fr) ∧ wq0_22.cell? ⟨w.heap.size, 3, none⟩ = some (.int .i64 s.tt) ∧ wq0_22.cell? ⟨gf, of + js * 6, none⟩ = some (.string x.name) ∧ wq0_22.cell? ⟨gf, of + js * 6 + 1, none⟩ = some (.int .i64 x.length) ∧ wq0_22.cell? ⟨gf, of + js * 6 + 2, none⟩ = some (.int .i64 x.draught) ∧ wq0_22.cell? ⟨gf, of + js * 6 + 3, none⟩ = some (.int .i64 x.line) ∧ wq0_22.cell? ⟨gf, of + js * 6 + 4, none⟩ = some (.int .i64 x.tugs) ∧ wq0_22.cell? ⟨gf, of + js * 6 + 5, none⟩ = some (.bool x.slow) ∧ Hid (Below W0.heap.size W0 wq0_22) from ⟨cell_onV Fs0.out HBK, cell_onV Fs1.out HBK, cell_onV Fs2.out HBK, cell_onV Fs3.out HBK, cell_onV FS0.out HBK, cell_onV FS1.out HBK, cell_onV FS2.out HBK, cell_onV FS3.out HBK, cell_onV FS4.out HBK, cell_onV FS5.out HBK, Lib.hid HBK⟩)
  clear hbk kB hHeld HBK
  go_simp
  refine hK.out _ _ ?_ (fun hHeld => ?_)
  · (try dsimp only); exact QS.out
  clear hK K
  try simp only [Act.put, List.setIfInBounds_toArray, List.set_cons_zero, List.set_cons_succ]
  refine tk 23 ?_
  refine tk 24 ?_
  refine tk 25 ?_
  refine tk 26 ?_
  refine wpAnyH_ready (rs := [27]) (by kernel_rfl) (by simp) ?_
  refine AllReadyH.cons rfl (fun K hK => ?_) AllReadyH.nil
  rw [if_pos (by rfl)]
  go_simp
  go_at_call 85
  have kB := hHeld.2.2.2.2.2.2.2.2.2.2
  refine ((stayContains_any _ l s _ _ (Rl.out.below (B.out.trans (kB.out.mono B.out.size))) hHeld.1 hHeld.2.1 hHeld.2.2.1 hHeld.2.2.2.1)).mono ?_
  rw [HAN.out]
  rintro e wq0_27 ⟨rfl, hbk⟩
  have HBK := kB.out.trans (hbk.mono kB.out.size)
  have QS := Lib.hid (show wq0_27.cell? ⟨w.heap.size, 0, none⟩ = some (.int .i64 s.ship) ∧ wq0_27.cell? ⟨w.heap.size, 1, none⟩ = some (.int .i64 s.berth) ∧ wq0_27.cell? ⟨w.heap.size, 2, none⟩ = some (.int .i64 s.fr) ∧ wq0_27.cell? ⟨w.heap.size, 3, none⟩ = some (.int .i64 s.tt) ∧ wq0_27.cell? ⟨gf, of + js * 6, none⟩ = some (.string x.name) ∧ wq0_27.cell? ⟨gf, of + js * 6 + 1, none⟩ = some (.int .i64 x.length) ∧ wq0_27.cell? ⟨gf, of + js * 6 + 2, none⟩ = some (.int .i64 x.draught) ∧ wq0_27.cell? ⟨gf, of + js * 6 + 3, none⟩ = some (.int .i64 x.line) ∧ wq0_27.cell? ⟨gf, of + js * 6 + 4, none⟩ = some (.int .i64 x.tugs) ∧ wq0_27.cell? ⟨gf, of + js * 6 + 5, none⟩ = some (.bool x.slow) ∧ Hid (Below W0.heap.size W0 wq0_27) from ⟨cell_onV Fs0.out HBK, cell_onV Fs1.out HBK, cell_onV Fs2.out HBK, cell_onV Fs3.out HBK, cell_onV FS0.out HBK, cell_onV FS1.out HBK, cell_onV FS2.out HBK, cell_onV FS3.out HBK, cell_onV FS4.out HBK, cell_onV FS5.out HBK, Lib.hid HBK⟩)
  clear hbk kB hHeld HBK
  go_simp
  refine hK.out _ _ ?_ (fun hHeld => ?_)
  · (try dsimp only); exact QS.out
  clear hK K
  try simp only [Act.put, List.setIfInBounds_toArray, List.set_cons_zero, List.set_cons_succ]
  refine tk 28 ?_
  refine tk 29 ?_
  refine tk 30 ?_
  refine wpAnyH_done (by kernel_rfl) ?_ _
  have E := Lib.hid (show _ = _ from E1.out.trans (show _ = !ca by simp))
  go_wp2
  go_ret
  exact ⟨ret_bool (by rw [E.out]), B.out.trans (hHeld.2.2.2.2.2.2.2.2.2.2.out.mono B.out.size)⟩
set_option maxHeartbeats 16000000 in
theorem implStaysOk (ybs : Value) (bs : List BerthD) (yfl : Value) (fl : List ShipD) (yl : Value) (l : List StayD) (w : World) (rbs : SlBerth w ybs bs) (rfl : SlShip w yfl fl) (rl : SlStay w yl l) (fbs : ∀ x ∈ bs, BerthD.wf x) (ffl : ∀ x ∈ fl, ShipD.wf x) :
    Calls Try.prog 14 #[ybs, yfl, yl] w (fun e w' => e = .returned (.bool (staysB bs fl l)) ∧ Below w.heap.size w w') := by

  have Rbs := Lib.hid rbs
  obtain ⟨Abs, cbs, rfl⟩ := SlOf.form rbs
  clear rbs
  have Nbs := Lib.hid fbs
  clear fbs
  have Rfl := Lib.hid rfl
  obtain ⟨Afl, cfl, rfl⟩ := SlOf.form rfl
  clear rfl
  have Nfl := Lib.hid ffl
  clear ffl
  have Rl := Lib.hid rl
  obtain ⟨Al, cl, rfl⟩ := SlOf.form rl
  clear rl
  have B := Lib.hid (Below.refl w.heap.size w)
  have hlb := Rbs.out.1
  have hlf := Rfl.out.1
  have hll := Rl.out.1
  obtain ⟨b1, hb1⟩ : ∃ b, berthsB bs = b := ⟨_, rfl⟩
  have Hb1 := Lib.hid hb1
  obtain ⟨b2, hb2⟩ : ∃ b, fleetB fl = b := ⟨_, rfl⟩
  have Hb2 := Lib.hid hb2
  obtain ⟨b3, hb3⟩ : ∃ b, decide (l.length ≤ 12) = b := ⟨_, rfl⟩
  have Hb3 := Lib.hid hb3
  have E0 := Lib.hid (show staysB bs fl l = (b1 && b2 && b3 && runB (pStay bs fl) [] l) by unfold staysB; rw [hb1, hb2, ← hb3])
  have hcap : 0 < l.length → l.length ≤ cl := fun h0 => by
    rcases Rl.out.2 with ⟨he, _⟩ | ⟨g, o, c, e, _, hc, _⟩
    · rw [he] at h0; simp at h0
    · injection e with _ _ e3; omega
  have HCAP := Lib.hid hcap
  have HRL := Lib.hid Rl.out
  obtain ⟨m, hm⟩ : ∃ m, l.length = m := ⟨_, rfl⟩
  have HM := Lib.hid hm
  rw [hm] at Hb3 HCAP hll Rl
  try rw [hm]
  obtain ⟨nb, hnb⟩ : ∃ m, bs.length = m := ⟨_, rfl⟩
  rw [hnb] at hlb Rbs
  try rw [hnb]
  obtain ⟨nf, hnf⟩ : ∃ m, fl.length = m := ⟨_, rfl⟩
  rw [hnf] at hlf Rfl
  try rw [hnf]
  clear hb1 hb2 hb3 hm hnb hnf hcap
  cases b1 with
  | false =>
    have E := Lib.hid (E0.out.trans (show _ = false by simp))
    go_enter Try.func14, Try.ntmps14
    go_wp2_with fail
    refine (implBerthsOk _ bs _ (Rbs.out.below B.out) Nbs.out).mono ?_
    rw [Hb1.out]
    rintro e w1 ⟨rfl, hb1⟩
    have B1 := Lib.hid (B.out.trans (hb1.mono B.out.size))
    clear hb1
    go_wp2
    go_ret
    exact ⟨ret_bool E.out.symm, B1.out⟩
  | true =>
  cases b2 with
  | false =>
    have E := Lib.hid (E0.out.trans (show _ = false by simp))
    go_enter Try.func14, Try.ntmps14
    go_wp2_with fail
    refine (implBerthsOk _ bs _ (Rbs.out.below B.out) Nbs.out).mono ?_
    rw [Hb1.out]
    rintro e w1 ⟨rfl, hb1⟩
    have B1 := Lib.hid (B.out.trans (hb1.mono B.out.size))
    clear hb1
    go_wp2_with fail
    refine (implFleetOk _ fl _ (Rfl.out.below B1.out) Nfl.out).mono ?_
    rw [Hb2.out]
    rintro e w2 ⟨rfl, hb2⟩
    have B2 := Lib.hid (B1.out.trans (hb2.mono B1.out.size))
    clear hb2
    go_wp2
    go_ret
    exact ⟨ret_bool E.out.symm, B2.out⟩
  | true =>
  cases b3 with
  | false =>
    have E := Lib.hid (E0.out.trans (show _ = false by simp))
    go_enter Try.func14, Try.ntmps14
    go_wp2_with fail
    refine (implBerthsOk _ bs _ (Rbs.out.below B.out) Nbs.out).mono ?_
    rw [Hb1.out]
    rintro e w1 ⟨rfl, hb1⟩
    have B1 := Lib.hid (B.out.trans (hb1.mono B.out.size))
    clear hb1
    go_wp2_with fail
    refine (implFleetOk _ fl _ (Rfl.out.below B1.out) Nfl.out).mono ?_
    rw [Hb2.out]
    rintro e w2 ⟨rfl, hb2⟩
    have B2 := Lib.hid (B1.out.trans (hb2.mono B1.out.size))
    clear hb2
    have h12 : ¬ m ≤ 12 := of_decide_eq_false Hb3.out
    have g12 : decide ((12 : Int) < (m : Int)) = true := decide_eq_true (by omega)
    go_wp2
    go_ret
    exact ⟨ret_bool E.out.symm, B2.out⟩
  | true =>
  have h12 : m ≤ 12 := of_decide_eq_true Hb3.out
  have g12 : decide ((12 : Int) < (m : Int)) = false := decide_eq_false (by omega)
  have E1 := Lib.hid (E0.out.trans (show _ = runB (pStay bs fl) [] l by simp))
  go_enter Try.func14, Try.ntmps14
  go_wp2_with fail
  refine (implBerthsOk _ bs _ (Rbs.out.below B.out) Nbs.out).mono ?_
  rw [Hb1.out]
  rintro e w1 ⟨rfl, hb1⟩
  have B1 := Lib.hid (B.out.trans (hb1.mono B.out.size))
  clear hb1
  go_wp2_with fail
  refine (implFleetOk _ fl _ (Rfl.out.below B1.out) Nfl.out).mono ?_
  rw [Hb2.out]
  rintro e w2 ⟨rfl, hb2⟩
  have B2 := Lib.hid (B1.out.trans (hb2.mono B1.out.size))
  clear hb2
  go_wp2
  go_loopw [24] (fun t wr => ∃ i : Nat, i ≤ m ∧ t = .int .i64 (i : Int) ∧ Hid (RunTo (pStay bs fl) l i) ∧ Hid (Below w2.heap.size w2 wr)) (fun t _ => m - (intOf t).toNat)
  case atStart => exact ⟨0, Nat.zero_le _, rfl, Lib.hid (RunTo.zero _ _), Lib.hid (Below.refl _ _)⟩
  case round =>
    obtain ⟨i, hi, rfl, hT, hb⟩ := hrel
    have BR := Lib.hid (B2.out.trans (hb.out.mono B2.out.size))
    have hzs := hb.out.size
    by_cases hlt : i < m
    rotate_left
    · obtain rfl : i = m := by omega
      have E := Lib.hid (E1.out.trans (RunTo.all (by rw [HM.out]; exact hT.out)))
      go_wp2
      go_ret
      exact ⟨ret_bool E.out.symm, BR.out⟩
    have hcap := HCAP.out (by omega)
    obtain ⟨x, hx⟩ : ∃ x, l[i]? = some x := ⟨_, List.getElem?_eq_getElem (by have := HM.out; omega)⟩
    have HX := Lib.hid hx
    have TK := Lib.hid (SlOf.takeP (k := i) HRL.out (by have := HM.out; omega))
    rcases HRL.out.2 with ⟨he, _⟩ | ⟨gl, ol, cl', e, lpos, lcap, lc⟩
    · rw [he] at hx; simp at hx
    injection e with ea e2 e3
    subst ea
    clear e2 e3 lpos lcap
    obtain ⟨p0, p1, p2, p3⟩ := SlStay.cells lc i x hx
    have y0 := cell_onV p0 BR.out
    have y1 := cell_onV p1 BR.out
    have y2 := cell_onV p2 BR.out
    have y3 := cell_onV p3 BR.out
    clear p0 p1 p2 p3 lc hx
    go_upto_region 6 with fail
    have BL := Joins.below_alloc1 wr (.cells #[.int .i64 x.ship, .int .i64 x.berth, .int .i64 x.fr, .int .i64 x.tt] 33)
    have KN := Blk.new wr #[.int .i64 x.ship, .int .i64 x.berth, .int .i64 x.fr, .int .i64 x.tt] 33
    obtain ⟨w6, hw6⟩ : ∃ w6, w6 = wr.alloc (.cells #[.int .i64 x.ship, .int .i64 x.berth, .int .i64 x.fr, .int .i64 x.tt] 33) := ⟨_, rfl⟩
    rw [← hw6] at BL KN ⊢
    have B6 := Lib.hid (BR.out.trans (BL.mono BR.out.size))
    have KP := Lib.hid KN
    have hb6 := Lib.hid (hb.out.trans (BL.mono hb.out.size))
    obtain ⟨wo, hwo⟩ : ∃ W, W = wr := ⟨_, rfl⟩
    rw [← hwo] at KP hzs ⊢
    clear hw6 hwo BL KN y0 y1 y2 y3 hb
    have FP0 := Lib.hid (show w6.cell? ⟨wo.heap.size, 0, none⟩ = some (.int .i64 x.ship) from KP.out.cell 0)
    have FP1 := Lib.hid (show w6.cell? ⟨wo.heap.size, 1, none⟩ = some (.int .i64 x.berth) from KP.out.cell 1)
    have FP2 := Lib.hid (show w6.cell? ⟨wo.heap.size, 2, none⟩ = some (.int .i64 x.fr) from KP.out.cell 2)
    have FP3 := Lib.hid (show w6.cell? ⟨wo.heap.size, 3, none⟩ = some (.int .i64 x.tt) from KP.out.cell 3)
    obtain ⟨t, ht⟩ : ∃ t, pStay bs fl (l.take i) x = t := ⟨_, rfl⟩
    have HT := Lib.hid ht
    have hkc : (0 : Int) ≤ (i : Int) ∧ (i : Int) ≤ (cl : Int) := by omega
    clear ht
    have DD := Lib.hid ((Below.refl w6.heap.size w6).drew)
    have vFP0 := FP0.out
    have vFP1 := FP1.out
    have vFP2 := FP2.out
    have vFP3 := FP3.out
    refine wp_region_held_drew (S := (fun w' => w'.cell? ⟨wo.heap.size, 0, none⟩ = some (.int .i64 x.ship) ∧ w'.cell? ⟨wo.heap.size, 1, none⟩ = some (.int .i64 x.berth) ∧ w'.cell? ⟨wo.heap.size, 2, none⟩ = some (.int .i64 x.fr) ∧ w'.cell? ⟨wo.heap.size, 3, none⟩ = some (.int .i64 x.tt) ∧ Hid (Below w6.heap.size w6 w'))) (by kernel_rfl) ?_ (fun hHeld => ?_)
    · (try dsimp only); go_keep
    refine tk 0 ?_
    refine tk 1 ?_
    refine tk 2 ?_
    refine tk 3 ?_
    refine tk 4 ?_
    refine tk 5 ?_
    refine wpAnyH_ready (rs := [6]) (by kernel_rfl) (by simp) ?_
    refine AllReadyH.cons rfl (fun K hK => ?_) AllReadyH.nil
    rw [if_pos (by rfl)]
    go_simp
    go_at_call 57
    have kB := hHeld.2.2.2.2
    refine ((canStay_any _ bs _ fl _ (l.take i) x _ (Rbs.out.below (B6.out.trans (kB.out.mono B6.out.size))) (Rfl.out.below (B6.out.trans (kB.out.mono B6.out.size))) (SlOf.below TK.out (B6.out.trans (kB.out.mono B6.out.size))) Nbs.out Nfl.out)).mono ?_
    rw [HT.out]
    rintro e wq6_6 ⟨rfl, hbk⟩
    have HBK := kB.out.trans (hbk.mono kB.out.size)
    have QS := Lib.hid (show wq6_6.cell? ⟨wo.heap.size, 0, none⟩ = some (.int .i64 x.ship) ∧ wq6_6.cell? ⟨wo.heap.size, 1, none⟩ = some (.int .i64 x.berth) ∧ wq6_6.cell? ⟨wo.heap.size, 2, none⟩ = some (.int .i64 x.fr) ∧ wq6_6.cell? ⟨wo.heap.size, 3, none⟩ = some (.int .i64 x.tt) ∧ Hid (Below w6.heap.size w6 wq6_6) from ⟨cell_onV FP0.out HBK, cell_onV FP1.out HBK, cell_onV FP2.out HBK, cell_onV FP3.out HBK, Lib.hid HBK⟩)
    clear hbk kB hHeld HBK
    go_simp
    refine hK.out _ _ ?_ (fun hHeld => ?_)
    · (try dsimp only); exact QS.out
    clear hK K
    try simp only [Act.put, List.setIfInBounds_toArray, List.set_cons_zero, List.set_cons_succ]
    refine tk 7 ?_
    refine wpAnyH_done (by kernel_rfl) ?_ _
    have BK := Lib.hid hHeld.2.2.2.2.out
    have B7 := Lib.hid (B6.out.trans (BK.out.mono B6.out.size))
    have hb7 := Lib.hid (hb6.out.trans (BK.out.mono hb6.out.size))
    clear hHeld DD BK vFP0 vFP1 vFP2 vFP3
    cases t with
    | false =>
      have E := Lib.hid (E1.out.trans (run_no HX.out HT.out))
      go_wp2
      go_ret
      exact ⟨ret_bool E.out.symm, B7.out⟩
    | true =>
      have R2 := Lib.hid (hT.out.next HX.out HT.out)
      go_wp2
      go_roundw
      case rel => exact ⟨i + 1, by omega, by go_num, R2, hb7⟩
      case measure => simp [intOf]; omega
theorem rangeAt {n k : Nat} (h : k < n) : ((List.range n).map (fun b : Nat => (b : Int)))[k]? = some (k : Int) := by rw [List.getElem?_map, List.getElem?_range h]; rfl
set_option maxHeartbeats 8000000 in
theorem implFindBerth (vb : Value) (bs : List BerthD) (vf : Value) (fl : List ShipD) (v : Value) (l : List StayD) (ship fr tt : Int) (w : World) (rb : SlBerth w vb bs) (rf : SlShip w vf fl) (h : SlStay w v l) (fb : ∀ x ∈ bs, BerthD.wf x) (ff : ∀ x ∈ fl, ShipD.wf x) :
    Calls Try.prog 18 #[vb, vf, v, .int .i64 ship, .int .i64 fr, .int .i64 tt] w fun e w' => e = .returned (.int .i64 (findI bs fl l ship fr tt)) ∧ Below w.heap.size w w' := by
  have RB := Lib.hid rb
  have RF := Lib.hid rf
  have FB := Lib.hid fb
  have FF := Lib.hid ff
  have HS := Lib.hid h
  have hlb := rb.1
  obtain ⟨A0, c0, rfl⟩ := rb.at
  obtain ⟨A1, c1, rfl⟩ := rf.at
  obtain ⟨A2, c2, rfl⟩ := h.at
  clear h rb rf fb ff
  obtain ⟨nb, hnb⟩ : ∃ m, bs.length = m := ⟨_, rfl⟩
  have HNB := Lib.hid hnb
  obtain ⟨nf, hnf⟩ : ∃ m, fl.length = m := ⟨_, rfl⟩
  obtain ⟨m, hm⟩ : ∃ m, l.length = m := ⟨_, rfl⟩
  have HM := Lib.hid hm
  rw [hnb] at hlb RB
  rw [hnf] at RF
  rw [hm] at HS
  try rw [hnb]
  try rw [hnf]
  try rw [hm]
  obtain ⟨b1, hb1⟩ : ∃ t, staysB bs fl l = t := ⟨_, rfl⟩
  have H1 := Lib.hid hb1
  clear hb1 hnb hnf hm
  go_enter Try.func18, Try.ntmps18
  go_wp2_with fail
  refine (implStaysOk _ bs _ fl _ l _ RB.out RF.out HS.out FB.out FF.out).mono ?_
  rw [H1.out]
  rintro e w1 ⟨rfl, hb1⟩
  have B1 := Lib.hid hb1
  clear hb1
  cases b1 with
  | false =>
    have E := Lib.hid (show findI bs fl l ship fr tt = -1 from if_neg (by rw [H1.out]; simp))
    go_wp2
    go_ret
    exact ⟨ret_int E.out.symm, B1.out⟩
  | true =>
  have h12 : m ≤ 12 := by have := (staysB_all H1.out).2.2.1; have := HM.out; omega
  have E0 := Lib.hid (show findI bs fl l ship fr tt = firstI (fun b => staysB bs fl (l ++ [⟨ship, b, fr, tt⟩])) ((List.range nb).map (fun b : Nat => (b : Int))) by unfold findI; rw [if_pos H1.out, HNB.out])
  by_cases hm12 : m < 12
  rotate_left
  · have g12 : ((m : Int) == 12) = true := by simp; omega
    have E := Lib.hid (E0.out.trans (firstI_none (fun j hj y hy => staysB_full _ (by rw [HM.out]; exact hm12))))
    go_wp2
    go_ret
    exact ⟨ret_int E.out.symm, B1.out⟩
  have g12 : ((m : Int) == 12) = false := by simp; omega
  go_wp2
  go_loopw [26] (fun t wr => ∃ k : Nat, k ≤ nb ∧ t = .int .i64 (k : Int) ∧ Hid (NoOne (fun b => staysB bs fl (l ++ [⟨ship, b, fr, tt⟩])) ((List.range nb).map (fun b : Nat => (b : Int))) k) ∧ Hid (Below w.heap.size w wr)) (fun t _ => nb - (intOf t).toNat)
  case atStart => exact ⟨0, Nat.zero_le _, rfl, Lib.hid (NoOne.zero _ _), B1⟩
  case round =>
    obtain ⟨k, hk, rfl, hN, hb⟩ := hrel
    have hzs := hb.out.size
    by_cases hlt : k < nb
    rotate_left
    · obtain rfl : k = nb := by omega
      have E := Lib.hid (E0.out.trans (firstI_none (by rw [List.length_map, List.length_range]; exact hN.out)))
      go_wp2
      go_ret
      exact ⟨ret_int E.out.symm, hb.out⟩
    have HR := Lib.hid (rangeAt hlt)
    obtain ⟨t, ht⟩ : ∃ t, staysB bs fl (l ++ [⟨ship, (k : Int), fr, tt⟩]) = t := ⟨_, rfl⟩
    have HT := Lib.hid ht
    have HP := Lib.hid ((staysB_more (x := ⟨ship, (k : Int), fr, tt⟩) H1.out (by rw [HM.out]; exact hm12)).symm.trans ht)
    clear ht
    go_wp2_with fail
    refine (canStay_any _ bs _ fl _ l ⟨ship, (k : Int), fr, tt⟩ _ (RB.out.below hb.out) (RF.out.below hb.out) (HS.out.below hb.out) FB.out FF.out).mono ?_
    rw [HP.out]
    rintro e w3 ⟨rfl, hb3⟩
    have B3 := Lib.hid (hb.out.trans (hb3.mono hb.out.size))
    clear hb3
    cases t with
    | true =>
      have E := Lib.hid (E0.out.trans (firstI_at hN.out HR.out HT.out))
      go_wp2
      go_ret
      exact ⟨ret_int E.out.symm, B3.out⟩
    | false =>
      have N2 := Lib.hid (hN.out.next HR.out HT.out)
      go_wp2
      go_roundw
      case rel => exact ⟨k + 1, by omega, by go_num, N2, B3⟩
      case measure => simp [intOf]; omega
end Go.Proofs.Ytghjfcnboocmjaa
