
/- What LocksLaw rests on, part 21: contracts and mathematics. -/
import Derived.Test.YtlddampjbmklkaaLkTk
import Derived.Test.YtlddampjbmklkaaLk1
import Derived.Test.YtlddampjbmklkaaLk7
import Derived.Test.YtlddampjbmklkaaLk3
import Derived.Test.YtlddampjbmklkaaLk11
import Derived.Test.YtlddampjbmklkaaLk18
import Derived.Test.YtlddampjbmklkaaLk6
import Derived.Test.YtlddampjbmklkaaLk19
import Derived.Deep.RegionHeld3
import Derived.Deep.DeepCutAuto
namespace Go.Proofs.Ytlddampjbmklkaa
open Go.RowKit
set_option maxRecDepth 100000
theorem OwnLocks.grown {W w3 : World} {base p : Nat} {v : Value} {rs : List LockR} (h : OwnLocks W base v rs) (hg : W.grownBy w3 (some p)) (hp : p < base) : OwnLocks w3 base v rs :=
  ⟨own_kept h.1 hg (fun b hv e => by have := (own_ge h.1 hv).1; have := Option.some.inj e; omega), fun r hr => own_kept (h.2.1 r hr) hg (fun b hv e => by have := (own_ge (h.2.1 r hr) hv).1; have := Option.some.inj e; omega), h.2.2.1, h.2.2.2⟩
theorem append_valid {k : ChamberD} {fl : List ShipD} {l n : List LockD} {up : Bool} {ready : Int} {s : List Int} (h : appendO k fl l up ready s = some n) : lockPlanB k fl n = true := by
  unfold appendO at h
  split at h
  · rename_i hh
    injection h with h
    subst h
    exact hh.2.2
  · cases h
/-- What holds at each round of l11Draw. -/
structure LkDraw (w : World) (p b5 : Nat) (d : ChamberD) (v : Value) (fl : List ShipD) (q : Value) (rs : List LockR) (wr : World) : Prop where
  cur : Cursor wr p
  gr : w.grownBy wr (some p)
  hp : p < w.heap.size
  hb : w.heap.size < b5
  res : Blk wr w.heap.size #[.int .i64 0, .int .i64 0, .int .i64 0] 24
  box : Blk wr b5 #[.int .i64 d.length, .int .i64 d.lanes, .int .i64 d.minutes] 24
  fleet : OwnShip wr (w.heap.size + 1) v fl
  plan : OwnLocks wr (w.heap.size + 1) q rs
section
variable {w wr w3 : World} {p b5 : Nat} {d : ChamberD} {v q : Value} {fl : List ShipD} {rs : List LockR}
theorem LkDraw.step (h : LkDraw w p b5 d v fl q rs wr) (hg : wr.grownBy w3 (some p)) (hc : Cursor w3 p) : LkDraw w p b5 d v fl q rs w3 := by
  obtain ⟨h1, h2, h3, h4, h5, h6, h7, h8⟩ := h
  exact ⟨hc, grown_trans h2 hg, h3, h4, h5.grown hg (by simp; omega), h6.grown hg (by simp; omega), own_kept h7 hg (fun b hv e => by have := (own_ge h7 hv).1; have := Option.some.inj e; omega), h8.grown hg (by omega)⟩
theorem LkDraw.below (h : LkDraw w p b5 d v fl q rs wr) (hb : Below wr.heap.size wr w3) : LkDraw w p b5 d v fl q rs w3 := by
  obtain ⟨h1, h2, h3, h4, h5, h6, h7, h8⟩ := h
  exact ⟨h1.below hb, grown_trans h2 (grown_of_below hb _), h3, h4, h5.below hb, h6.below hb, own_below h7 hb, h8.below hb⟩
theorem LkDraw.took {q' : Value} {rs' : List LockR} {base : Nat} (h : LkDraw w p b5 d v fl q rs wr) (ho : OwnLocks wr base q' rs') (hb : w.heap.size + 1 ≤ base) : LkDraw w p b5 d v fl q' rs' wr := ⟨h.cur, h.gr, h.hp, h.hb, h.res, h.box, h.fleet, ho.lo hb⟩
theorem LkDraw.size (h : LkDraw w p b5 d v fl q rs wr) : w.heap.size + 1 ≤ wr.heap.size := h.res.lt
end
/-- What l11Draw leaves. -/
def DrawsLock (p : Nat) (w : World) (e : Ending) (w' : World) : Prop := ∃ (d : ChamberD) (v : Value) (fl : List ShipD) (q : Value) (rs : List LockR), e = .returned (.tuple #[d.val, v, q]) ∧ chamGood d ∧ FleetDrawn fl ∧ 1 ≤ fl.length ∧ fl.length ≤ 4 ∧ Cursor w' p ∧ w.grownBy w' (some p) ∧ OwnShip w' w.heap.size v fl ∧ OwnLocks w' w.heap.size q rs ∧ lockPlanB d fl (rs.map LockR.d) = true ∧ (rs.length : Int) + bulkLock rs ≤ 9
theorem cham_good {d : ChamberD} (hd : chamGood d) : chamB d = true := by
  obtain ⟨a1, a2, a3, a4, a5, a6⟩ := hd
  unfold chamB
  rw [inB_mk (by omega) (by omega), inB_mk (by omega) (by omega), inB_mk (by omega) (by omega)]
  rfl
set_option maxHeartbeats 16000000 in
theorem l11Draw_any (p : Nat) (w : World) (hcur : Cursor w p) : Calls Try.prog 38 #[.pointer (some ⟨p, 0, none⟩)] w (DrawsLock p w) := by
  have hp := hcur.lt
  have hb0 := Joins.below_alloc1 w (.cells #[.int .i64 0, .int .i64 0, .int .i64 0] 24)
  have K0 := Blk.new w #[.int .i64 0, .int .i64 0, .int .i64 0] 24
  obtain ⟨W0, hW0⟩ : ∃ W, W = w.alloc (.cells #[.int .i64 0, .int .i64 0, .int .i64 0] 24) := ⟨_, rfl⟩
  rw [← hW0] at hb0 K0
  have HW0 := Lib.hid hW0
  have CH := Lib.hid (l10Chamber_any p W0 (hcur.below hb0))
  have G0 := Lib.hid (grown_of_below hb0 (some p))
  have HK0 := Lib.hid K0
  clear hb0 K0 hW0 hcur
  go_enter Try.func38, Try.ntmps38
  go_upto_region 1 with fail
  rw [← HW0.out]
  go_wp2_with fail
  refine CH.out.mono ?_
  rintro e w1 ⟨d, rfl, hd, hc1, hg1⟩
  have HD := Lib.hid hd
  have hp1 := hc1.lt
  have hal := Joins.below_alloc1 w1 (.cells #[.int .i64 d.length, .int .i64 d.lanes, .int .i64 d.minutes] 24)
  have KD := Blk.new w1 #[.int .i64 d.length, .int .i64 d.lanes, .int .i64 d.minutes] 24
  obtain ⟨W2, hW2⟩ : ∃ W, W = w1.alloc (.cells #[.int .i64 d.length, .int .i64 d.lanes, .int .i64 d.minutes] 24) := ⟨_, rfl⟩
  rw [← hW2] at hal KD
  have HW2 := Lib.hid hW2
  have G2 := Lib.hid (grown_trans (grown_trans G0.out hg1) (grown_of_below hal _))
  have K02 := HK0.out.grown hg1 (by simp; omega)
  have hwb : w.heap.size < w1.heap.size := K02.lt
  have HK2 := Lib.hid (K02.below hal)
  have FL := Lib.hid (show Calls Try.prog 67 #[.pointer (some ⟨p, 0, none⟩), .int .i64 4] W2 (DrawsFleetN 4 p W2) from l06FleetN_any 4 p W2 (hc1.below hal) (by omega) (by omega))
  have HKD := Lib.hid KD
  clear hd hc1 hg1 hal KD hW2 K02 CH
  go_upto_region 2 with fail
  rw [← HW2.out]
  go_wp2_with fail
  refine FL.out.mono ?_
  rintro e w3 ⟨Af, cf, fl, rfl, hf1, hf4, hF1, hF2, hF3, hF4, hF5⟩
  have HFD := Lib.hid (show FleetDrawn fl from ⟨by omega, hF4⟩)
  have ha4 := Joins.below_alloc1 w3 (.cells #[] 38)
  have OG := (GathL.made (Below.refl w3.heap.size w3)).own
  have hz3 : w1.heap.size + 1 ≤ w3.heap.size := by have := hF2.size; rw [HW2.out] at this; simpa using this
  have ST0 := Lib.hid (show LkDraw w p w1.heap.size d (.slice Af fl.length cf) fl (.slice (some ⟨w3.heap.size, 0, none⟩) 0 0) [] (w3.alloc (.cells #[] 38)) from
    ⟨hF1.below ha4, grown_trans (grown_trans G2.out hF2) (grown_of_below ha4 _), hp, hwb, (HK2.out.grown hF2 (by simp; omega)).below ha4, (HKD.out.grown hF2 (by simp; omega)).below ha4, own_below (own_lo hF3 (by rw [HW2.out]; simp; omega)) ha4, OG.lo (by omega)⟩)
  obtain ⟨nf, hnf⟩ : ∃ n, fl.length = n := ⟨_, rfl⟩
  have HNF := Lib.hid hnf
  rw [hnf] at ST0 hf1 hf4 ⊢
  have HV := Lib.hid (lockPlanB_nil (cham_good HD.out) (drawn_fleet HFD.out))
  clear hF1 hF2 hF3 hF4 hF5 ha4 OG hnf FL
  go_upto_region 4 with fail
  go_wp2_with fail
  refine (l01Below_any p 4 _ (by omega) (by omega) ST0.out.cur).mono ?_
  rintro e w5 ⟨n, rfl, n0, n1, hc5, hg5⟩
  have ST1 := Lib.hid (ST0.out.step hg5 hc5)
  clear hc5 hg5 ST0
  go_wp2
  go_loopw [7, 8] (fun q t wr => ∃ (r : Nat) (rs : List LockR), r ≤ 3 ∧ t = .int .i64 (r : Int) ∧ Hid (lockPlanB d fl (rs.map LockR.d) = true) ∧ Hid ((rs.length : Int) + bulkLock rs + 3 * (r : Int) ≤ 9) ∧ Hid (LkDraw w p w1.heap.size d (.slice Af nf cf) fl q rs wr)) (fun _ t _ => (intOf t).toNat)
  case atStart => exact ⟨n.toNat, [], by omega, by congr 1; omega, HV, Lib.hid (by simp [bulkLock]; omega), ST1⟩
  case round =>
    obtain ⟨r, rs, hr3, rfl, hV, hN, hD⟩ := hrel
    obtain ⟨Qa, Qc, rfl⟩ := own_form hD.out.plan.1
    by_cases hr : 0 < r
    rotate_left
    · obtain rfl : r = 0 := by omega
      have k0 := hD.out.res.cell 0
      have k1 := hD.out.res.cell 1
      have k2 := hD.out.res.cell 2
      have d0 := hD.out.box.cell 0
      have d1 := hD.out.box.cell 1
      have d2 := hD.out.box.cell 2
      simp at k0 k1 k2 d0 d1 d2
      have f0 : wr.frozen? ⟨w.heap.size, 0, none⟩ = false := hD.out.res.free 0
      have f1 : wr.frozen? ⟨w.heap.size, 1, none⟩ = false := hD.out.res.free 1
      have f2 : wr.frozen? ⟨w.heap.size, 2, none⟩ = false := hD.out.res.free 2
      have HD2 := Lib.hid hD.out
      obtain ⟨m, hm⟩ : ∃ m, rs.length = m := ⟨_, rfl⟩
      have HM := Lib.hid hm
      rw [hm] at HD2 ⊢
      clear hm
      go_wp2
      refine bodyPost_ret (v := .tuple #[d.val, .slice Af nf cf, .slice Qa m Qc]) (by simp [results, Try.results38, go_sem, *]) rfl ⟨d, _, fl, _, rs, rfl, HD.out, HFD.out, by rw [HNF.out]; exact hf1, by rw [HNF.out]; exact hf4, ?_, ?_, ?_, ?_, hV.out, by have := hN.out; omega⟩
      · exact ((HD2.out.cur.set hp _ _).set hp _ _).set hp _ _
      · exact grown_setNew (grown_setNew (grown_setNew HD2.out.gr (Nat.le_refl _) _) (Nat.le_refl _) _) (Nat.le_refl _) _
      · have far : ∀ b, (Value.slice Af nf cf).ownBlock = some b → b ≠ w.heap.size := fun b hv e => by have := (own_ge HD2.out.fleet hv).1; omega
        exact own_lo (own_kept (own_kept (own_kept HD2.out.fleet (grown_set1 _ _ _ _) (fun b hv e => far b hv (Option.some.inj e).symm)) (grown_set1 _ _ _ _) (fun b hv e => far b hv (Option.some.inj e).symm)) (grown_set1 _ _ _ _) (fun b hv e => far b hv (Option.some.inj e).symm)) (Nat.le_succ _)
      · exact (((HD2.out.plan.set (Nat.lt_succ_self _) _ _).set (Nat.lt_succ_self _) _ _).set (Nat.lt_succ_self _) _ _).lo (Nat.le_succ _)
    have hri : (0 : Int) < (r : Int) := by omega
    have hd := (Below.refl wr.heap.size wr).drew
    obtain ⟨y2, hy2⟩ : ∃ X, X = wr.drew := ⟨_, rfl⟩
    rw [← hy2] at hd
    have HY2 := Lib.hid hy2
    have D2 := Lib.hid (hD.out.below hd)
    have HN9 := Lib.hid (show (rs.length : Int) + bulkLock rs ≤ 6 by have := hN.out; omega)
    have e10 : wr.cell? ⟨w1.heap.size, 0, none⟩ = some (.int .i64 d.length) := hD.out.box.cell 0
    have e11 : wr.cell? ⟨w1.heap.size, 1, none⟩ = some (.int .i64 d.lanes) := hD.out.box.cell 1
    have e12 : wr.cell? ⟨w1.heap.size, 2, none⟩ = some (.int .i64 d.minutes) := hD.out.box.cell 2
    obtain ⟨m, hm⟩ : ∃ m, rs.length = m := ⟨_, rfl⟩
    have HM := Lib.hid hm
    rw [hm] at D2
    try rw [hm]
    clear hd hy2 hD hm
    go_upto_region 7 with fail
    refine wp_region_held_drew (S := (fun w' => w'.cell? ⟨w1.heap.size, 0, none⟩ = some (.int .i64 d.length) ∧ w'.cell? ⟨w1.heap.size, 1, none⟩ = some (.int .i64 d.lanes) ∧ w'.cell? ⟨w1.heap.size, 2, none⟩ = some (.int .i64 d.minutes))) (by kernel_rfl) ?_ (fun hHeld => ?_)
    · (try dsimp only); go_keep
    rw [← HY2.out] at hHeld ⊢
    clear e10 e11 e12
    refine tk 0 ?_
    (try simp only [Act.put]); (try simp only [List.setIfInBounds_toArray]); (try simp only [List.set_cons_succ]); (try simp only [List.set_cons_zero])
    refine tk 1 ?_
    (try simp only [Act.put]); (try simp only [List.setIfInBounds_toArray]); (try simp only [List.set_cons_succ]); (try simp only [List.set_cons_zero])
    refine tk 2 ?_
    (try simp only [Act.put]); (try simp only [List.setIfInBounds_toArray]); (try simp only [List.set_cons_succ]); (try simp only [List.set_cons_zero])
    refine tk 3 ?_
    (try simp only [Act.put]); (try simp only [List.setIfInBounds_toArray]); (try simp only [List.set_cons_succ]); (try simp only [List.set_cons_zero])
    refine tk 5 ?_
    (try simp only [Act.put]); (try simp only [List.setIfInBounds_toArray]); (try simp only [List.set_cons_succ]); (try simp only [List.set_cons_zero])
    refine tk 7 ?_
    (try simp only [Act.put]); (try simp only [List.setIfInBounds_toArray]); (try simp only [List.set_cons_succ]); (try simp only [List.set_cons_zero])
    refine tk 8 ?_
    (try simp only [Act.put]); (try simp only [List.setIfInBounds_toArray]); (try simp only [List.set_cons_succ]); (try simp only [List.set_cons_zero])
    refine tk 9 ?_
    (try simp only [Act.put]); (try simp only [List.setIfInBounds_toArray]); (try simp only [List.set_cons_succ]); (try simp only [List.set_cons_zero])
    refine wpAnyH_ready (rs := [4]) (by kernel_rfl) (by simp) ?_
    refine AllReadyH.cons rfl (fun K hK => ?_) AllReadyH.nil
    rw [if_pos (by rfl)]
    go_simp
    go_at_call 69
    refine (l01Once_any p 2 _ (by omega) (by omega) D2.out.cur).mono ?_
    rintro e y3 ⟨bu, rfl, hc, hg⟩
    have D3 := Lib.hid (D2.out.step hg hc)
    clear hc hg
    go_simp
    refine hK.out _ _ ⟨D3.out.box.cell 0, D3.out.box.cell 1, D3.out.box.cell 2⟩ (fun hHeld => ?_)
    clear hK K
    (try simp only [Act.put]); (try simp only [List.setIfInBounds_toArray]); (try simp only [List.set_cons_succ]); (try simp only [List.set_cons_zero])
    refine wpAnyH_ready (rs := [6]) (by kernel_rfl) (by simp) ?_
    refine AllReadyH.cons rfl (fun K hK => ?_) AllReadyH.nil
    rw [if_pos (by rfl)]
    go_simp
    go_at_call 68
    refine (l01Below_any p 300 _ (by omega) (by omega) D3.out.cur).mono ?_
    rintro e y4 ⟨rd, rfl, rd0, rd1, hc, hg⟩
    have D4 := Lib.hid (D3.out.step hg hc)
    clear hc hg
    go_simp
    refine hK.out _ _ ⟨D4.out.box.cell 0, D4.out.box.cell 1, D4.out.box.cell 2⟩ (fun hHeld => ?_)
    clear hK K
    (try simp only [Act.put]); (try simp only [List.setIfInBounds_toArray]); (try simp only [List.set_cons_succ]); (try simp only [List.set_cons_zero])
    refine wpAnyH_ready (rs := [10]) (by kernel_rfl) (by simp) ?_
    refine AllReadyH.cons rfl (fun K hK => ?_) AllReadyH.nil
    rw [if_pos (by rfl)]
    go_simp
    go_at_call 68
    refine (l01Below_any p (nf : Int) _ (by omega) (by omega) D4.out.cur).mono ?_
    rintro e y5 ⟨z, rfl, z0, z1, hc, hg⟩
    have D5 := Lib.hid (D4.out.step hg hc)
    clear hc hg
    go_simp
    refine hK.out _ _ ⟨D5.out.box.cell 0, D5.out.box.cell 1, D5.out.box.cell 2⟩ (fun hHeld => ?_)
    clear hK K
    (try simp only [Act.put]); (try simp only [List.setIfInBounds_toArray]); (try simp only [List.set_cons_succ]); (try simp only [List.set_cons_zero])
    refine wpAnyH_ready (rs := [11]) (by kernel_rfl) (by simp) ?_
    refine AllReadyH.cons rfl (fun K hK => ?_) AllReadyH.nil
    rw [if_pos (by rfl)]
    go_simp
    have hal := Joins.below_alloc1 y5 (.cells #[.int .i64 z] 3)
    have L1 := (Liv.build (Liv.nil y5) 0 [z] (by simp)).own _ List.mem_cons_self
    have SZ := Lib.hid (show SlInt (y5.alloc (.cells #[.int .i64 z] 3)) (.slice (some ⟨y5.heap.size, 0, none⟩) 1 1) [z] from OwnInt.sl L1 (by simp))
    have D6 := Lib.hid (D5.out.below hal)
    clear hal L1
    refine hK.out _ _ ⟨D6.out.box.cell 0, D6.out.box.cell 1, D6.out.box.cell 2⟩ (fun hHeld => ?_)
    clear hK K
    (try simp only [Act.put]); (try simp only [List.setIfInBounds_toArray]); (try simp only [List.set_cons_succ]); (try simp only [List.set_cons_zero])
    refine wpAnyH_ready (rs := [12]) (by kernel_rfl) (by simp) ?_
    refine AllReadyH.cons rfl (fun K hK => ?_) AllReadyH.nil
    rw [if_pos (by rfl)]
    go_simp
    have SA := Lib.hid (specAppendLocking d _ fl _ rs bu rd _ [z] (y5.alloc (.cells #[.int .i64 z] 3)) (show SlShip _ (.slice Af nf cf) fl from own_sl shipLen D6.out.fleet (by rw [HNF.out]; omega)) (show RdLocks _ (.slice Qa m Qc) rs from (OwnLocks.parts D6.out.plan (by have := HN9.out; omega)).2.1) SZ.out (drawn_wf HFD.out) (by have := HN9.out; omega) (by simp))
    have hal2 := appendO_len d fl (rs.map LockR.d) bu rd [z]
    rw [bulkD_map, List.length_map] at hal2
    obtain ⟨ol, hol⟩ : ∃ x, appendO d fl (rs.map LockR.d) bu rd [z] = x := ⟨_, rfl⟩
    rw [hol] at SA hal2
    have HOL := Lib.hid hol
    have HAL := Lib.hid hal2
    clear hol hal2
    go_at_call 33
    refine SA.out.mono ?_
    rintro e y8 ⟨v8, rs8, rfl, ho8, hd8, hb8⟩
    have D8 := Lib.hid (D6.out.below hb8)
    have HS8 := Lib.hid hd8
    have HO8 := Lib.hid ho8
    obtain ⟨b8, hb8'⟩ : ∃ b, ol.isSome = b := ⟨_, rfl⟩
    have HB8 := Lib.hid hb8'
    rw [hb8']
    obtain ⟨Q8, c8, rfl⟩ := own_form ho8.1
    clear ho8 hd8 hb8 hb8' SA
    go_simp
    refine hK.out _ _ ⟨D8.out.box.cell 0, D8.out.box.cell 1, D8.out.box.cell 2⟩ (fun hHeld => ?_)
    clear hK K
    (try simp only [Act.put]); (try simp only [List.setIfInBounds_toArray]); (try simp only [List.set_cons_succ]); (try simp only [List.set_cons_zero])
    refine tk 13 ?_
    (try simp only [Act.put]); (try simp only [List.setIfInBounds_toArray]); (try simp only [List.set_cons_succ]); (try simp only [List.set_cons_zero])
    refine tk 14 ?_
    (try simp only [Act.put]); (try simp only [List.setIfInBounds_toArray]); (try simp only [List.set_cons_succ]); (try simp only [List.set_cons_zero])
    refine tk 15 ?_
    (try simp only [Act.put]); (try simp only [List.setIfInBounds_toArray]); (try simp only [List.set_cons_succ]); (try simp only [List.set_cons_zero])
    refine tk 16 ?_
    (try simp only [Act.put]); (try simp only [List.setIfInBounds_toArray]); (try simp only [List.set_cons_succ]); (try simp only [List.set_cons_zero])
    refine tk 17 ?_
    (try simp only [Act.put]); (try simp only [List.setIfInBounds_toArray]); (try simp only [List.set_cons_succ]); (try simp only [List.set_cons_zero])
    refine wpAnyH_done (by kernel_rfl) ?_ _
    clear hHeld
    cases b8 with
    | false =>
      have HN2 := Lib.hid (show (rs.length : Int) + bulkLock rs + 3 * ((r - 1 : Nat) : Int) ≤ 9 by have := hN.out; omega)
      go_wp2
      go_roundw
      case rel => exact ⟨r - 1, rs, by omega, by go_num, hV, HN2, D8⟩
      case measure => simp [intOf]; omega
    | true =>
      obtain ⟨n8, hn8⟩ := Option.isSome_iff_exists.1 HB8.out
      have e8 : rs8.map LockR.d = n8 := by have := HS8.out; rw [hn8] at this; exact this
      have HV8 := Lib.hid (show lockPlanB d fl (rs8.map LockR.d) = true by rw [e8]; exact append_valid (HOL.out.trans hn8))
      have HN8 := Lib.hid (show (rs8.length : Int) + bulkLock rs8 + 3 * ((r - 1 : Nat) : Int) ≤ 9 by
        have h1 := HAL.out
        rw [hn8] at h1
        have h1 : (n8.length : Int) + bulkD n8 ≤ rs.length + bulkLock rs + ([z] : List Int).length + 2 := h1
        rw [← e8, bulkD_map, List.length_map] at h1
        have := hN.out
        simp at h1
        omega)
      have D9 := Lib.hid (D8.out.took HO8.out (by have := D6.out.size; exact this))
      clear e8 hn8
      go_wp2
      go_roundw
      case rel => exact ⟨r - 1, rs8, by omega, by go_num, HV8, HN8, D9⟩
      case measure => simp [intOf]; omega
/-- What MakeLock leaves. -/
def MadeLock (w : World) (e : Ending) (w' : World) : Prop := ∃ (d : ChamberD) (v : Value) (fl : List ShipD) (q : Value) (rs : List LockR), e = .returned (.tuple #[d.val, v, q]) ∧ chamGood d ∧ FleetDrawn fl ∧ 1 ≤ fl.length ∧ fl.length ≤ 4 ∧ OwnShip w' w.heap.size v fl ∧ OwnLocks w' w.heap.size q rs ∧ lockPlanB d fl (rs.map LockR.d) = true ∧ (rs.length : Int) + bulkLock rs ≤ 9 ∧ Below w.heap.size w w'
set_option maxHeartbeats 4000000 in
theorem makeLock_any (A : Option Addr) (n c : Nat) (w : World) (hcode : CodeAt w A n) : Calls Try.prog 10 #[.slice A n c] w (MadeLock w) := by
  have hb0 := Joins.below_alloc1 w (.cells #[.int .i64 0, .int .i64 0, .int .i64 0] 24)
  have K0 := Blk.new w #[.int .i64 0, .int .i64 0, .int .i64 0] 24
  obtain ⟨W0, hW0⟩ : ∃ W, W = w.alloc (.cells #[.int .i64 0, .int .i64 0, .int .i64 0] 24) := ⟨_, rfl⟩
  rw [← hW0] at hb0 K0
  have HW0 := Lib.hid hW0
  have HK0 := Lib.hid K0
  have B0 := Lib.hid hb0
  have hs0 := K0.lt
  have CN := Lib.hid (l01New_any A n c W0 (hcode.below hb0))
  clear hcode hb0 K0 hW0
  go_enter Try.func10, Try.ntmps10
  go_upto_region 1 with fail
  rw [← HW0.out]
  go_wp2_with fail
  refine CN.out.mono ?_
  rintro e w1 ⟨p, rfl, hp, hcur, hb1⟩
  have B1 := Lib.hid (B0.out.trans (hb1.mono B0.out.size))
  have HK1 := Lib.hid (HK0.out.below hb1)
  have CH := Lib.hid (l11Draw_any p w1 hcur)
  have hz1 := hb1.size
  clear hb1 hcur CN
  go_wp2_with fail
  refine CH.out.mono ?_
  rintro e w2 ⟨d, v, fl, q, rs, rfl, hd, hfd, hf1, hf4, -, hg2, hof, hoq, hv, hn⟩
  have B2 := Lib.hid (B1.out.grown hg2 B1.out.size (fun j e => by have := Option.some.inj e; omega))
  have K2 := HK1.out.grown hg2 (by simp; omega)
  have k0 := K2.cell 0
  have k1 := K2.cell 1
  have k2 := K2.cell 2
  simp at k0 k1 k2
  have f0 : w2.frozen? ⟨w.heap.size, 0, none⟩ = false := K2.free 0
  have f1 : w2.frozen? ⟨w.heap.size, 1, none⟩ = false := K2.free 1
  have f2 : w2.frozen? ⟨w.heap.size, 2, none⟩ = false := K2.free 2
  have HD := Lib.hid hd
  have HFD := Lib.hid hfd
  have HOF := Lib.hid hof
  have HOQ := Lib.hid hoq
  have HV := Lib.hid hv
  have HN := Lib.hid hn
  obtain ⟨Af, cf, rfl⟩ := own_form hof
  obtain ⟨Aq, cq, rfl⟩ := own_form hoq.1
  obtain ⟨nf, hnf⟩ : ∃ n, fl.length = n := ⟨_, rfl⟩
  obtain ⟨nq, hnq⟩ : ∃ n, rs.length = n := ⟨_, rfl⟩
  rw [hnf] at HOF hf1 hf4 ⊢
  rw [hnq] at HOQ HN ⊢
  have HNF := Lib.hid hnf
  have HNQ := Lib.hid hnq
  clear hd hfd hof hoq hv hn hg2 K2 CH hnf hnq
  go_wp2
  refine bodyPost_ret (v := .tuple #[d.val, .slice Af nf cf, .slice Aq nq cq]) (by simp [results, Try.results10, go_sem, *]) rfl ⟨d, _, fl, _, rs, rfl, HD.out, HFD.out, by rw [HNF.out]; exact hf1, by rw [HNF.out]; exact hf4, ?_, ?_, HV.out, by rw [HNQ.out]; exact HN.out, ?_⟩
  · have far : ∀ b, (Value.slice Af nf cf).ownBlock = some b → b ≠ w.heap.size := fun b hv e => by have := (own_ge HOF.out hv).1; omega
    exact own_lo (own_kept (own_kept (own_kept HOF.out (grown_set1 _ _ _ _) (fun b hv e => far b hv (Option.some.inj e).symm)) (grown_set1 _ _ _ _) (fun b hv e => far b hv (Option.some.inj e).symm)) (grown_set1 _ _ _ _) (fun b hv e => far b hv (Option.some.inj e).symm)) (by omega)
  · exact (((HOQ.out.set (by omega) _ _).set (by omega) _ _).set (by omega) _ _).lo (by omega)
  · exact ((B2.out.setCell (Nat.le_refl _) _).setCell (Nat.le_refl _) _).setCell (Nat.le_refl _) _
end Go.Proofs.Ytlddampjbmklkaa
