
/- Lock chambers, the program's side: LeastLockings: contract. -/
import Derived.Test.YtphagahhhfiiaaaPackImpl
import Derived.Test.YtphagahhhfiiaaaLeastMath
namespace Go.Proofs.Ytphagahhhfiiaaa
open Go.RowKit
set_option maxRecDepth 100000

set_option maxHeartbeats 8000000 in
theorem implLeastLockings (k : ChamberD) (yl : Value) (l : List Int) (w : World) (rl : SlInt w yl l) :
    Calls Try.prog 19 #[k.val, yl] w fun e w' => e = .returned (.int .i64 (leastI k l)) ∧ Below w.heap.size w w' := by
  obtain ⟨W0, hW0⟩ : ∃ W0, W0 = (w.alloc (.cells #[.int .i64 k.length, .int .i64 k.lanes, .int .i64 k.minutes] 24)) := ⟨_, rfl⟩
  have B := Lib.hid (Joins.below_alloc1 w (.cells #[.int .i64 k.length, .int .i64 k.lanes, .int .i64 k.minutes] 24))
  have K := Lib.hid (Blk.new w #[.int .i64 k.length, .int .i64 k.lanes, .int .i64 k.minutes] 24)
  have HW0 := Lib.hid hW0
  rw [← hW0] at B K
  clear hW0
  have R := Lib.hid (SlOf.below rl B.out)
  obtain ⟨A1, c1, rfl⟩ := SlOf.form rl
  obtain ⟨b, hb⟩ : ∃ b, (chamB k && lensB l) = b := ⟨_, rfl⟩
  have HB := Lib.hid hb
  clear hb rl
  have c0 : W0.cell? ⟨w.heap.size, 0, none⟩ = some (.int .i64 k.length) := K.out.cell 0
  have c1' : W0.cell? ⟨w.heap.size, 1, none⟩ = some (.int .i64 k.lanes) := K.out.cell 1
  have c2 : W0.cell? ⟨w.heap.size, 2, none⟩ = some (.int .i64 k.minutes) := K.out.cell 2
  go_enter Try.func19, Try.ntmps19
  go_wp2_with fail
  rw [← HW0.out]
  clear c0 c1' c2
  refine (implCanPack k _ l _ R.out).mono ?_
  rw [HB.out]
  rintro e w1 ⟨rfl, hb⟩
  have B1 := Lib.hid (B.out.trans (hb.mono B.out.size))
  have K1 := Lib.hid (K.out.below hb)
  have R1 := Lib.hid (SlOf.below R.out hb)
  clear hb R B K
  cases b with
  | false =>
    have E := Lib.hid (show leastI k l = -1 by
      refine if_neg ?_
      rintro ⟨h1, h2, -⟩
      have := HB.out
      rw [h1, h2] at this
      cases this)
    go_wp2
    go_ret
    exact ⟨ret_int E.out.symm, B1.out⟩
  | true =>
    obtain ⟨h1, h2⟩ : chamB k = true ∧ lensB l = true := by have := HB.out; simpa using this
    have E0 := Lib.hid (show leastI k l = if leastN k l ≤ l.length then ((leastN k l : Nat) : Int) else -1 by unfold leastI; rw [h1, h2]; simp)
    obtain ⟨kl0, kl1, ka0, ka1, -, -⟩ := chamB_true h1
    obtain ⟨a, ha⟩ : ∃ a, k.lanes.toNat = a := ⟨_, rfl⟩
    have hka : k.lanes = (a : Int) := by omega
    have ha3 : a ≤ 3 := by omega
    have HKA := Lib.hid hka
    have HA := Lib.hid ha
    have h8 := lensB_len h2
    have H2 := Lib.hid h2
    obtain ⟨m, hm⟩ : ∃ m, l.length = m := ⟨_, rfl⟩
    have HM := Lib.hid hm
    rw [hm] at h8 R1
    try rw [hm]
    have hw1 : IntKind.i64.wrap ((m : Int) + 1) = ((m + 1 : Nat) : Int) := by rw [IntKind.wrap_i64]; omega
    clear h1 h2 hm ha hka
    go_wp2
    go_loopw [15] (fun t wr => ∃ n : Nat, n ≤ m + 1 ∧ t = .int .i64 (n : Int) ∧ Hid (leastN k l = longR (fun n => !lotsB k l n) n (m + 1 - n)) ∧ Hid (Below w1.heap.size w1 wr)) (fun t _ => m + 1 - (intOf t).toNat)
    case atStart => exact ⟨0, Nat.zero_le _, rfl, Lib.hid (by unfold leastN; rw [HM.out]; rfl), Lib.hid (Below.refl _ _)⟩
    case round =>
      obtain ⟨n, hn, rfl, hE, hb⟩ := hrel
      have Br := Lib.hid (B1.out.trans (hb.out.mono B1.out.size))
      by_cases hlt : n < m + 1
      rotate_left
      · obtain rfl : n = m + 1 := by omega
        have E := Lib.hid (show leastI k l = -1 by
          rw [E0.out]
          refine if_neg ?_
          rw [hE.out, Nat.sub_self, HM.out]
          show ¬ m + 1 ≤ m
          omega)
        go_wp2
        go_ret
        exact ⟨ret_int E.out.symm, Br.out⟩
      have hlti : (n : Int) < (m : Int) + 1 := by omega
      obtain ⟨mj, hmj⟩ : ∃ mj, m + 1 - n = mj + 1 := ⟨m - n, by omega⟩
      have E1 := Lib.hid (show leastN k l = longR (fun n => !lotsB k l n) n (mj + 1) by rw [hE.out, hmj])
      have HMJ := Lib.hid (show m + 1 - (n + 1) = mj by omega)
      have hna : n * a ≤ 24 := by have := Nat.mul_le_mul (show n ≤ 8 by omega) ha3; omega
      have hmul : IntKind.i64.wrap ((n : Int) * (a : Int)) = ((n * a : Nat) : Int) := by rw [← Int.natCast_mul, IntKind.wrap_i64]; omega
      have hd := (Below.refl wr.heap.size wr).drew
      have b1 := hb.out.trans (hd.mono hb.out.size)
      obtain ⟨w2, hw2⟩ : ∃ W, W = wr.drew := ⟨_, rfl⟩
      rw [← hw2] at b1 hd
      have HW2 := Lib.hid hw2
      have K2 := Lib.hid (K1.out.below b1)
      have RW := Lib.hid (SlOf.below R1.out b1)
      have HB1 := Lib.hid b1
      obtain ⟨t, ht⟩ : ∃ t, lotsB k l n = t := ⟨_, rfl⟩
      have HT := Lib.hid ht
      obtain ⟨q, hq⟩ : ∃ q, n * a = q := ⟨_, rfl⟩
      rw [hq] at hna hmul
      have C := backNew k.length (by omega) q hna l H2.out _ w2 RW.out
      have hte : (packR k.length q l (List.replicate q 0)).isSome = t := by rw [← ht, ← hq, ← HA.out]; rfl
      rw [hte] at C
      have HC := Lib.hid C
      have HMK := Lib.hid (make_lanes q (by omega))
      have HMUL := Lib.hid hmul
      clear hmj hd b1 hw2 ht hq C hte
      have e0 : wr.cell? ⟨w.heap.size, 0, none⟩ = some (.int .i64 k.length) := (K1.out.below hb.out).cell 0
      have C0 := Lib.hid (show w2.cell? ⟨w.heap.size, 0, none⟩ = some (.int .i64 k.length) from K2.out.cell 0)
      have e1 : wr.cell? ⟨w.heap.size, 1, none⟩ = some (.int .i64 k.lanes) := (K1.out.below hb.out).cell 1
      have C1 := Lib.hid (show w2.cell? ⟨w.heap.size, 1, none⟩ = some (.int .i64 k.lanes) from K2.out.cell 1)
      have e2 : wr.cell? ⟨w.heap.size, 2, none⟩ = some (.int .i64 k.minutes) := (K1.out.below hb.out).cell 2
      have C2 := Lib.hid (show w2.cell? ⟨w.heap.size, 2, none⟩ = some (.int .i64 k.minutes) from K2.out.cell 2)
      go_upto_region 6 with fail
      refine wp_region_held_drew (S := (fun w' => w'.cell? ⟨w.heap.size, 0, none⟩ = some (.int .i64 k.length) ∧ w'.cell? ⟨w.heap.size, 1, none⟩ = some (.int .i64 k.lanes) ∧ w'.cell? ⟨w.heap.size, 2, none⟩ = some (.int .i64 k.minutes))) (by kernel_rfl) ?_ (fun hHeld => ?_)
      · (try dsimp only); go_keep
      rw [← HW2.out] at hHeld ⊢
      clear e0 e1 e2
      refine wpAnyH_take (i := 0) (v := ?_) (by simp only [List.getElem?_toArray, List.getElem?_cons_zero]; rfl) (by kernel_rfl) (by kernel_rfl) (by kernel_rfl) (by exact fun _ _ _ h => h) (Or.inl ⟨by rfl, ?_⟩) (by assumption) ?_; rotate_left; focus (intro w hSw; (try dsimp only at hSw); first | (go_simp; done) | (go_simp; with_reducible rfl))
      (try simp only [Act.put]); (try simp only [List.setIfInBounds_toArray]); (try simp only [List.set_cons_succ]); (try simp only [List.set_cons_zero])
      refine wpAnyH_take (i := 1) (v := ?_) (by simp only [List.getElem?_toArray, List.getElem?_cons_succ, List.getElem?_cons_zero]; rfl) (by kernel_rfl) (by kernel_rfl) (by kernel_rfl) (by exact fun _ _ _ h => h) (Or.inl ⟨by rfl, ?_⟩) (by assumption) ?_; rotate_left; focus (intro w hSw; (try dsimp only at hSw); first | (go_simp; done) | (go_simp; with_reducible rfl))
      (try simp only [Act.put]); (try simp only [List.setIfInBounds_toArray]); (try simp only [List.set_cons_succ]); (try simp only [List.set_cons_zero])
      refine wpAnyH_take (i := 2) (v := ?_) (by simp only [List.getElem?_toArray, List.getElem?_cons_succ, List.getElem?_cons_zero]; rfl) (by kernel_rfl) (by kernel_rfl) (by kernel_rfl) (by exact fun _ _ _ h => h) (Or.inl ⟨by rfl, ?_⟩) (by assumption) ?_; rotate_left; focus (intro w hSw; (try dsimp only at hSw); first | (go_simp; done) | (go_simp; with_reducible rfl))
      (try simp only [Act.put]); (try simp only [List.setIfInBounds_toArray]); (try simp only [List.set_cons_succ]); (try simp only [List.set_cons_zero])
      refine wpAnyH_take (i := 3) (v := ?_) (by simp only [List.getElem?_toArray, List.getElem?_cons_succ, List.getElem?_cons_zero]; rfl) (by kernel_rfl) (by kernel_rfl) (by kernel_rfl) (by exact fun _ _ _ h => h) (Or.inl ⟨by rfl, ?_⟩) (by assumption) ?_; rotate_left; focus (intro w hSw; (try dsimp only at hSw); first | (go_simp; done) | (go_simp; with_reducible rfl))
      (try simp only [Act.put]); (try simp only [List.setIfInBounds_toArray]); (try simp only [List.set_cons_succ]); (try simp only [List.set_cons_zero])
      refine wpAnyH_take (i := 5) (v := ?_) (by simp only [List.getElem?_toArray, List.getElem?_cons_succ, List.getElem?_cons_zero]; rfl) (by kernel_rfl) (by kernel_rfl) (by kernel_rfl) (by exact fun _ _ _ h => h) (Or.inl ⟨by rfl, ?_⟩) (by assumption) ?_; rotate_left; focus (intro w hSw; (try dsimp only at hSw); first | (go_simp; done) | (go_simp; with_reducible rfl))
      (try simp only [Act.put]); (try simp only [List.setIfInBounds_toArray]); (try simp only [List.set_cons_succ]); (try simp only [List.set_cons_zero])
      refine wpAnyH_take (i := 6) (v := ?_) (by simp only [List.getElem?_toArray, List.getElem?_cons_succ, List.getElem?_cons_zero]; rfl) (by kernel_rfl) (by kernel_rfl) (by kernel_rfl) (by exact fun _ _ _ h => h) (Or.inl ⟨by rfl, ?_⟩) (by assumption) ?_; rotate_left; focus (intro w hSw; (try dsimp only at hSw); first | (go_simp; done) | (go_simp; with_reducible rfl))
      (try simp only [Act.put]); (try simp only [List.setIfInBounds_toArray]); (try simp only [List.set_cons_succ]); (try simp only [List.set_cons_zero])
      refine wpAnyH_take (i := 7) (v := ?_) (by simp only [List.getElem?_toArray, List.getElem?_cons_succ, List.getElem?_cons_zero]; rfl) (by kernel_rfl) (by kernel_rfl) (by kernel_rfl) (by exact fun _ _ _ h => h) (Or.inl ⟨by rfl, ?_⟩) (by assumption) ?_; rotate_left; focus (intro w hSw; (try dsimp only at hSw); first | (go_simp; done) | (go_simp; with_reducible rfl))
      (try simp only [Act.put]); (try simp only [List.setIfInBounds_toArray]); (try simp only [List.set_cons_succ]); (try simp only [List.set_cons_zero])
      have hmk := HMK.out
      have hmul := HMUL.out
      rw [← HKA.out] at hmul
      refine wpAnyH_ready (rs := [4]) (by kernel_rfl) (by simp) ?_
      refine AllReadyH.cons rfl (fun K hK => ?_) AllReadyH.nil
      rw [if_pos (by rfl)]
      go_simp
      try rw [hmul]
      go_simp
      clear hmk hmul
      have hal := Joins.below_alloc1 w2 (.cells (List.replicate q (Value.slice none 0 0)).toArray 62)
      refine hK.out _ _ ⟨cell_onV C0.out hal, cell_onV C1.out hal, cell_onV C2.out hal⟩ (fun hHeld => ?_)
      clear hK K hal
      (try simp only [Act.put]); (try simp only [List.setIfInBounds_toArray]); (try simp only [List.set_cons_succ]); (try simp only [List.set_cons_zero])
      refine wpAnyH_ready (rs := [8]) (by kernel_rfl) (by simp) ?_
      refine AllReadyH.cons rfl (fun K hK => ?_) AllReadyH.nil
      rw [if_pos (by rfl)]
      go_simp
      go_at_call 38
      refine HC.out.mono ?_
      rintro e w3 ⟨v, rfl, -, hb3⟩
      have HB3 := Lib.hid hb3
      clear hb3
      go_simp
      refine hK.out _ _ ⟨cell_onV C0.out HB3.out, cell_onV C1.out HB3.out, cell_onV C2.out HB3.out⟩ (fun hHeld => ?_)
      clear hK K
      (try simp only [Act.put]); (try simp only [List.setIfInBounds_toArray]); (try simp only [List.set_cons_succ]); (try simp only [List.set_cons_zero])
      refine wpAnyH_take (i := 9) (v := ?_) (by simp only [List.getElem?_toArray, List.getElem?_cons_succ, List.getElem?_cons_zero]; rfl) (by kernel_rfl) (by kernel_rfl) (by kernel_rfl) (by exact fun _ _ _ h => h) (Or.inl ⟨by rfl, ?_⟩) (by assumption) ?_; rotate_left; focus (intro w hSw; (try dsimp only at hSw); first | (go_simp; done) | (go_simp; with_reducible rfl))
      (try simp only [Act.put]); (try simp only [List.setIfInBounds_toArray]); (try simp only [List.set_cons_succ]); (try simp only [List.set_cons_zero])
      refine wpAnyH_take (i := 10) (v := ?_) (by simp only [List.getElem?_toArray, List.getElem?_cons_succ, List.getElem?_cons_zero]; rfl) (by kernel_rfl) (by kernel_rfl) (by kernel_rfl) (by exact fun _ _ _ h => h) (Or.inl ⟨by rfl, ?_⟩) (by assumption) ?_; rotate_left; focus (intro w hSw; (try dsimp only at hSw); first | (go_simp; done) | (go_simp; with_reducible rfl))
      (try simp only [Act.put]); (try simp only [List.setIfInBounds_toArray]); (try simp only [List.set_cons_succ]); (try simp only [List.set_cons_zero])
      refine wpAnyH_take (i := 11) (v := ?_) (by simp only [List.getElem?_toArray, List.getElem?_cons_succ, List.getElem?_cons_zero]; rfl) (by kernel_rfl) (by kernel_rfl) (by kernel_rfl) (by exact fun _ _ _ h => h) (Or.inl ⟨by rfl, ?_⟩) (by assumption) ?_; rotate_left; focus (intro w hSw; (try dsimp only at hSw); first | (go_simp; done) | (go_simp; with_reducible rfl))
      (try simp only [Act.put]); (try simp only [List.setIfInBounds_toArray]); (try simp only [List.set_cons_succ]); (try simp only [List.set_cons_zero])
      refine wpAnyH_take (i := 12) (v := ?_) (by simp only [List.getElem?_toArray, List.getElem?_cons_succ, List.getElem?_cons_zero]; rfl) (by kernel_rfl) (by kernel_rfl) (by kernel_rfl) (by exact fun _ _ _ h => h) (Or.inl ⟨by rfl, ?_⟩) (by assumption) ?_; rotate_left; focus (intro w hSw; (try dsimp only at hSw); first | (go_simp; done) | (go_simp; with_reducible rfl))
      (try simp only [Act.put]); (try simp only [List.setIfInBounds_toArray]); (try simp only [List.set_cons_succ]); (try simp only [List.set_cons_zero])
      refine wpAnyH_take (i := 13) (v := ?_) (by simp only [List.getElem?_toArray, List.getElem?_cons_succ, List.getElem?_cons_zero]; rfl) (by kernel_rfl) (by kernel_rfl) (by kernel_rfl) (by exact fun _ _ _ h => h) (Or.inl ⟨by rfl, ?_⟩) (by assumption) ?_; rotate_left; focus (intro w hSw; (try dsimp only at hSw); first | (go_simp; done) | (go_simp; with_reducible rfl))
      (try simp only [Act.put]); (try simp only [List.setIfInBounds_toArray]); (try simp only [List.set_cons_succ]); (try simp only [List.set_cons_zero])
      refine wpAnyH_done (by kernel_rfl) ?_ _
      have b3 := Lib.hid (HB1.out.trans (HB3.out.mono HB1.out.size))
      clear hHeld
      cases t with
      | true =>
        have E := Lib.hid (show leastI k l = (n : Int) by
          have e : leastN k l = n := by rw [E1.out]; exact longR_no (by rw [HT.out]; rfl)
          rw [E0.out, e, if_pos (by rw [HM.out]; omega)])
        go_wp2
        go_ret
        exact ⟨ret_int E.out.symm, B1.out.trans (b3.out.mono B1.out.size)⟩
      | false =>
        have EN := Lib.hid (show leastN k l = longR (fun n => !lotsB k l n) (n + 1) (m + 1 - (n + 1)) by rw [E1.out, HMJ.out]; exact longR_yes (by rw [HT.out]; rfl))
        go_wp2
        go_roundw
        case rel => exact ⟨n + 1, by omega, by go_num, EN, b3⟩
        case measure => simp [intOf]; omega
end Go.Proofs.Ytphagahhhfiiaaa
