
/- Lock chambers, the model's side: LeastLockings: contract. -/
import Derived.Test.YtphagahhhfiiaaaPrefSpec
import Derived.Test.YtphagahhhfiiaaaLeastDp
import Derived.Test.YtphagahhhfiiaaaSomeSpec
namespace Go.Proofs.Ytphagahhhfiiaaa
open Go.RowKit
set_option maxRecDepth 100000

theorem info_bool : (Try.prog.info? 4).map (fun i => (i.zero, i.size, i.bytes)) = some (some (.bool false), 1, 1) := by kernel_rfl
@[reducible] def rowB (bs : List Bool) : Array Value := (bs.map Value.bool).toArray
theorem rowB_at {bs : List Bool} {j : Nat} (h : j < bs.length) : (rowB bs)[j]? = some (.bool (bs.getD j false)) := by simp [rowB, List.getD, h]
theorem rowB_set (bs : List Bool) (j : Nat) (x : Bool) : (rowB bs).setIfInBounds j (.bool x) = rowB (bs.set j x) := by simp [rowB, List.map_set]
theorem made_falses (n : Nat) : madeCells #[Value.bool false] (n * 1) = rowB (List.replicate n false) := by
  apply Array.ext'
  have h := made_flat #[Value.bool false] n
  simp at h ⊢
  simpa using h
theorem made_zeros (n : Nat) : madeCells #[Value.int .i64 0] (n * 1) = rowI (List.replicate n 0) := by
  apply Array.ext'
  have h := made_flat #[Value.int .i64 0] n
  simp at h ⊢
  simpa using h
theorem make_rowB (n : Nat) (hn : n ≤ 1000000000) (W : World) :
    (Instr.makeSlice 67 (.int .i64 (n : Int)) (.int .i64 (n : Int))).run Try.prog W = .ok (.slice (some ⟨W.heap.size, 0, none⟩) n n) (W.alloc (.cells (rowB (List.replicate n false)) 4)) := by
  obtain ⟨i0, hi, hz0, hz1, hz2⟩ := info_parts info_bool
  have hr := run_make (P := Try.prog) W 67 4 i0 _ Try.underlying67 hi hz0 .i64 .i64 n n (by omega) (Int.le_refl _) (by rw [hz2]; omega) (by omega)
  simp only [Int.toNat_natCast, hz1] at hr
  rw [← made_falses]
  exact hr
theorem make_rowI (n : Nat) (hn : n ≤ 1000000000) (W : World) :
    (Instr.makeSlice 25 (.int .i64 (n : Int)) (.int .i64 (n : Int))).run Try.prog W = .ok (.slice (some ⟨W.heap.size, 0, none⟩) n n) (W.alloc (.cells (rowI (List.replicate n 0)) 3)) := by
  have := make_ints n hn W
  rw [made_zeros] at this
  exact this


set_option maxHeartbeats 16000000 in
theorem specLeastLockings (k : ChamberD) (yl : Value) (l : List Int) (w : World) (rl : SlInt w yl l) :
    Calls Try.prog 32 #[k.val, yl] w (fun e w' => e = .returned (.int .i64 (leastI k l)) ∧ Below w.heap.size w w') := by
  have Rl := Lib.hid rl
  obtain ⟨Al, cl, rfl⟩ := SlOf.form rl
  clear rl
  obtain ⟨W0, hW0⟩ : ∃ W0, W0 = (w.alloc (.cells #[.int .i64 k.length, .int .i64 k.lanes, .int .i64 k.minutes] 24)) := ⟨_, rfl⟩
  have B := Lib.hid (Joins.below_alloc1 w (.cells #[.int .i64 k.length, .int .i64 k.lanes, .int .i64 k.minutes] 24))
  have Kk := Lib.hid (Blk.new w #[.int .i64 k.length, .int .i64 k.lanes, .int .i64 k.minutes] 24)
  have HW0 := Lib.hid hW0
  rw [← hW0] at B Kk
  clear hW0
  obtain ⟨b, hb⟩ : ∃ b, fitsB k l = b := ⟨_, rfl⟩
  have Hb := Lib.hid hb
  clear hb
  have CF := Lib.hid (fun (v : Value) (w : World) (h : SlInt w v l) => specFits k v l w h)
  have CF := Lib.hid (fun (v : Value) (w : World) (h : SlInt w v l) => by have := CF.out v w h; rw [Hb.out] at this; exact this)
  go_enter Try.func32, Try.ntmps32
  have vk0 : W0.cell? ⟨w.heap.size, 0, none⟩ = some (.int .i64 k.length) := Kk.out.cell 0
  have vk1 : W0.cell? ⟨w.heap.size, 1, none⟩ = some (.int .i64 k.lanes) := Kk.out.cell 1
  have vk2 : W0.cell? ⟨w.heap.size, 2, none⟩ = some (.int .i64 k.minutes) := Kk.out.cell 2
  go_wp2_with fail
  rw [← HW0.out]
  clear vk0 vk1 vk2
  refine (CF.out _ _ (Rl.out.below B.out)).mono ?_
  rintro e w1 ⟨rfl, hb1⟩
  have B1 := Lib.hid (B.out.trans (hb1.mono B.out.size))
  have Kk_1 := Lib.hid (Kk.out.below hb1)
  clear hb1
  cases b with
  | false =>
    have E := Lib.hid (leastI_no Hb.out)
    have vk0 : w1.cell? ⟨w.heap.size, 0, none⟩ = some (.int .i64 k.length) := Kk_1.out.cell 0
    have vk1 : w1.cell? ⟨w.heap.size, 1, none⟩ = some (.int .i64 k.lanes) := Kk_1.out.cell 1
    have vk2 : w1.cell? ⟨w.heap.size, 2, none⟩ = some (.int .i64 k.minutes) := Kk_1.out.cell 2
    go_wp2
    go_ret
    exact ⟨ret_int E.out.symm, B1.out⟩
  | true =>
    obtain ⟨⟨h1, h2⟩, h3⟩ : (chamB k = true ∧ lensB l = true) ∧ shortB k l = true := by have := Hb.out; unfold fitsB at this; simpa using this
    have E0 := leastI_best h1 h2 h3
    have H1 := Lib.hid h1
    have H2 := Lib.hid h2
    have H3 := Lib.hid h3
    have h8 := lensB_len h2
    obtain ⟨m, hm⟩ : ∃ m, l.length = m := ⟨_, rfl⟩
    have HM := Lib.hid hm
    rw [hm] at h8
    have R1 := Lib.hid (SlOf.below Rl.out B1.out)
    rw [hm] at R1
    try rw [hm]
    obtain ⟨N, hN⟩ : ∃ N, 2 ^ m = N + 1 := ⟨2 ^ m - 1, by have := Nat.two_pow_pos m; omega⟩
    have hN2 : N + 1 ≤ 256 := by rw [← hN]; exact Nat.pow_le_pow_right (by omega) h8
    rw [hm, hN, Nat.add_sub_cancel] at E0
    have E := Lib.hid E0
    have HN := Lib.hid hN
    have hTi : IntKind.i64.wrap ((2 : Int) ^ m) = (N : Int) + 1 := by rw [show ((2 : Int) ^ m) = ((2 ^ m : Nat) : Int) by simp, hN, IntKind.wrap_i64]; omega
    have hmi : (m : Int) ≤ 64 := by omega
    have hw1 : IntKind.i64.wrap ((N : Int) + 1) = (N : Int) + 1 := by rw [IntKind.wrap_i64]; omega
    have hw2 : IntKind.i64.wrap (N : Int) = (N : Int) := by rw [IntKind.wrap_i64]; omega
    have hw3 : IntKind.i64.wrap ((N : Int) + 1 - 1) = (N : Int) := by rw [IntKind.wrap_i64]; omega
    have hmk := make_rowB (N + 1) (by omega)
    rw [show ((N + 1 : Nat) : Int) = (N : Int) + 1 from rfl] at hmk
    clear h1 h2 h3 hm E0 hN
    have vk0 : w1.cell? ⟨w.heap.size, 0, none⟩ = some (.int .i64 k.length) := Kk_1.out.cell 0
    have vk1 : w1.cell? ⟨w.heap.size, 1, none⟩ = some (.int .i64 k.lanes) := Kk_1.out.cell 1
    have vk2 : w1.cell? ⟨w.heap.size, 2, none⟩ = some (.int .i64 k.minutes) := Kk_1.out.cell 2
    go_wp2
    have KF0 := Blk.new w1 (rowB (List.replicate (N + 1) false)) 4
    have hal := Joins.below_alloc1 w1 (.cells (rowB (List.replicate (N + 1) false)) 4)
    obtain ⟨W2, hW2⟩ : ∃ X, X = w1.alloc (.cells (rowB (List.replicate (N + 1) false)) 4) := ⟨_, rfl⟩
    rw [← hW2] at KF0 hal
    have HW2 := Lib.hid hW2
    have HKF0 := Lib.hid KF0
    have HAL := Lib.hid hal
    have hg2 : w1.heap.size < W2.heap.size := KF0.lt
    try rw [← HW2.out]
    clear hW2 KF0 hal hmk vk0 vk1 vk2
    go_loopw [24] (fun t wr => ∃ (i : Nat) (bs : List Bool), i ≤ N + 1 ∧ t = .int .i64 (i : Int) ∧ Hid (Blk wr w1.heap.size (rowB bs) 4) ∧ Hid (FitRow k l i (N + 1) bs) ∧ Hid (Below w1.heap.size w1 wr)) (fun t _ => N + 1 - (intOf t).toNat)
    case atStart => exact ⟨0, _, Nat.zero_le _, rfl, HKF0, Lib.hid ⟨by simp, fun j hj => by omega⟩, HAL⟩
    case round =>
      obtain ⟨i, bs, hi, rfl, hK, hF, hb⟩ := hrel
      by_cases hlt : i < N + 1
      · have hlti : (i : Int) < (N : Int) + 1 := by omega
        have hd := (Below.refl wr.heap.size wr).drew
        obtain ⟨x2, hx2⟩ : ∃ X, X = wr.drew := ⟨_, rfl⟩
        have KB2 := hK.out.drew
        rw [← hx2] at hd KB2
        have HX2 := Lib.hid hx2
        have b2 := Lib.hid (hb.out.trans (hd.mono hb.out.size))
        have HK2 := Lib.hid KB2
        have K2 := Lib.hid (Kk_1.out.below b2.out)
        have RW := Lib.hid (SlOf.below R1.out b2.out)
        clear hd hx2 KB2
        have e0 : wr.cell? ⟨w.heap.size, 0, none⟩ = some (.int .i64 k.length) := (Kk_1.out.below hb.out).cell 0
        have C0 := Lib.hid (show x2.cell? ⟨w.heap.size, 0, none⟩ = some (.int .i64 k.length) from K2.out.cell 0)
        have e1 : wr.cell? ⟨w.heap.size, 1, none⟩ = some (.int .i64 k.lanes) := (Kk_1.out.below hb.out).cell 1
        have C1 := Lib.hid (show x2.cell? ⟨w.heap.size, 1, none⟩ = some (.int .i64 k.lanes) from K2.out.cell 1)
        have e2 : wr.cell? ⟨w.heap.size, 2, none⟩ = some (.int .i64 k.minutes) := (Kk_1.out.below hb.out).cell 2
        have C2 := Lib.hid (show x2.cell? ⟨w.heap.size, 2, none⟩ = some (.int .i64 k.minutes) from K2.out.cell 2)
        go_upto_region 8 with fail
        refine wp_region_held_drew (S := (fun w' => w'.cell? ⟨w.heap.size, 0, none⟩ = some (.int .i64 k.length) ∧ w'.cell? ⟨w.heap.size, 1, none⟩ = some (.int .i64 k.lanes) ∧ w'.cell? ⟨w.heap.size, 2, none⟩ = some (.int .i64 k.minutes))) (by kernel_rfl) ?_ (fun hHeld => ?_)
        · (try dsimp only); go_keep
        rw [← HX2.out] at hHeld ⊢
        clear e0 e1 e2
        refine wpAnyH_take (i := 0) (v := ?_) (by simp only [List.getElem?_toArray, List.getElem?_cons_zero]; rfl) (by kernel_rfl) (by kernel_rfl) (by kernel_rfl) (by exact fun _ _ _ h => h) (Or.inl ⟨by rfl, ?_⟩) (by assumption) ?_; rotate_left; focus (intro w hSw; (try dsimp only at hSw); first | (go_simp; done) | (go_simp; with_reducible rfl))
        (try simp only [Act.put]); (try simp only [List.setIfInBounds_toArray]); (try simp only [List.set_cons_succ]); (try simp only [List.set_cons_zero])
        refine wpAnyH_take (i := 1) (v := ?_) (by simp only [List.getElem?_toArray, List.getElem?_cons_succ, List.getElem?_cons_zero]; rfl) (by kernel_rfl) (by kernel_rfl) (by kernel_rfl) (by exact fun _ _ _ h => h) (Or.inl ⟨by rfl, ?_⟩) (by assumption) ?_; rotate_left; focus (intro w hSw; (try dsimp only at hSw); first | (go_simp; done) | (go_simp; with_reducible rfl))
        (try simp only [Act.put]); (try simp only [List.setIfInBounds_toArray]); (try simp only [List.set_cons_succ]); (try simp only [List.set_cons_zero])
        refine wpAnyH_take (i := 2) (v := ?_) (by simp only [List.getElem?_toArray, List.getElem?_cons_succ, List.getElem?_cons_zero]; rfl) (by kernel_rfl) (by kernel_rfl) (by kernel_rfl) (by exact fun _ _ _ h => h) (Or.inl ⟨by rfl, ?_⟩) (by assumption) ?_; rotate_left; focus (intro w hSw; (try dsimp only at hSw); first | (go_simp; done) | (go_simp; with_reducible rfl))
        (try simp only [Act.put]); (try simp only [List.setIfInBounds_toArray]); (try simp only [List.set_cons_succ]); (try simp only [List.set_cons_zero])
        refine wpAnyH_take (i := 3) (v := ?_) (by simp only [List.getElem?_toArray, List.getElem?_cons_succ, List.getElem?_cons_zero]; rfl) (by kernel_rfl) (by kernel_rfl) (by kernel_rfl) (by exact fun _ _ _ h => h) (Or.inl ⟨by rfl, ?_⟩) (by assumption) ?_; rotate_left; focus (intro w hSw; (try dsimp only at hSw); first | (go_simp; done) | (go_simp; with_reducible rfl))
        (try simp only [Act.put]); (try simp only [List.setIfInBounds_toArray]); (try simp only [List.set_cons_succ]); (try simp only [List.set_cons_zero])
        refine wpAnyH_take (i := 4) (v := ?_) (by simp only [List.getElem?_toArray, List.getElem?_cons_succ, List.getElem?_cons_zero]; rfl) (by kernel_rfl) (by kernel_rfl) (by kernel_rfl) (by exact fun _ _ _ h => h) (Or.inl ⟨by rfl, ?_⟩) (by assumption) ?_; rotate_left; focus (intro w hSw; (try dsimp only at hSw); first | (go_simp; done) | (go_simp; with_reducible rfl))
        (try simp only [Act.put]); (try simp only [List.setIfInBounds_toArray]); (try simp only [List.set_cons_succ]); (try simp only [List.set_cons_zero])
        refine wpAnyH_ready (rs := [5]) (by kernel_rfl) (by simp) ?_
        refine AllReadyH.cons rfl (fun K hK => ?_) AllReadyH.nil
        rw [if_pos (by rfl)]
        go_simp
        go_at_call 49
        refine (specSome _ l i x2 RW.out (by rw [HM.out]; exact h8) (by omega)).mono ?_
        rintro e x3 ⟨u, rfl, hu, hb3⟩
        have hsl : (someL l i).length ≤ 8 := by have := someL_len l i; have := HM.out; omega
        have U3 := Lib.hid (own_sl intLen hu (by omega))
        obtain ⟨Au, cu, rfl⟩ := own_form hu
        have B3 := Lib.hid hb3
        clear hu hb3
        go_simp
        refine hK.out _ _ ⟨cell_onV C0.out B3.out, cell_onV C1.out B3.out, cell_onV C2.out B3.out⟩ (fun hHeld => ?_)
        skip
        (try simp only [Act.put]); (try simp only [List.setIfInBounds_toArray]); (try simp only [List.set_cons_succ]); (try simp only [List.set_cons_zero])
        refine wpAnyH_ready (rs := [6]) (by kernel_rfl) (by simp) ?_
        refine AllReadyH.cons rfl (fun K hK => ?_) AllReadyH.nil
        rw [if_pos (by rfl)]
        go_simp
        go_at_call 27
        obtain ⟨t, ht⟩ : ∃ t, packN k l i = t := ⟨_, rfl⟩
        have HT := Lib.hid ht
        have C := specPackShips k _ _ _ U3.out
        rw [show (packO k (someL l i)).isSome = t from ht] at C
        refine C.mono ?_
        rintro e x4 ⟨v, rfl, -, hb4⟩
        have B4 := Lib.hid (B3.out.trans (hb4.mono B3.out.size))
        clear hb4 C ht
        go_simp
        refine hK.out _ _ ⟨cell_onV C0.out B4.out, cell_onV C1.out B4.out, cell_onV C2.out B4.out⟩ (fun hHeld => ?_)
        (try simp only [Act.put]); (try simp only [List.setIfInBounds_toArray]); (try simp only [List.set_cons_succ]); (try simp only [List.set_cons_zero])
        refine wpAnyH_take (i := 7) (v := ?_) (by simp only [List.getElem?_toArray, List.getElem?_cons_succ, List.getElem?_cons_zero]; rfl) (by kernel_rfl) (by kernel_rfl) (by kernel_rfl) (by exact fun _ _ _ h => h) (Or.inl ⟨by rfl, ?_⟩) (by assumption) ?_; rotate_left; focus (intro w hSw; (try dsimp only at hSw); first | (go_simp; done) | (go_simp; with_reducible rfl))
        (try simp only [Act.put]); (try simp only [List.setIfInBounds_toArray]); (try simp only [List.set_cons_succ]); (try simp only [List.set_cons_zero])
        refine wpAnyH_take (i := 8) (v := ?_) (by simp only [List.getElem?_toArray, List.getElem?_cons_succ, List.getElem?_cons_zero]; rfl) (by kernel_rfl) (by kernel_rfl) (by kernel_rfl) (by exact fun _ _ _ h => h) (Or.inl ⟨by rfl, ?_⟩) (by assumption) ?_; rotate_left; focus (intro w hSw; (try dsimp only at hSw); first | (go_simp; done) | (go_simp; with_reducible rfl))
        (try simp only [Act.put]); (try simp only [List.setIfInBounds_toArray]); (try simp only [List.set_cons_succ]); (try simp only [List.set_cons_zero])
        refine wpAnyH_take (i := 9) (v := ?_) (by simp only [List.getElem?_toArray, List.getElem?_cons_succ, List.getElem?_cons_zero]; rfl) (by kernel_rfl) (by kernel_rfl) (by kernel_rfl) (by exact fun _ _ _ h => h) (Or.inl ⟨by rfl, ?_⟩) (by assumption) ?_; rotate_left; focus (intro w hSw; (try dsimp only at hSw); first | (go_simp; done) | (go_simp; with_reducible rfl))
        (try simp only [Act.put]); (try simp only [List.setIfInBounds_toArray]); (try simp only [List.set_cons_succ]); (try simp only [List.set_cons_zero])
        have hii : (0 : Int) ≤ (i : Int) ∧ (i : Int) < (N : Int) + 1 := by omega
        refine wpAnyH_take (i := 10) (v := ?_) (by simp only [List.getElem?_toArray, List.getElem?_cons_succ, List.getElem?_cons_zero]; rfl) (by kernel_rfl) (by kernel_rfl) (by kernel_rfl) (by exact fun _ _ _ h => h) (Or.inl ⟨by rfl, ?_⟩) (by assumption) ?_; rotate_left; focus (intro w hSw; (try dsimp only at hSw); first | (go_simp; done) | (go_simp; with_reducible rfl))
        (try simp only [Act.put]); (try simp only [List.setIfInBounds_toArray]); (try simp only [List.set_cons_succ]); (try simp only [List.set_cons_zero])
        have KB4 := HK2.out.below B4.out
        have fu4 : x4.frozen? ⟨w1.heap.size, i, none⟩ = false := KB4.free i
        have yu4 : x4.cell? ⟨w1.heap.size, i, none⟩ = some (.bool (bs.getD i false)) := (KB4.cell i).trans (rowB_at (by rw [hF.out.1]; exact hlt))
        refine wpAnyH_ready (rs := [11]) (by kernel_rfl) (by simp) ?_
        refine AllReadyH.cons rfl (fun K hK => ?_) AllReadyH.nil
        rw [if_pos (by rfl)]
        go_simp
        have K5 := KB4.set i (.bool t)
        rw [rowB_set] at K5
        have b4 := b2.out.trans (B4.out.mono b2.out.size)
        have b5 := Lib.hid (b4.grown (grown_set1 x4 w1.heap.size i (.bool t)) b4.size (fun j e => by have := Option.some.inj e; omega))
        obtain ⟨x5, hx5⟩ : ∃ X, X = x4.setCell ⟨w1.heap.size, i, none⟩ (.bool t) := ⟨_, rfl⟩
        rw [← hx5] at K5 b5 ⊢
        have HK5 := Lib.hid K5
        have FN := Lib.hid (show FitRow k l (i + 1) (N + 1) (bs.set i t) by rw [← HT.out]; exact hF.out.next hlt)
        clear hx5 K5 b4 KB4 fu4 yu4
        refine hK.out _ _ ⟨(Kk_1.out.below b5.out).cell 0, (Kk_1.out.below b5.out).cell 1, (Kk_1.out.below b5.out).cell 2⟩ (fun hHeld => ?_)
        (try simp only [Act.put]); (try simp only [List.setIfInBounds_toArray]); (try simp only [List.set_cons_succ]); (try simp only [List.set_cons_zero])
        refine wpAnyH_done (by kernel_rfl) ?_ _
        clear hHeld
        go_wp2
        go_roundw
        case rel => exact ⟨i + 1, _, by omega, by go_num, HK5, FN, b5⟩
        case measure => simp [intOf]; omega
      · obtain rfl : i = N + 1 := by omega
        obtain ⟨wf, rfl⟩ : ∃ X, X = wr := ⟨_, rfl⟩
        have hmk := make_rowI (N + 1) (by omega)
        rw [show ((N + 1 : Nat) : Int) = (N : Int) + 1 from rfl] at hmk
        have hN1i : ¬ (N : Int) + 1 < (N : Int) + 1 := by omega
        go_wp2
        have KU0 := Blk.new wf (rowI (List.replicate (N + 1) 0)) 3
        have hal := Joins.below_alloc1 wf (.cells (rowI (List.replicate (N + 1) 0)) 3)
        obtain ⟨W3, hW3⟩ : ∃ X, X = wf.alloc (.cells (rowI (List.replicate (N + 1) 0)) 3) := ⟨_, rfl⟩
        rw [← hW3] at KU0 hal
        have HW3 := Lib.hid hW3
        have HKU0 := Lib.hid KU0
        have B3 := Lib.hid (hb.out.trans (hal.mono hb.out.size))
        have KF := Lib.hid (hK.out.below hal)
        have hgf : w1.heap.size < wf.heap.size := hK.out.lt
        try rw [← HW3.out]
        clear hW3 KU0 hal hmk hN1i
        go_loopw [9] (fun t wr => ∃ (i : Nat) (us : List Int), 1 ≤ i ∧ i ≤ N + 1 ∧ t = .int .i64 (i : Int) ∧ Hid (Blk wr w1.heap.size (rowB bs) 4) ∧ Hid (Blk wr wf.heap.size (rowI us) 3) ∧ Hid (BestRow k l i (N + 1) us) ∧ Hid (Below w1.heap.size w1 wr)) (fun t _ => N + 1 - (intOf t).toNat)
        case atStart => exact ⟨1, _, Nat.le_refl _, by omega, rfl, KF, HKU0, Lib.hid (BestRow.zero k l (N + 1)), B3⟩
        case round =>
          obtain ⟨i, us, hi1, hi, rfl, hKF, hKU, hU, hb2⟩ := hrel
          obtain ⟨wo, rfl⟩ : ∃ X, X = wr := ⟨_, rfl⟩
          have BO := Lib.hid (B1.out.trans (hb2.out.mono B1.out.size))
          by_cases hlt : i < N + 1
          rotate_left
          · obtain rfl : i = N + 1 := by omega
            have hNi : ¬ ((N : Int) + 1) ≤ (N : Int) := by omega
            have hNb : decide (((N : Int) + 1) ≤ (N : Int)) = false := decide_eq_false hNi
            have yN : wo.cell? ⟨wf.heap.size, N, none⟩ = some (.int .i64 ((bestN k l N : Nat) : Int)) := by rw [← hU.out.2 N (by omega)]; exact (hKU.out.cell N).trans (rowI_at (by rw [hU.out.1]; omega))
            have hNl : (N : Int) < (N : Int) + 1 := by omega
            go_wp2
            go_ret
            exact ⟨ret_int E.out.symm, BO.out⟩
          have hii : (i : Int) ≤ (N : Int) := by omega
          have hi2 : (i : Int) < (N : Int) + 1 := by omega
          have hNi : decide ((i : Int) ≤ (N : Int)) = true := decide_eq_true hii
          have yi : wo.cell? ⟨wf.heap.size, i, none⟩ = some (.int .i64 (us.getD i 0)) := (hKU.out.cell i).trans (rowI_at (by rw [hU.out.1]; exact hlt))
          have fi : wo.frozen? ⟨wf.heap.size, i, none⟩ = false := hKU.out.free i
          go_wp2
          have K6 := hKU.out.set i (.int .i64 (m : Int))
          rw [rowI_set] at K6
          have b6 := hb2.out.grown (grown_set1 wo wf.heap.size i (.int .i64 (m : Int))) hb2.out.size (fun j e => by have := Option.some.inj e; omega)
          have KF6 := hKF.out.other (show w1.heap.size ≠ wf.heap.size by omega) i (.int .i64 (m : Int))
          obtain ⟨w6, hw6⟩ : ∃ X, X = wo.setCell ⟨wf.heap.size, i, none⟩ (.int .i64 (m : Int)) := ⟨_, rfl⟩
          rw [← hw6] at K6 b6 KF6
          have HW6 := Lib.hid hw6
          have HK6 := Lib.hid K6
          have HB6 := Lib.hid b6
          have HKF6 := Lib.hid KF6
          have U6 := Lib.hid (hU.out.set (m : Int))
          have T0 := Lib.hid (show TriedTo k l i i m by have := TriedTo.zero H1.out H2.out H3.out i; rw [HM.out] at this; exact this)
          have V6 := Lib.hid (show (us.set i (m : Int)).getD i 0 = (m : Int) from getD_set_same _ _ _ (by rw [hU.out.1]; exact hlt))
          try rw [← HW6.out]
          clear hw6 K6 b6 KF6 yi fi
          go_loopw [10] (fun t wr => ∃ (part v : Nat) (vs : List Int), part &&& i = part ∧ v ≤ m ∧ t = .int .i64 (part : Int) ∧ Hid (Blk wr w1.heap.size (rowB bs) 4) ∧ Hid (Blk wr wf.heap.size (rowI vs) 3) ∧ Hid (BestRow k l i (N + 1) vs) ∧ Hid (vs.getD i 0 = (v : Int)) ∧ Hid (TriedTo k l i part v) ∧ Hid (Below w1.heap.size w1 wr)) (fun t _ => (intOf t).toNat)
          case atStart => exact ⟨i, m, _, Nat.and_self _, Nat.le_refl _, rfl, HKF6, HK6, U6, V6, T0, HB6⟩
          case round =>
            obtain ⟨part, v, vs, hpi, hvm, rfl, hKF, hKU, hU, hV, hT, hb3⟩ := hrel
            have hple := (within hpi).2.2
            by_cases hp0 : 0 < part
            rotate_left
            · obtain rfl : part = 0 := by omega
              have UN := Lib.hid (hU.out.next (by rw [hV.out, TriedTo.all H1.out H2.out H3.out hT.out (by rw [HM.out, HN.out]; exact hlt) (by omega)]))
              go_wp2
              go_roundw
              case rel => exact ⟨i + 1, _, by omega, by omega, by go_num, hKF, hKU, UN, hb3⟩
              case measure => simp [intOf]; omega
            have hp0i : (0 : Int) < (part : Int) := by omega
            have hpl : (part : Int) < (N : Int) + 1 := by omega
            have wp1 : IntKind.i64.wrap ((part : Int) - 1) = ((part - 1 : Nat) : Int) := by rw [IntKind.wrap_i64]; omega
            have wbits : bits BinOp.and IntKind.i64 ((part - 1 : Nat) : Int) (i : Int) = (((part - 1) &&& i : Nat) : Int) := bits_and_nat (by omega) (by omega)
            have hnext : ((part - 1) &&& i) &&& i = (part - 1) &&& i := by rw [Nat.and_assoc, Nat.and_self]
            have hnlt : (part - 1) &&& i < part := by have : (part - 1) &&& i ≤ part - 1 := Nat.and_le_left; omega
            obtain ⟨f, hf⟩ : ∃ f, packN k l part = f := ⟨_, rfl⟩
            have HF := Lib.hid hf
            have yf : wr.cell? ⟨w1.heap.size, part, none⟩ = some (.bool f) := by rw [← hf, ← hF.out.2 part (by omega)]; exact (hKF.out.cell part).trans (rowB_at (by rw [hF.out.1]; omega))
            clear hf
            cases f with
            | false =>
              have TN := Lib.hid (hT.out.no hpi HF.out)
              go_wp2
              go_roundw
              case rel => exact ⟨(part - 1) &&& i, v, vs, hnext, hvm, by first | go_num | rfl | (rw [← wbits]), hKF, hKU, hU, hV, TN, hb3⟩
              case measure => simp [intOf]; omega
            | true =>
              have hsub : i - part < i := by omega
              have ys : wr.cell? ⟨wf.heap.size, i - part, none⟩ = some (.int .i64 ((bestN k l (i - part) : Nat) : Int)) := by rw [← hU.out.2 (i - part) hsub]; exact (hKU.out.cell (i - part)).trans (rowI_at (by rw [hU.out.1]; omega))
              have yi : wr.cell? ⟨wf.heap.size, i, none⟩ = some (.int .i64 (v : Int)) := by rw [← hV.out]; exact (hKU.out.cell i).trans (rowI_at (by rw [hU.out.1]; exact hlt))
              have fi : wr.frozen? ⟨wf.heap.size, i, none⟩ = false := hKU.out.free i
              have wsub : IntKind.i64.wrap ((i : Int) - (part : Int)) = ((i - part : Nat) : Int) := by rw [IntKind.wrap_i64]; omega
              have hbl := bestN_len H1.out H2.out H3.out (i - part)
              rw [HM.out] at hbl
              obtain ⟨z, hz⟩ : ∃ z, bestN k l (i - part) = z := ⟨_, rfl⟩
              have HZ := Lib.hid hz
              rw [hz] at hbl ys
              have wz : IntKind.i64.wrap (1 + (z : Int)) = 1 + (z : Int) := by rw [IntKind.wrap_i64]; omega
              have hspl : ((i - part : Nat) : Int) < (N : Int) + 1 := by omega
              have hsp0 : (0 : Int) ≤ ((i - part : Nat) : Int) := by omega
              have KU7 := hKU.out.drew
              have KF7 := hKF.out.drew
              have b7 := hb3.out.trans ((Below.refl wr.heap.size wr).drew.mono hb3.out.size)
              clear hz
              go_upto_region 19 with fail
              go_still_tail 15, (by kernel_rfl)
              change wpList _ _ _ _ _ wr.drew
              obtain ⟨w7, hw7⟩ : ∃ X, X = wr.drew := ⟨_, rfl⟩
              have yi7 : w7.cell? ⟨wf.heap.size, i, none⟩ = some (.int .i64 (v : Int)) := by rw [hw7]; exact yi
              have fi7 : w7.frozen? ⟨wf.heap.size, i, none⟩ = false := by rw [hw7]; exact fi
              rw [← hw7] at KU7 KF7 b7 ⊢
              clear hw7 yi fi ys yf
              have hmin : (if 1 + (z : Int) < (v : Int) then 1 + (z : Int) else (v : Int)) = ((min v (1 + z) : Nat) : Int) := by split <;> omega
              go_upto_region 17 with fail
              rw [hmin]
              obtain ⟨x, hx⟩ : ∃ x, min v (1 + z) = x := ⟨_, rfl⟩
              rw [hx]
              have K8 := KU7.set i (.int .i64 (x : Int))
              rw [rowI_set] at K8
              have b8 := b7.grown (grown_set1 w7 wf.heap.size i (.int .i64 (x : Int))) b7.size (fun j e => by have := Option.some.inj e; omega)
              have KF8 := KF7.other (show w1.heap.size ≠ wf.heap.size by omega) i (.int .i64 (x : Int))
              obtain ⟨w8, hw8⟩ : ∃ X, X = w7.setCell ⟨wf.heap.size, i, none⟩ (.int .i64 (x : Int)) := ⟨_, rfl⟩
              rw [← hw8] at K8 b8 KF8 ⊢
              have U8 := Lib.hid (hU.out.set (x : Int))
              have V8 := Lib.hid (show (vs.set i (x : Int)).getD i 0 = (x : Int) from getD_set_same _ _ _ (by rw [hU.out.1]; exact hlt))
              have T8 := Lib.hid (show TriedTo k l i ((part - 1) &&& i) x by rw [← hx, ← HZ.out]; exact TriedTo.yes H1.out H2.out H3.out hT.out hpi HF.out)
              have hxm : x ≤ m := by omega
              have HK8 := Lib.hid K8
              have HB8 := Lib.hid b8
              have HKF8 := Lib.hid KF8
              clear hw8 K8 b8 KF8 KU7 KF7 b7 yi7 fi7 hx hmin
              go_wp2
              go_roundw
              case rel => exact ⟨(part - 1) &&& i, x, _, hnext, hxm, by first | go_num | rfl | (rw [← wbits]), HKF8, HK8, U8, V8, T8, HB8⟩
              case measure => simp [intOf]; omega
end Go.Proofs.Ytphagahhhfiiaaa
