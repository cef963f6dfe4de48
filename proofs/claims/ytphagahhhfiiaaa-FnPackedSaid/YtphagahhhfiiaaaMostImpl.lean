
/- Lock chambers, the program's side: MostShips: contract. -/
import Derived.Test.YtphagahhhfiiaaaLongImpl
import Derived.Test.YtphagahhhfiiaaaMostEq
import Derived.Test.YtphagahhhfiiaaaSeqInt
namespace Go.Proofs.Ytphagahhhfiiaaa
open Go.RowKit
set_option maxRecDepth 100000

set_option maxHeartbeats 8000000 in
theorem implMostShips (k : ChamberD) (yl : Value) (l : List Int) (w : World) (rl : SlInt w yl l) :
    Calls Try.prog 14 #[k.val, yl] w fun e w' => e = .returned (.int .i64 (mostI k l)) ∧ Below w.heap.size w w' := by
  obtain ⟨W0, hW0⟩ : ∃ W0, W0 = (w.alloc (.cells #[.int .i64 k.length, .int .i64 k.lanes, .int .i64 k.minutes] 24)) := ⟨_, rfl⟩
  have B := Lib.hid (Joins.below_alloc1 w (.cells #[.int .i64 k.length, .int .i64 k.lanes, .int .i64 k.minutes] 24))
  have K := Lib.hid (Blk.new w #[.int .i64 k.length, .int .i64 k.lanes, .int .i64 k.minutes] 24)
  have HW0 := Lib.hid hW0
  rw [← hW0] at B K
  clear hW0
  have R := Lib.hid (SlOf.below rl B.out)
  obtain ⟨A1, c1, rfl⟩ := SlOf.form rl
  obtain ⟨b, hb⟩ : ∃ b, (chamB k && lensB l) = b := ⟨_, rfl⟩
  have HB := Lib.hid hb
  clear hb rl
  have c0 : W0.cell? ⟨w.heap.size, 0, none⟩ = some (.int .i64 k.length) := K.out.cell 0
  have c1' : W0.cell? ⟨w.heap.size, 1, none⟩ = some (.int .i64 k.lanes) := K.out.cell 1
  have c2 : W0.cell? ⟨w.heap.size, 2, none⟩ = some (.int .i64 k.minutes) := K.out.cell 2
  go_enter Try.func14, Try.ntmps14
  go_wp2_with fail
  rw [← HW0.out]
  clear c0 c1' c2
  refine (implCanPack k _ l _ R.out).mono ?_
  rw [HB.out]
  rintro e w1 ⟨rfl, hb⟩
  have B1 := Lib.hid (B.out.trans (hb.mono B.out.size))
  have K1 := Lib.hid (K.out.below hb)
  have R1 := Lib.hid (SlOf.below R.out hb)
  clear hb R B K
  cases b with
  | false =>
    have E := Lib.hid (mostI_bad (k := k) (l := l) (by rintro ⟨h1, h2⟩; have := HB.out; rw [h1, h2] at this; cases this))
    go_wp2
    go_ret
    exact ⟨ret_int E.out.symm, B1.out⟩
  | true =>
    obtain ⟨h1, h2⟩ : chamB k = true ∧ lensB l = true := by have := HB.out; simpa using this
    have E := Lib.hid (show mostI k l = ((longN k (sortedL l) : Nat) : Int) by rw [mostI_ok h1 h2, most_eq h1 h2])
    have h8 := lensB_len h2
    have h8s : (sortedL l).length ≤ 8 := lensB_len (lens_sorted h2)
    have R2 := Lib.hid (SlOf.below R1.out (Below.refl _ w1).drew)
    obtain ⟨w2, hw2⟩ : ∃ W, W = w1.drew := ⟨_, rfl⟩
    have hd := (Below.refl w1.heap.size w1).drew
    rw [← hw2] at R2 hd
    have HW2 := Lib.hid hw2
    have B2 := Lib.hid (B1.out.trans (hd.mono B1.out.size))
    have K2 := Lib.hid (K1.out.below hd)
    have hal := Joins.below_alloc1 w2 (.cells #[.slice A1 l.length c1] 25)
    have R3 := SlOf.below R2.out hal
    have KB := Blk.new w2 #[.slice A1 l.length c1] 25
    obtain ⟨w3, hw3⟩ : ∃ W, W = w2.alloc (.cells #[.slice A1 l.length c1] 25) := ⟨_, rfl⟩
    have hlt3 : w2.heap.size < w3.heap.size := by rw [hw3]; simp
    rw [← hw3] at hal R3 KB
    have HW3 := Lib.hid hw3
    have B3 := Lib.hid hal
    have CS := sortedInt_any 56 #[.pointer (some ⟨w2.heap.size, 0, none⟩)] w3.heap.size l.length l w3 (valuesInt1 A1 c1 l w2.heap.size w3 R3 hlt3 (KB.cell 0)) (Nat.le_refl _) (enters_of Try.func56 (by kernel_rfl) rfl) (by omega) (by omega)
    rw [show sortedI l = sortedL l from rfl] at CS
    have HCS := Lib.hid CS
    clear h1 h2 hw2 hd hal R3 KB hw3 CS hlt3
    have e0 : w1.cell? ⟨w.heap.size, 0, none⟩ = some (.int .i64 k.length) := K1.out.cell 0
    have C0 := Lib.hid (show w2.cell? ⟨w.heap.size, 0, none⟩ = some (.int .i64 k.length) from K2.out.cell 0)
    have e1 : w1.cell? ⟨w.heap.size, 1, none⟩ = some (.int .i64 k.lanes) := K1.out.cell 1
    have C1 := Lib.hid (show w2.cell? ⟨w.heap.size, 1, none⟩ = some (.int .i64 k.lanes) from K2.out.cell 1)
    have e2 : w1.cell? ⟨w.heap.size, 2, none⟩ = some (.int .i64 k.minutes) := K1.out.cell 2
    have C2 := Lib.hid (show w2.cell? ⟨w.heap.size, 2, none⟩ = some (.int .i64 k.minutes) from K2.out.cell 2)
    go_upto_region 3 with fail
    refine wp_region_held_drew (S := (fun w' => w'.cell? ⟨w.heap.size, 0, none⟩ = some (.int .i64 k.length) ∧ w'.cell? ⟨w.heap.size, 1, none⟩ = some (.int .i64 k.lanes) ∧ w'.cell? ⟨w.heap.size, 2, none⟩ = some (.int .i64 k.minutes))) (by kernel_rfl) ?_ (fun hHeld => ?_)
    · (try dsimp only); go_keep
    rw [← HW2.out] at hHeld ⊢
    clear e0 e1 e2
    refine wpAnyH_take (i := 0) (v := ?_) (by simp only [List.getElem?_toArray, List.getElem?_cons_zero]; rfl) (by kernel_rfl) (by kernel_rfl) (by kernel_rfl) (by exact fun _ _ _ h => h) (Or.inl ⟨by rfl, ?_⟩) (by assumption) ?_; rotate_left; focus (intro w hSw; (try dsimp only at hSw); first | (go_simp; done) | (go_simp; with_reducible rfl))
    (try simp only [Act.put]); (try simp only [List.setIfInBounds_toArray]); (try simp only [List.set_cons_succ]); (try simp only [List.set_cons_zero])
    refine wpAnyH_take (i := 1) (v := ?_) (by simp only [List.getElem?_toArray, List.getElem?_cons_succ, List.getElem?_cons_zero]; rfl) (by kernel_rfl) (by kernel_rfl) (by kernel_rfl) (by exact fun _ _ _ h => h) (Or.inl ⟨by rfl, ?_⟩) (by assumption) ?_; rotate_left; focus (intro w hSw; (try dsimp only at hSw); first | (go_simp; done) | (go_simp; with_reducible rfl))
    (try simp only [Act.put]); (try simp only [List.setIfInBounds_toArray]); (try simp only [List.set_cons_succ]); (try simp only [List.set_cons_zero])
    refine wpAnyH_ready (rs := [2]) (by kernel_rfl) (by simp) ?_
    refine AllReadyH.cons rfl (fun K hK => ?_) AllReadyH.nil
    rw [if_pos (by rfl)]
    go_simp
    go_at_call 41
    refine (valuesInt_any A1 l.length c1 w2).mono ?_
    rintro e w3' ⟨rfl, rfl⟩
    rw [← HW3.out]
    go_simp
    refine hK.out _ _ ⟨cell_onV C0.out B3.out, cell_onV C1.out B3.out, cell_onV C2.out B3.out⟩ (fun hHeld => ?_)
    clear hK K
    (try simp only [Act.put]); (try simp only [List.setIfInBounds_toArray]); (try simp only [List.set_cons_succ]); (try simp only [List.set_cons_zero])
    refine wpAnyH_ready (rs := [3]) (by kernel_rfl) (by simp) ?_
    refine AllReadyH.cons rfl (fun K hK => ?_) AllReadyH.nil
    rw [if_pos (by rfl)]
    go_simp
    go_at_call 40
    refine HCS.out.mono ?_
    rintro e w4 ⟨v, rfl, ho, hb4⟩
    have B4 := Lib.hid (B3.out.trans (hb4.mono B3.out.size))
    have S4 := Lib.hid (own_sl intLen ho (by omega))
    obtain ⟨A4, c4, rfl⟩ := own_form ho
    clear ho hb4
    go_simp
    refine hK.out _ _ ⟨cell_onV C0.out B4.out, cell_onV C1.out B4.out, cell_onV C2.out B4.out⟩ (fun hHeld => ?_)
    clear hK K
    (try simp only [Act.put]); (try simp only [List.setIfInBounds_toArray]); (try simp only [List.set_cons_succ]); (try simp only [List.set_cons_zero])
    refine wpAnyH_ready (rs := [4]) (by kernel_rfl) (by simp) ?_
    refine AllReadyH.cons rfl (fun K hK => ?_) AllReadyH.nil
    rw [if_pos (by rfl)]
    go_simp
    go_at_call 39
    refine (implLongestPrefix k _ (sortedL l) w4 S4.out).mono ?_
    rintro e w5 ⟨rfl, hb5⟩
    have B5 := Lib.hid (B4.out.trans (hb5.mono B4.out.size))
    clear hb5
    go_simp
    refine hK.out _ _ ⟨cell_onV C0.out B5.out, cell_onV C1.out B5.out, cell_onV C2.out B5.out⟩ (fun hHeld => ?_)
    clear hK K
    (try simp only [Act.put]); (try simp only [List.setIfInBounds_toArray]); (try simp only [List.set_cons_succ]); (try simp only [List.set_cons_zero])
    refine wpAnyH_take (i := 5) (v := ?_) (by simp only [List.getElem?_toArray, List.getElem?_cons_succ, List.getElem?_cons_zero]; rfl) (by kernel_rfl) (by kernel_rfl) (by kernel_rfl) (by exact fun _ _ _ h => h) (Or.inl ⟨by rfl, ?_⟩) (by assumption) ?_; rotate_left; focus (intro w hSw; (try dsimp only at hSw); first | (go_simp; done) | (go_simp; with_reducible rfl))
    (try simp only [Act.put]); (try simp only [List.setIfInBounds_toArray]); (try simp only [List.set_cons_succ]); (try simp only [List.set_cons_zero])
    refine wpAnyH_done (by kernel_rfl) ?_ _
    go_wp2
    go_ret
    exact ⟨ret_int E.out.symm, B2.out.trans (B5.out.mono B2.out.size)⟩
end Go.Proofs.Ytphagahhhfiiaaa
