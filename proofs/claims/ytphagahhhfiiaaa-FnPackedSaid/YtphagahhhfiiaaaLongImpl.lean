
/- Lock chambers, the program's side: longestPrefix: contract. -/
import Derived.Test.YtphagahhhfiiaaaPackImpl
import Derived.Test.YtphagahhhfiiaaaLongMath
namespace Go.Proofs.Ytphagahhhfiiaaa
open Go.RowKit
set_option maxRecDepth 100000

set_option maxHeartbeats 8000000 in
theorem implLongestPrefix (k : ChamberD) (yl : Value) (l : List Int) (w : World) (rl : SlInt w yl l) :
    Calls Try.prog 39 #[k.val, yl] w fun e w' => e = .returned (.int .i64 ((longN k l : Nat) : Int)) ∧ Below w.heap.size w w' := by
  obtain ⟨W0, hW0⟩ : ∃ W0, W0 = (w.alloc (.cells #[.int .i64 k.length, .int .i64 k.lanes, .int .i64 k.minutes] 24)) := ⟨_, rfl⟩
  have B := Lib.hid (Joins.below_alloc1 w (.cells #[.int .i64 k.length, .int .i64 k.lanes, .int .i64 k.minutes] 24))
  have K := Lib.hid (Blk.new w #[.int .i64 k.length, .int .i64 k.lanes, .int .i64 k.minutes] 24)
  have HW0 := Lib.hid hW0
  rw [← hW0] at B K
  clear hW0
  have R := Lib.hid (SlOf.below rl B.out)
  have hlm := rl.1
  obtain ⟨A1, c1, rfl⟩ := SlOf.form rl
  obtain ⟨m, hm⟩ : ∃ m, l.length = m := ⟨_, rfl⟩
  have HM := Lib.hid hm
  have hcap : 0 < m → m ≤ c1 := fun h0 => by
    rcases rl.2 with ⟨he, _⟩ | ⟨g, o, c, e, _, hc, _⟩
    · rw [he] at hm; simp at hm; omega
    · injection e with _ _ e3; omega
  rw [hm] at hlm R ⊢
  have HCAP := Lib.hid hcap
  clear rl hm hcap
  go_enter Try.func39, Try.ntmps39
  go_wp2
  rw [← HW0.out]
  go_loopw [10] (fun t wr => ∃ n : Nat, n ≤ m ∧ t = .int .i64 (n : Int) ∧ Hid (longN k l = longR (preB k l) n (m - n)) ∧ Hid (Below W0.heap.size W0 wr)) (fun t _ => m - (intOf t).toNat)
  case atStart => exact ⟨0, Nat.zero_le _, rfl, Lib.hid (by unfold longN; rw [HM.out]; rfl), Lib.hid (Below.refl _ _)⟩
  case round =>
    obtain ⟨n, hn, rfl, hE, hb⟩ := hrel
    have Br := Lib.hid (B.out.trans (hb.out.mono B.out.size))
    by_cases hlt : n < m
    rotate_left
    · obtain rfl : n = m := by omega
      have E := Lib.hid (show longN k l = n by rw [hE.out, Nat.sub_self]; rfl)
      go_wp2
      go_ret
      exact ⟨ret_int (by rw [E.out]), Br.out⟩
    have hlti : (n : Int) < (m : Int) := by omega
    have hcap := HCAP.out (by omega)
    have hn1c : n + 1 ≤ c1 := by omega
    have hw1 : IntKind.i64.wrap ((n : Int) + 1) = ((n + 1 : Nat) : Int) := by rw [IntKind.wrap_i64]; omega
    obtain ⟨mj, hmj⟩ : ∃ mj, m - n = mj + 1 := ⟨m - n - 1, by omega⟩
    have E1 := Lib.hid (show longN k l = longR (preB k l) n (mj + 1) by rw [hE.out, hmj])
    have HMJ := Lib.hid (show m - (n + 1) = mj by omega)
    have hd := (Below.refl wr.heap.size wr).drew
    have RW := Lib.hid (SlOf.takeP (k := n + 1) (l := l) (A := A1) (c := c1) (by rw [HM.out]; exact SlOf.below (SlOf.below R.out hb.out) hd) (by rw [HM.out]; omega))
    have b1 := Lib.hid (hb.out.trans (hd.mono hb.out.size))
    obtain ⟨t, ht⟩ : ∃ t, preB k l n = t := ⟨_, rfl⟩
    have HT := Lib.hid ht
    have C := implPackShips k _ _ _ RW.out
    rw [show (packO k (l.take (n + 1))).isSome = t from ht] at C
    have HC := Lib.hid C
    obtain ⟨w2, hw2⟩ : ∃ W, W = wr.drew := ⟨_, rfl⟩
    have K2 := Lib.hid ((K.out.below hb.out).below hd)
    rw [← hw2] at HC b1 RW K2
    have HW2 := Lib.hid hw2
    clear hd hw2 hmj ht C hcap
    have e0 : wr.cell? ⟨w.heap.size, 0, none⟩ = some (.int .i64 k.length) := (K.out.below hb.out).cell 0
    have C0 := Lib.hid (show w2.cell? ⟨w.heap.size, 0, none⟩ = some (.int .i64 k.length) from K2.out.cell 0)
    have e1 : wr.cell? ⟨w.heap.size, 1, none⟩ = some (.int .i64 k.lanes) := (K.out.below hb.out).cell 1
    have C1 := Lib.hid (show w2.cell? ⟨w.heap.size, 1, none⟩ = some (.int .i64 k.lanes) from K2.out.cell 1)
    have e2 : wr.cell? ⟨w.heap.size, 2, none⟩ = some (.int .i64 k.minutes) := (K.out.below hb.out).cell 2
    have C2 := Lib.hid (show w2.cell? ⟨w.heap.size, 2, none⟩ = some (.int .i64 k.minutes) from K2.out.cell 2)
    go_upto_region 4 with fail
    refine wp_region_held_drew (S := (fun w' => w'.cell? ⟨w.heap.size, 0, none⟩ = some (.int .i64 k.length) ∧ w'.cell? ⟨w.heap.size, 1, none⟩ = some (.int .i64 k.lanes) ∧ w'.cell? ⟨w.heap.size, 2, none⟩ = some (.int .i64 k.minutes))) (by kernel_rfl) ?_ (fun hHeld => ?_)
    · (try dsimp only); go_keep
    rw [← HW2.out] at hHeld ⊢
    clear e0 e1 e2
    refine wpAnyH_take (i := 0) (v := ?_) (by simp only [List.getElem?_toArray, List.getElem?_cons_zero]; rfl) (by kernel_rfl) (by kernel_rfl) (by kernel_rfl) (by exact fun _ _ _ h => h) (Or.inl ⟨by rfl, ?_⟩) (by assumption) ?_; rotate_left; focus (intro w hSw; (try dsimp only at hSw); first | (go_simp; done) | (go_simp; with_reducible rfl))
    (try simp only [Act.put]); (try simp only [List.setIfInBounds_toArray]); (try simp only [List.set_cons_succ]); (try simp only [List.set_cons_zero])
    refine wpAnyH_take (i := 1) (v := ?_) (by simp only [List.getElem?_toArray, List.getElem?_cons_succ, List.getElem?_cons_zero]; rfl) (by kernel_rfl) (by kernel_rfl) (by kernel_rfl) (by exact fun _ _ _ h => h) (Or.inl ⟨by rfl, ?_⟩) (by assumption) ?_; rotate_left; focus (intro w hSw; (try dsimp only at hSw); first | (go_simp; done) | (go_simp; with_reducible rfl))
    (try simp only [Act.put]); (try simp only [List.setIfInBounds_toArray]); (try simp only [List.set_cons_succ]); (try simp only [List.set_cons_zero])
    refine wpAnyH_take (i := 2) (v := ?_) (by simp only [List.getElem?_toArray, List.getElem?_cons_succ, List.getElem?_cons_zero]; rfl) (by kernel_rfl) (by kernel_rfl) (by kernel_rfl) (by exact fun _ _ _ h => h) (Or.inl ⟨by rfl, ?_⟩) (by assumption) ?_; rotate_left; focus (intro w hSw; (try dsimp only at hSw); first | (go_simp; done) | (go_simp; with_reducible rfl))
    (try simp only [Act.put]); (try simp only [List.setIfInBounds_toArray]); (try simp only [List.set_cons_succ]); (try simp only [List.set_cons_zero])
    refine wpAnyH_take (i := 3) (v := ?_) (by simp only [List.getElem?_toArray, List.getElem?_cons_succ, List.getElem?_cons_zero]; rfl) (by kernel_rfl) (by kernel_rfl) (by kernel_rfl) (by exact fun _ _ _ h => h) (Or.inl ⟨by rfl, ?_⟩) (by assumption) ?_; rotate_left; focus (intro w hSw; (try dsimp only at hSw); first | (go_simp; done) | (go_simp; with_reducible rfl))
    (try simp only [Act.put]); (try simp only [List.setIfInBounds_toArray]); (try simp only [List.set_cons_succ]); (try simp only [List.set_cons_zero])
    have hbd : (0 : Int) ≤ (n : Int) + 1 ∧ (n : Int) + 1 ≤ (c1 : Int) := by omega
    refine wpAnyH_take (i := 4) (v := ?_) (by simp only [List.getElem?_toArray, List.getElem?_cons_succ, List.getElem?_cons_zero]; rfl) (by kernel_rfl) (by kernel_rfl) (by kernel_rfl) (by exact fun _ _ _ h => h) (Or.inl ⟨by rfl, ?_⟩) (by assumption) ?_; rotate_left; focus (intro w hSw; (try dsimp only at hSw); first | (go_simp; done) | (go_simp; with_reducible rfl) | (go_simp; rw [if_pos hbd]))
    (try simp only [Act.put]); (try simp only [List.setIfInBounds_toArray]); (try simp only [List.set_cons_succ]); (try simp only [List.set_cons_zero])
    refine wpAnyH_ready (rs := [5]) (by kernel_rfl) (by simp) ?_
    refine AllReadyH.cons rfl (fun K hK => ?_) AllReadyH.nil
    rw [if_pos (by rfl)]
    go_simp
    go_at_call 13
    refine HC.out.mono ?_
    rintro e w3 ⟨v, rfl, -, hb3⟩
    have HB3 := Lib.hid hb3
    clear hb3
    go_simp
    refine hK.out _ _ ⟨cell_onV C0.out HB3.out, cell_onV C1.out HB3.out, cell_onV C2.out HB3.out⟩ (fun hHeld => ?_)
    clear hK K
    (try simp only [Act.put]); (try simp only [List.setIfInBounds_toArray]); (try simp only [List.set_cons_succ]); (try simp only [List.set_cons_zero])
    refine wpAnyH_take (i := 6) (v := ?_) (by simp only [List.getElem?_toArray, List.getElem?_cons_succ, List.getElem?_cons_zero]; rfl) (by kernel_rfl) (by kernel_rfl) (by kernel_rfl) (by exact fun _ _ _ h => h) (Or.inl ⟨by rfl, ?_⟩) (by assumption) ?_; rotate_left; focus (intro w hSw; (try dsimp only at hSw); first | (go_simp; done) | (go_simp; with_reducible rfl))
    (try simp only [Act.put]); (try simp only [List.setIfInBounds_toArray]); (try simp only [List.set_cons_succ]); (try simp only [List.set_cons_zero])
    refine wpAnyH_take (i := 7) (v := ?_) (by simp only [List.getElem?_toArray, List.getElem?_cons_succ, List.getElem?_cons_zero]; rfl) (by kernel_rfl) (by kernel_rfl) (by kernel_rfl) (by exact fun _ _ _ h => h) (Or.inl ⟨by rfl, ?_⟩) (by assumption) ?_; rotate_left; focus (intro w hSw; (try dsimp only at hSw); first | (go_simp; done) | (go_simp; with_reducible rfl))
    (try simp only [Act.put]); (try simp only [List.setIfInBounds_toArray]); (try simp only [List.set_cons_succ]); (try simp only [List.set_cons_zero])
    refine wpAnyH_take (i := 8) (v := ?_) (by simp only [List.getElem?_toArray, List.getElem?_cons_succ, List.getElem?_cons_zero]; rfl) (by kernel_rfl) (by kernel_rfl) (by kernel_rfl) (by exact fun _ _ _ h => h) (Or.inl ⟨by rfl, ?_⟩) (by assumption) ?_; rotate_left; focus (intro w hSw; (try dsimp only at hSw); first | (go_simp; done) | (go_simp; with_reducible rfl))
    (try simp only [Act.put]); (try simp only [List.setIfInBounds_toArray]); (try simp only [List.set_cons_succ]); (try simp only [List.set_cons_zero])
    refine wpAnyH_take (i := 9) (v := ?_) (by simp only [List.getElem?_toArray, List.getElem?_cons_succ, List.getElem?_cons_zero]; rfl) (by kernel_rfl) (by kernel_rfl) (by kernel_rfl) (by exact fun _ _ _ h => h) (Or.inl ⟨by rfl, ?_⟩) (by assumption) ?_; rotate_left; focus (intro w hSw; (try dsimp only at hSw); first | (go_simp; done) | (go_simp; with_reducible rfl))
    (try simp only [Act.put]); (try simp only [List.setIfInBounds_toArray]); (try simp only [List.set_cons_succ]); (try simp only [List.set_cons_zero])
    refine wpAnyH_take (i := 10) (v := ?_) (by simp only [List.getElem?_toArray, List.getElem?_cons_succ, List.getElem?_cons_zero]; rfl) (by kernel_rfl) (by kernel_rfl) (by kernel_rfl) (by exact fun _ _ _ h => h) (Or.inl ⟨by rfl, ?_⟩) (by assumption) ?_; rotate_left; focus (intro w hSw; (try dsimp only at hSw); first | (go_simp; done) | (go_simp; with_reducible rfl))
    (try simp only [Act.put]); (try simp only [List.setIfInBounds_toArray]); (try simp only [List.set_cons_succ]); (try simp only [List.set_cons_zero])
    refine wpAnyH_done (by kernel_rfl) ?_ _
    have b3 := Lib.hid (b1.out.trans (HB3.out.mono b1.out.size))
    clear hHeld
    cases t with
    | false =>
      have E := Lib.hid (show longN k l = n by rw [E1.out, longR_no HT.out])
      go_wp2
      go_ret
      exact ⟨ret_int (by rw [E.out]), B.out.trans (b3.out.mono B.out.size)⟩
    | true =>
      have EN := Lib.hid (show longN k l = longR (preB k l) (n + 1) (m - (n + 1)) by rw [E1.out, longR_yes HT.out, HMJ.out])
      go_wp2
      go_roundw
      case rel => exact ⟨n + 1, by omega, by go_num, EN, b3⟩
      case measure => simp [intOf]; omega
end Go.Proofs.Ytphagahhhfiiaaa
