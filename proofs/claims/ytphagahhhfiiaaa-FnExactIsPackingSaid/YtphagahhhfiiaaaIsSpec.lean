
/- Lock chambers, the model's side: IsPacking: contract. -/
import Derived.Test.YtphagahhhfiiaaaPackShips
import Derived.Test.YtphagahhhfiiaaaIsMath
namespace Go.Proofs.Ytphagahhhfiiaaa
open Go.RowKit
set_option maxRecDepth 100000

/-- What lies in the lanes behind the first i ships. -/
def RowTo (l s : List Int) (i a : Nat) (us : List Int) : Prop := us.length = a ∧ ∀ j : Nat, j < a → us.getD j 0 = sumIn (l.take i) (s.take i) j
theorem RowTo.zero (l s : List Int) (a : Nat) : RowTo l s 0 a (List.replicate a 0) := ⟨by simp, fun j hj => by rw [List.getD, List.getElem?_replicate, if_pos hj]; simp [sumIn]⟩
theorem RowTo.next {l s : List Int} {i a y : Nat} {us : List Int} {x : Int} (h : RowTo l s i a us) (hx : l[i]? = some x) (hy : s[i]? = some (y : Int)) (hya : y < a) : RowTo l s (i + 1) a (us.set y (us.getD y 0 + x)) := ⟨by simpa using h.1, fun j hj => by
  rw [sumIn_snoc hx hy]
  by_cases e : y = j
  · subst e
    rw [getD_set_same _ _ _ (by rw [h.1]; exact hya), h.2 y hya, if_pos rfl]
  · rw [getD_set_other _ _ e, h.2 j hj, if_neg (by omega)]; omega⟩


set_option maxHeartbeats 16000000 in
theorem specIsPacking (k : ChamberD) (yl : Value) (l : List Int) (ys : Value) (s : List Int) (w : World) (rl : SlInt w yl l) (rs : SlInt w ys s) :
    Calls Try.prog 26 #[k.val, yl, ys] w (fun e w' => e = .returned (.bool (packB k l s)) ∧ Below w.heap.size w w') := by
  have Rl := Lib.hid rl
  obtain ⟨Al, cl, rfl⟩ := SlOf.form rl
  clear rl
  have Rs := Lib.hid rs
  obtain ⟨As, cs, rfl⟩ := SlOf.form rs
  clear rs
  obtain ⟨W0, hW0⟩ : ∃ W0, W0 = (w.alloc (.cells #[.int .i64 k.length, .int .i64 k.lanes, .int .i64 k.minutes] 24)) := ⟨_, rfl⟩
  have B := Lib.hid (Joins.below_alloc1 w (.cells #[.int .i64 k.length, .int .i64 k.lanes, .int .i64 k.minutes] 24))
  have Kk := Lib.hid (Blk.new w #[.int .i64 k.length, .int .i64 k.lanes, .int .i64 k.minutes] 24)
  have HW0 := Lib.hid hW0
  rw [← hW0] at B Kk
  clear hW0
  obtain ⟨b1, hb1⟩ : ∃ b, chamB k = b := ⟨_, rfl⟩
  have Hb1 := Lib.hid hb1
  obtain ⟨b2, hb2⟩ : ∃ b, lensB l = b := ⟨_, rfl⟩
  have Hb2 := Lib.hid hb2
  cases b1 with
  | false =>
    have E := Lib.hid (packB_bad (k := k) (l := l) (s := s) (by rw [hb1]; simp))
    clear hb1 hb2
    go_enter Try.func26, Try.ntmps26
    have vk0 : W0.cell? ⟨w.heap.size, 0, none⟩ = some (.int .i64 k.length) := Kk.out.cell 0
    have vk1 : W0.cell? ⟨w.heap.size, 1, none⟩ = some (.int .i64 k.lanes) := Kk.out.cell 1
    have vk2 : W0.cell? ⟨w.heap.size, 2, none⟩ = some (.int .i64 k.minutes) := Kk.out.cell 2
    go_wp2_with fail
    rw [← HW0.out]
    clear vk0 vk1 vk2
    refine (specChamberOk k _).mono ?_
    rw [Hb1.out]
    rintro e w1 ⟨rfl, hb1⟩
    have B1 := Lib.hid (B.out.trans (hb1.mono B.out.size))
    have Kk_1 := Lib.hid (Kk.out.below hb1)
    clear hb1
    have vk0 : w1.cell? ⟨w.heap.size, 0, none⟩ = some (.int .i64 k.length) := Kk_1.out.cell 0
    have vk1 : w1.cell? ⟨w.heap.size, 1, none⟩ = some (.int .i64 k.lanes) := Kk_1.out.cell 1
    have vk2 : w1.cell? ⟨w.heap.size, 2, none⟩ = some (.int .i64 k.minutes) := Kk_1.out.cell 2
    go_wp2
    go_ret
    exact ⟨ret_bool E.out.symm, B1.out⟩
  | true =>
  cases b2 with
  | false =>
    have E := Lib.hid (packB_bad (k := k) (l := l) (s := s) (by rw [hb2]; simp))
    clear hb1 hb2
    go_enter Try.func26, Try.ntmps26
    have vk0 : W0.cell? ⟨w.heap.size, 0, none⟩ = some (.int .i64 k.length) := Kk.out.cell 0
    have vk1 : W0.cell? ⟨w.heap.size, 1, none⟩ = some (.int .i64 k.lanes) := Kk.out.cell 1
    have vk2 : W0.cell? ⟨w.heap.size, 2, none⟩ = some (.int .i64 k.minutes) := Kk.out.cell 2
    go_wp2_with fail
    rw [← HW0.out]
    clear vk0 vk1 vk2
    refine (specChamberOk k _).mono ?_
    rw [Hb1.out]
    rintro e w1 ⟨rfl, hb1⟩
    have B1 := Lib.hid (B.out.trans (hb1.mono B.out.size))
    have Kk_1 := Lib.hid (Kk.out.below hb1)
    clear hb1
    have vk0 : w1.cell? ⟨w.heap.size, 0, none⟩ = some (.int .i64 k.length) := Kk_1.out.cell 0
    have vk1 : w1.cell? ⟨w.heap.size, 1, none⟩ = some (.int .i64 k.lanes) := Kk_1.out.cell 1
    have vk2 : w1.cell? ⟨w.heap.size, 2, none⟩ = some (.int .i64 k.minutes) := Kk_1.out.cell 2
    go_wp2_with fail
    clear vk0 vk1 vk2
    refine (specLengthsOk _ l _ (Rl.out.below B1.out)).mono ?_
    rw [Hb2.out]
    rintro e w2 ⟨rfl, hb2⟩
    have B2 := Lib.hid (B1.out.trans (hb2.mono B1.out.size))
    have Kk_2 := Lib.hid (Kk_1.out.below hb2)
    clear hb2
    have vk0 : w2.cell? ⟨w.heap.size, 0, none⟩ = some (.int .i64 k.length) := Kk_2.out.cell 0
    have vk1 : w2.cell? ⟨w.heap.size, 1, none⟩ = some (.int .i64 k.lanes) := Kk_2.out.cell 1
    have vk2 : w2.cell? ⟨w.heap.size, 2, none⟩ = some (.int .i64 k.minutes) := Kk_2.out.cell 2
    go_wp2
    go_ret
    exact ⟨ret_bool E.out.symm, B2.out⟩
  | true =>
  obtain ⟨z, hz⟩ : ∃ z, l.length = z := ⟨_, rfl⟩
  obtain ⟨z2, hz2⟩ : ∃ z, s.length = z := ⟨_, rfl⟩
  have HM := Lib.hid hz
  have HZ := Lib.hid hz2
  have h8 := lensB_len hb2
  rw [hz] at h8
  have hsm : z2 ≤ 1000000000 := by rw [← hz2]; exact Rs.out.1
  obtain ⟨kl0, kl1, ka0, ka1, -, -⟩ := chamB_true hb1
  obtain ⟨a, ha⟩ : ∃ a, k.lanes.toNat = a := ⟨_, rfl⟩
  have hka : k.lanes = (a : Int) := by omega
  have ha3 : a ≤ 3 := by omega
  have HKA := Lib.hid hka
  have HAA := Lib.hid ha
  clear hb1 hb2 hz hz2 ha hka
  go_enter Try.func26, Try.ntmps26
  have vk0 : W0.cell? ⟨w.heap.size, 0, none⟩ = some (.int .i64 k.length) := Kk.out.cell 0
  have vk1 : W0.cell? ⟨w.heap.size, 1, none⟩ = some (.int .i64 k.lanes) := Kk.out.cell 1
  have vk2 : W0.cell? ⟨w.heap.size, 2, none⟩ = some (.int .i64 k.minutes) := Kk.out.cell 2
  go_wp2_with fail
  rw [← HW0.out]
  clear vk0 vk1 vk2
  refine (specChamberOk k _).mono ?_
  rw [Hb1.out]
  rintro e w1 ⟨rfl, hb1⟩
  have B1 := Lib.hid (B.out.trans (hb1.mono B.out.size))
  have Kk_1 := Lib.hid (Kk.out.below hb1)
  clear hb1
  have vk0 : w1.cell? ⟨w.heap.size, 0, none⟩ = some (.int .i64 k.length) := Kk_1.out.cell 0
  have vk1 : w1.cell? ⟨w.heap.size, 1, none⟩ = some (.int .i64 k.lanes) := Kk_1.out.cell 1
  have vk2 : w1.cell? ⟨w.heap.size, 2, none⟩ = some (.int .i64 k.minutes) := Kk_1.out.cell 2
  go_wp2_with fail
  clear vk0 vk1 vk2
  refine (specLengthsOk _ l _ (Rl.out.below B1.out)).mono ?_
  rw [Hb2.out]
  rintro e w2 ⟨rfl, hb2⟩
  have B2 := Lib.hid (B1.out.trans (hb2.mono B1.out.size))
  have Kk_2 := Lib.hid (Kk_1.out.below hb2)
  clear hb2
  have R1 := Lib.hid (SlOf.below Rl.out B2.out)
  have S1 := Lib.hid (SlOf.below Rs.out B2.out)
  rw [HM.out] at R1
  rw [HZ.out] at S1
  try rw [HM.out]
  try rw [HZ.out]
  by_cases hzm : z2 = z
  rotate_left
  · have E := Lib.hid (packB_len (k := k) (l := l) (s := s) (by rw [HM.out, HZ.out]; exact hzm))
    have hne : ((z2 : Int) != (z : Int)) = true := by simp; omega
    clear hzm
    have vk0 : w2.cell? ⟨w.heap.size, 0, none⟩ = some (.int .i64 k.length) := Kk_2.out.cell 0
    have vk1 : w2.cell? ⟨w.heap.size, 1, none⟩ = some (.int .i64 k.lanes) := Kk_2.out.cell 1
    have vk2 : w2.cell? ⟨w.heap.size, 2, none⟩ = some (.int .i64 k.minutes) := Kk_2.out.cell 2
    go_wp2
    go_ret
    exact ⟨ret_bool E.out.symm, B2.out⟩
  subst hzm
  have hne : ((z2 : Int) != (z2 : Int)) = false := by simp
  have hka := HKA.out
  have hmk := make_ints a (by omega)
  rw [← hka, made_zero a (by omega)] at hmk
  clear hka
  have vk0 : w2.cell? ⟨w.heap.size, 0, none⟩ = some (.int .i64 k.length) := Kk_2.out.cell 0
  have vk1 : w2.cell? ⟨w.heap.size, 1, none⟩ = some (.int .i64 k.lanes) := Kk_2.out.cell 1
  have vk2 : w2.cell? ⟨w.heap.size, 2, none⟩ = some (.int .i64 k.minutes) := Kk_2.out.cell 2
  go_wp2
  have KU := Blk.new w2 (rowI (List.replicate a 0)) 3
  have hal := Joins.below_alloc1 w2 (.cells (rowI (List.replicate a 0)) 3)
  obtain ⟨W2, hW2⟩ : ∃ X, X = w2.alloc (.cells (rowI (List.replicate a 0)) 3) := ⟨_, rfl⟩
  rw [← hW2] at KU hal
  have HW2 := Lib.hid hW2
  have KU := Lib.hid KU
  have HAL := Lib.hid hal
  clear hW2 hal hmk hne vk0 vk1 vk2
  have HG := Lib.hid (show True from trivial)
  try rw [← HW2.out]
  go_loopw [30] (fun t wr => ∃ (i : Nat) (us : List Int), i ≤ z2 ∧ t = .int .i64 (i : Int) ∧ Hid (Blk wr w2.heap.size (rowI us) 3) ∧ Hid (RowTo l s i a us) ∧ Hid (IsTo k l s i) ∧ Hid (Below w2.heap.size w2 wr)) (fun t _ => z2 - (intOf t).toNat)
  case atStart => exact ⟨0, _, Nat.zero_le _, rfl, KU, Lib.hid (RowTo.zero l s a), Lib.hid (IsTo.zero l s Hb1.out), HAL⟩
  case round =>
    obtain ⟨i, us, hi, rfl, hK, hU, hT, hb⟩ := hrel
    have Br := Lib.hid (B2.out.trans (hb.out.mono B2.out.size))
    by_cases hlt : i < z2
    rotate_left
    · obtain rfl : i = z2 := by omega
      have E := Lib.hid (IsTo.all (by rw [HM.out]; exact hT.out) Hb1.out Hb2.out (by rw [HM.out, HZ.out]))
      go_wp2
      go_ret
      exact ⟨ret_bool E.out.symm, Br.out⟩
    have hlti : (i : Int) < (z2 : Int) := by omega
    obtain ⟨x, hx⟩ : ∃ x, l[i]? = some x := ⟨_, List.getElem?_eq_getElem (by have := HM.out; omega)⟩
    obtain ⟨y, hy⟩ : ∃ y, s[i]? = some y := ⟨_, List.getElem?_eq_getElem (by have := HZ.out; omega)⟩
    have hxb := lensB_at Hb2.out hx
    have HX := Lib.hid hx
    have HY := Lib.hid hy
    rcases R1.out.2 with ⟨he, _⟩ | ⟨gl, ol, cl', e, lpos, lcap, lc⟩
    · rw [he] at hx; simp at hx
    injection e with ea e2 e3
    subst ea
    clear e2 e3 lpos lcap
    rcases S1.out.2 with ⟨he, _⟩ | ⟨gs, os, cs', e, spos, scap, sc⟩
    · rw [he] at hy; simp at hy
    injection e with ea e2 e3
    subst ea
    clear e2 e3 spos scap
    have YX := Lib.hid (SlInt.cells lc i x hx)
    have YY := Lib.hid (SlInt.cells sc i y hy)
    clear lc sc hx hy
    have yx : wr.cell? ⟨gl, ol + i, none⟩ = some (.int .i64 x) := cell_onV YX.out hb.out
    have yy : wr.cell? ⟨gs, os + i, none⟩ = some (.int .i64 y) := cell_onV YY.out hb.out
    have c1 : wr.cell? ⟨w.heap.size, 1, none⟩ = some (.int .i64 k.lanes) := (Kk_2.out.below hb.out).cell 1
    have wl : IntKind.i64.wrap (k.lanes - 1) = k.lanes - 1 := by rw [IntKind.wrap_i64]; omega
    go_upto_region 7 with fail
    go_still_tail 7, (by kernel_rfl)
    change wpList _ _ _ _ _ wr.drew
    have hd := (Below.refl wr.heap.size wr).drew
    have b2 := hb.out.trans (hd.mono hb.out.size)
    have K2 := hK.out.drew
    obtain ⟨x2, hw2⟩ : ∃ X, X = wr.drew := ⟨_, rfl⟩
    rw [← hw2] at b2 K2 ⊢
    have HB2 := Lib.hid b2
    have HK2 := Lib.hid K2
    clear hd hw2 b2 K2 yx yy c1
    obtain ⟨t, ht⟩ : ∃ t, inB y 0 (k.lanes - 1) = t := ⟨_, rfl⟩
    have HT := Lib.hid ht
    clear ht
    go_wp2_with fail
    refine (l01In_any _ _ _ _).mono ?_
    rw [HT.out]
    rintro e w3 ⟨rfl, rfl⟩
    cases t with
    | false =>
      have E := Lib.hid (packB_off (k := k) (l := l) HY.out HT.out)
      go_wp2
      go_ret
      exact ⟨ret_bool E.out.symm, B2.out.trans (HB2.out.mono B2.out.size)⟩
    | true =>
      have hyb := of_decide_eq_true HT.out
      obtain ⟨n, rfl⟩ : ∃ n : Nat, y = (n : Int) := ⟨y.toNat, by omega⟩
      have hna : n < a := by have := HKA.out; omega
      have HUN := Lib.hid (hU.out.2 n hna)
      have huL := hT.out.2 n (by rw [HAA.out]; exact hna)
      obtain ⟨u, hu⟩ : ∃ u, us.getD n 0 = u := ⟨_, rfl⟩
      have hu0 : 0 ≤ u ∧ u ≤ k.length := by rw [← hu, hU.out.2 n hna]; exact ⟨sumIn_pos' (fun q hq => by obtain ⟨t, ht, e⟩ := List.getElem_of_mem (List.mem_of_mem_take hq); have := lensB_at Hb2.out (show l[t]? = some q by rw [List.getElem?_eq_getElem ht, e]); omega), huL⟩
      have HU := Lib.hid hu
      have yu : x2.cell? ⟨w2.heap.size, n, none⟩ = some (.int .i64 u) := by rw [← hu]; exact (HK2.out.cell n).trans (rowI_at (by rw [hU.out.1]; exact hna))
      have yy : x2.cell? ⟨gs, os + i, none⟩ = some (.int .i64 (n : Int)) := cell_onV YY.out HB2.out
      have fu : x2.frozen? ⟨w2.heap.size, n, none⟩ = false := HK2.out.free n
      have wux : IntKind.i64.wrap (u + x) = u + x := by rw [IntKind.wrap_i64]; omega
      have hnai : (n : Int) < (a : Int) := by omega
      have K3 := HK2.out.drew
      have b3 := HB2.out.trans ((Below.refl x2.heap.size x2).drew.mono HB2.out.size)
      clear hu huL hyb
      go_upto_region 9 with fail
      go_still_tail 15, (by kernel_rfl)
      change wpList _ _ _ _ _ x2.drew
      obtain ⟨w4, hw4⟩ : ∃ X, X = x2.drew := ⟨_, rfl⟩
      have yu4 : w4.cell? ⟨w2.heap.size, n, none⟩ = some (.int .i64 u) := by rw [hw4]; exact yu
      have fu4 : w4.frozen? ⟨w2.heap.size, n, none⟩ = false := by rw [hw4]; exact fu
      rw [← hw4] at K3 b3 ⊢
      clear hw4 yu fu yy
      go_upto_region 10 with fail
      have K4 := K3.set n (.int .i64 (u + x))
      rw [rowI_set] at K4
      have b4 := b3.grown (grown_set1 w4 w2.heap.size n (.int .i64 (u + x))) b3.size (fun j e => by have := Option.some.inj e; omega)
      obtain ⟨w5, hw5⟩ : ∃ X, X = w4.setCell ⟨w2.heap.size, n, none⟩ (.int .i64 (u + x)) := ⟨_, rfl⟩
      rw [← hw5] at K4 b4 ⊢
      have HK4 := Lib.hid K4
      have HB4 := Lib.hid b4
      have RN := Lib.hid (show RowTo l s (i + 1) a (us.set n (u + x)) by rw [← HU.out]; exact hU.out.next HX.out HY.out hna)
      have yu5 : w5.cell? ⟨w2.heap.size, n, none⟩ = some (.int .i64 (u + x)) := (K4.cell n).trans ((rowI_at (by rw [List.length_set, hU.out.1]; exact hna)).trans (by rw [getD_set_same _ _ _ (by rw [hU.out.1]; exact hna)]))
      have yy5 : w5.cell? ⟨gs, os + i, none⟩ = some (.int .i64 (n : Int)) := cell_onV YY.out b4
      have c5 : w5.cell? ⟨w.heap.size, 0, none⟩ = some (.int .i64 k.length) := (Kk_2.out.below b4).cell 0
      clear hw5 K3 b3 K4 b4 yu4 fu4
      have hd5 := (Below.refl w5.heap.size w5).drew
      have K5 := HK4.out.drew
      have b5 := HB4.out.trans (hd5.mono HB4.out.size)
      go_still_tail 9, (by kernel_rfl)
      change wpList _ _ _ _ _ w5.drew
      obtain ⟨w6, hw6⟩ : ∃ X, X = w5.drew := ⟨_, rfl⟩
      rw [← hw6] at K5 b5 ⊢
      have HK5 := Lib.hid K5
      have HB5 := Lib.hid b5
      clear hw6 hd5 K5 b5 yu5 yy5 c5
      by_cases hov : u + x ≤ k.length
      rotate_left
      · have E := Lib.hid (packB_over (k := k) Hb2.out HX.out HY.out HT.out (by rw [Int.toNat_natCast, ← HUN.out, HU.out]; exact hov))
        have t1 : decide (k.length < u + x) = true := decide_eq_true (by omega)
        go_wp2
        go_ret
        exact ⟨ret_bool E.out.symm, B2.out.trans (HB5.out.mono B2.out.size)⟩
      have IN := Lib.hid (IsTo.next hT.out HX.out HY.out HT.out (by rw [Int.toNat_natCast, ← HUN.out, HU.out]; exact hov))
      have t1 : decide (k.length < u + x) = false := decide_eq_false (by omega)
      have t2 : ¬ k.length < u + x := by omega
      go_wp2
      go_roundw
      case rel => exact ⟨i + 1, _, by omega, by go_num, HK5, RN, IN, HB5⟩
      case measure => simp [intOf]; omega
end Go.Proofs.Ytphagahhhfiiaaa
