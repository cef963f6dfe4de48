
/- Lock chambers, the model's side: MostShips: contract. -/
import Derived.Test.YtphagahhhfiiaaaPackShips
import Derived.Test.YtphagahhhfiiaaaMostMath
import Derived.Test.YtphagahhhfiiaaaSomeSpec
namespace Go.Proofs.Ytphagahhhfiiaaa
open Go.RowKit
set_option maxRecDepth 100000


set_option maxHeartbeats 8000000 in
theorem specMostShips (k : ChamberD) (yl : Value) (l : List Int) (w : World) (rl : SlInt w yl l) :
    Calls Try.prog 30 #[k.val, yl] w (fun e w' => e = .returned (.int .i64 (mostI k l)) ∧ Below w.heap.size w w') := by
  have Rl := Lib.hid rl
  obtain ⟨Al, cl, rfl⟩ := SlOf.form rl
  clear rl
  obtain ⟨W0, hW0⟩ : ∃ W0, W0 = (w.alloc (.cells #[.int .i64 k.length, .int .i64 k.lanes, .int .i64 k.minutes] 24)) := ⟨_, rfl⟩
  have B := Lib.hid (Joins.below_alloc1 w (.cells #[.int .i64 k.length, .int .i64 k.lanes, .int .i64 k.minutes] 24))
  have Kk := Lib.hid (Blk.new w #[.int .i64 k.length, .int .i64 k.lanes, .int .i64 k.minutes] 24)
  have HW0 := Lib.hid hW0
  rw [← hW0] at B Kk
  clear hW0
  obtain ⟨b1, hb1⟩ : ∃ b, chamB k = b := ⟨_, rfl⟩
  have Hb1 := Lib.hid hb1
  obtain ⟨b2, hb2⟩ : ∃ b, lensB l = b := ⟨_, rfl⟩
  have Hb2 := Lib.hid hb2
  cases b1 with
  | false =>
    have E := Lib.hid (mostI_bad (l := l) (k := k) (by rw [hb1]; simp))
    clear hb1 hb2
    go_enter Try.func30, Try.ntmps30
    have vk0 : W0.cell? ⟨w.heap.size, 0, none⟩ = some (.int .i64 k.length) := Kk.out.cell 0
    have vk1 : W0.cell? ⟨w.heap.size, 1, none⟩ = some (.int .i64 k.lanes) := Kk.out.cell 1
    have vk2 : W0.cell? ⟨w.heap.size, 2, none⟩ = some (.int .i64 k.minutes) := Kk.out.cell 2
    go_wp2_with fail
    rw [← HW0.out]
    clear vk0 vk1 vk2
    refine (specChamberOk k _).mono ?_
    rw [Hb1.out]
    rintro e w1 ⟨rfl, hb1⟩
    have B1 := Lib.hid (B.out.trans (hb1.mono B.out.size))
    have Kk_1 := Lib.hid (Kk.out.below hb1)
    clear hb1
    have vk0 : w1.cell? ⟨w.heap.size, 0, none⟩ = some (.int .i64 k.length) := Kk_1.out.cell 0
    have vk1 : w1.cell? ⟨w.heap.size, 1, none⟩ = some (.int .i64 k.lanes) := Kk_1.out.cell 1
    have vk2 : w1.cell? ⟨w.heap.size, 2, none⟩ = some (.int .i64 k.minutes) := Kk_1.out.cell 2
    go_wp2
    go_ret
    exact ⟨ret_int E.out.symm, B1.out⟩
  | true =>
  cases b2 with
  | false =>
    have E := Lib.hid (mostI_bad (l := l) (k := k) (by rw [hb2]; simp))
    clear hb1 hb2
    go_enter Try.func30, Try.ntmps30
    have vk0 : W0.cell? ⟨w.heap.size, 0, none⟩ = some (.int .i64 k.length) := Kk.out.cell 0
    have vk1 : W0.cell? ⟨w.heap.size, 1, none⟩ = some (.int .i64 k.lanes) := Kk.out.cell 1
    have vk2 : W0.cell? ⟨w.heap.size, 2, none⟩ = some (.int .i64 k.minutes) := Kk.out.cell 2
    go_wp2_with fail
    rw [← HW0.out]
    clear vk0 vk1 vk2
    refine (specChamberOk k _).mono ?_
    rw [Hb1.out]
    rintro e w1 ⟨rfl, hb1⟩
    have B1 := Lib.hid (B.out.trans (hb1.mono B.out.size))
    have Kk_1 := Lib.hid (Kk.out.below hb1)
    clear hb1
    have vk0 : w1.cell? ⟨w.heap.size, 0, none⟩ = some (.int .i64 k.length) := Kk_1.out.cell 0
    have vk1 : w1.cell? ⟨w.heap.size, 1, none⟩ = some (.int .i64 k.lanes) := Kk_1.out.cell 1
    have vk2 : w1.cell? ⟨w.heap.size, 2, none⟩ = some (.int .i64 k.minutes) := Kk_1.out.cell 2
    go_wp2_with fail
    clear vk0 vk1 vk2
    refine (specLengthsOk _ l _ (Rl.out.below B1.out)).mono ?_
    rw [Hb2.out]
    rintro e w2 ⟨rfl, hb2⟩
    have B2 := Lib.hid (B1.out.trans (hb2.mono B1.out.size))
    have Kk_2 := Lib.hid (Kk_1.out.below hb2)
    clear hb2
    have vk0 : w2.cell? ⟨w.heap.size, 0, none⟩ = some (.int .i64 k.length) := Kk_2.out.cell 0
    have vk1 : w2.cell? ⟨w.heap.size, 1, none⟩ = some (.int .i64 k.lanes) := Kk_2.out.cell 1
    have vk2 : w2.cell? ⟨w.heap.size, 2, none⟩ = some (.int .i64 k.minutes) := Kk_2.out.cell 2
    go_wp2
    go_ret
    exact ⟨ret_int E.out.symm, B2.out⟩
  | true =>
  have E0 := mostI_ok hb1 hb2
  obtain ⟨m, hm⟩ : ∃ m, l.length = m := ⟨_, rfl⟩
  have hm8 : m ≤ 8 := by rw [← hm]; exact lensB_len hb2
  have HM := Lib.hid hm
  obtain ⟨T, hT⟩ : ∃ T, 2 ^ m = T := ⟨_, rfl⟩
  have hT2 : T ≤ 256 := by rw [← hT]; exact Nat.pow_le_pow_right (by omega) hm8
  have hT1 : 0 < T := by rw [← hT]; exact Nat.two_pow_pos m
  rw [hm, hT] at E0
  have E := Lib.hid E0
  have HT := Lib.hid hT
  clear hb1 hb2 E0 hm hT
  go_enter Try.func30, Try.ntmps30
  have vk0 : W0.cell? ⟨w.heap.size, 0, none⟩ = some (.int .i64 k.length) := Kk.out.cell 0
  have vk1 : W0.cell? ⟨w.heap.size, 1, none⟩ = some (.int .i64 k.lanes) := Kk.out.cell 1
  have vk2 : W0.cell? ⟨w.heap.size, 2, none⟩ = some (.int .i64 k.minutes) := Kk.out.cell 2
  go_wp2_with fail
  rw [← HW0.out]
  clear vk0 vk1 vk2
  refine (specChamberOk k _).mono ?_
  rw [Hb1.out]
  rintro e w1 ⟨rfl, hb1⟩
  have B1 := Lib.hid (B.out.trans (hb1.mono B.out.size))
  have Kk_1 := Lib.hid (Kk.out.below hb1)
  clear hb1
  have vk0 : w1.cell? ⟨w.heap.size, 0, none⟩ = some (.int .i64 k.length) := Kk_1.out.cell 0
  have vk1 : w1.cell? ⟨w.heap.size, 1, none⟩ = some (.int .i64 k.lanes) := Kk_1.out.cell 1
  have vk2 : w1.cell? ⟨w.heap.size, 2, none⟩ = some (.int .i64 k.minutes) := Kk_1.out.cell 2
  go_wp2_with fail
  clear vk0 vk1 vk2
  refine (specLengthsOk _ l _ (Rl.out.below B1.out)).mono ?_
  rw [Hb2.out]
  rintro e w2 ⟨rfl, hb2⟩
  have B2 := Lib.hid (B1.out.trans (hb2.mono B1.out.size))
  have Kk_2 := Lib.hid (Kk_1.out.below hb2)
  clear hb2
  have RLw := Lib.hid (SlOf.below Rl.out B2.out)
  rw [HM.out] at RLw
  try rw [HM.out]
  have hTi : IntKind.i64.wrap ((2 : Int) ^ m) = (T : Int) := by rw [show ((2 : Int) ^ m) = (T : Int) by rw [← HT.out]; simp, IntKind.wrap_i64]; omega
  have hmi : (m : Int) ≤ 64 := by omega
  go_wp2
  go_loopw [5, 6] (fun s t wr => ∃ b : Nat, b ≤ T ∧ s = .int .i64 ((mostTo k l b : Nat) : Int) ∧ t = .int .i64 (b : Int) ∧ Hid (Below w2.heap.size w2 wr)) (fun _ t _ => T - (intOf t).toNat)
  case atStart => exact ⟨0, Nat.zero_le _, rfl, rfl, Lib.hid (Below.refl _ _)⟩
  case round =>
    obtain ⟨b, hbT, rfl, rfl, hb⟩ := hrel
    have Br := Lib.hid (B2.out.trans (hb.out.mono B2.out.size))
    by_cases hlt : b < T
    rotate_left
    · obtain rfl : b = T := by omega
      go_wp2
      go_ret
      exact ⟨ret_int E.out.symm, Br.out⟩
    have hlti : (b : Int) < (T : Int) := by omega
    have RL := Lib.hid (SlOf.below RLw.out hb.out)
    go_wp2_with fail
    refine (specSome _ l b _ RL.out (by rw [HM.out]; exact hm8) (by omega)).mono ?_
    rintro e w5 ⟨u, rfl, hu, hb5⟩
    have B5 := Lib.hid (hb.out.trans (hb5.mono hb.out.size))
    have hsl : (someL l b).length ≤ 8 := by have := someL_len l b; have := HM.out; omega
    have U5 := Lib.hid (own_sl intLen hu (by omega))
    obtain ⟨Au, cu, rfl⟩ := own_form hu
    clear hu hb5 RL
    obtain ⟨s, hs⟩ : ∃ s, someL l b = s := ⟨_, rfl⟩
    have HS := Lib.hid hs
    rw [hs] at hsl U5 ⊢
    have hmt : mostTo k l b ≤ 8 := by have := mostTo_le k l b; have := HM.out; omega
    obtain ⟨q, hq⟩ : ∃ q, mostTo k l b = q := ⟨_, rfl⟩
    have HQ := Lib.hid hq
    rw [hq] at hmt ⊢
    obtain ⟨z, hz⟩ : ∃ z, s.length = z := ⟨_, rfl⟩
    have HZ := Lib.hid hz
    rw [hz] at hsl U5 ⊢
    clear hs hq hz
    by_cases hle : z ≤ q
    · have EN := Lib.hid (show mostTo k l (b + 1) = q by rw [mostTo_small (by rw [HS.out, HZ.out, HQ.out]; exact hle), HQ.out])
      have hlei : (z : Int) ≤ (q : Int) := by omega
      go_wp2
      go_roundw
      case rel => exact ⟨b + 1, by omega, by rw [EN.out], by go_num, B5⟩
      case measure => simp [intOf]; omega
    have hlei : decide ((z : Int) ≤ (q : Int)) = false := decide_eq_false (by omega)
    have c0 : w5.cell? ⟨w.heap.size, 0, none⟩ = some (.int .i64 k.length) := (Kk_2.out.below B5.out).cell 0
    have c1 : w5.cell? ⟨w.heap.size, 1, none⟩ = some (.int .i64 k.lanes) := (Kk_2.out.below B5.out).cell 1
    have c2 : w5.cell? ⟨w.heap.size, 2, none⟩ = some (.int .i64 k.minutes) := (Kk_2.out.below B5.out).cell 2
    go_wp2_with fail
    refine (specPackShips k _ s _ U5.out).mono ?_
    obtain ⟨r, hr⟩ : ∃ r, (packO k s).isSome = r := ⟨_, rfl⟩
    have HR := Lib.hid hr
    rintro e w6 ⟨u6, rfl, -, hb6⟩
    rw [hr]
    have B6 := Lib.hid (B5.out.trans (hb6.mono B5.out.size))
    clear hb6 hr c0 c1 c2
    cases r with
    | false =>
      have EN := Lib.hid (show mostTo k l (b + 1) = q by rw [mostTo_no (by rw [HS.out]; exact HR.out), HQ.out])
      go_wp2
      go_roundw
      case rel => exact ⟨b + 1, by omega, by rw [EN.out], by go_num, B6⟩
      case measure => simp [intOf]; omega
    | true =>
      have EN := Lib.hid (show mostTo k l (b + 1) = z by rw [mostTo_yes (by rw [HS.out, HZ.out, HQ.out]; exact hle) (by rw [HS.out]; exact HR.out), HS.out, HZ.out])
      go_wp2
      go_roundw
      case rel => exact ⟨b + 1, by omega, by rw [EN.out], by go_num, B6⟩
      case measure => simp [intOf]; omega
end Go.Proofs.Ytphagahhhfiiaaa
