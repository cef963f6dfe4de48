
/- What ExactNeedOf and ExactLevelFor and ExactIsAfloat and ExactMinutesOn rests on, part 10: contracts and mathematics. -/
import Derived.Test.YtpimcbhjkednpaaNl6
import Derived.Test.YtpimcbhjkednpaaNl0
import Derived.Deep.AppendLies
import Derived.StillTailTactics
import Derived.BigQuiet
namespace Go.Proofs.Ytpimcbhjkednpaa
open Go.RowKit
set_option maxRecDepth 100000
set_option maxHeartbeats 2000000 in
theorem specSquatOf (s : ShipD) (w : World) (hw : s.wf) :
    Calls Try.prog 59 #[s.val] w fun e w' => e = .returned (.int .i64 (squatI s)) ∧ Below w.heap.size w w' := by
  have B := Lib.hid (Joins.below_alloc1 w (.cells #[.string s.name, .int .i64 s.length, .int .i64 s.draught, .int .i64 s.line, .int .i64 s.tugs, .bool s.slow] 36))
  have K := Lib.hid (Blk.new w #[.string s.name, .int .i64 s.length, .int .i64 s.draught, .int .i64 s.line, .int .i64 s.tugs, .bool s.slow] 36)
  obtain ⟨t, ht⟩ : ∃ t, shipB s = t := ⟨_, rfl⟩
  have HT := Lib.hid ht
  cases t with
  | false =>
    have E := Lib.hid (show squatI s = 0 from if_neg (by rw [ht]; simp))
    clear ht
    go_enter Try.func59, Try.ntmps59
    go_wp2_with fail
    refine (specShipOk s _ hw).mono ?_
    rw [HT.out]
    rintro e w1 ⟨rfl, hb1⟩
    have B1 := Lib.hid (B.out.trans (hb1.mono B.out.size))
    clear hb1
    go_wp2
    go_ret
    exact ⟨ret_int E.out.symm, B1.out⟩
  | true =>
    obtain ⟨-, -, -, d0, d1, -⟩ := shipB_true ht
    have v1 : IntKind.i64.wrap (s.draught.tdiv 50) = s.draught.tdiv 50 := by rw [IntKind.wrap_i64, Int.tdiv_eq_ediv_of_nonneg (by omega)]; omega
    have v2 : IntKind.i64.wrap (s.draught.tdiv 20) = s.draught.tdiv 20 := by rw [IntKind.wrap_i64, Int.tdiv_eq_ediv_of_nonneg (by omega)]; omega
    have E0 : squatI s = (if s.slow = true then s.draught.tdiv 50 else s.draught.tdiv 20) := if_pos ht
    clear ht
    cases hs : s.slow with
    | true =>
      have E := Lib.hid (E0.trans (if_pos hs))
      have HSL := Lib.hid hs
      clear E0 hs
      go_enter Try.func59, Try.ntmps59
      go_wp2_with fail
      refine (specShipOk s _ hw).mono ?_
      rw [HT.out]
      rintro e w1 ⟨rfl, hb1⟩
      have K1 := K.out.below hb1
      have z2 := K1.cell 2
      have z5 := K1.cell 5
      simp at z2 z5
      rw [HSL.out] at z5
      have B1 := Lib.hid (B.out.trans (hb1.mono B.out.size))
      clear hb1 K1
      go_wp2
      go_ret
      exact ⟨ret_int E.out.symm, B1.out⟩
    | false =>
      have E := Lib.hid (E0.trans (if_neg (by rw [hs]; simp)))
      have HSL := Lib.hid hs
      clear E0 hs
      go_enter Try.func59, Try.ntmps59
      go_wp2_with fail
      refine (specShipOk s _ hw).mono ?_
      rw [HT.out]
      rintro e w1 ⟨rfl, hb1⟩
      have K1 := K.out.below hb1
      have z2 := K1.cell 2
      have z5 := K1.cell 5
      simp at z2 z5
      rw [HSL.out] at z5
      have B1 := Lib.hid (B.out.trans (hb1.mono B.out.size))
      clear hb1 K1
      go_wp2
      go_ret
      exact ⟨ret_int E.out.symm, B1.out⟩
set_option maxHeartbeats 2000000 in
theorem implSquatOf (s : ShipD) (w : World) (hw : s.wf) :
    Calls Try.prog 14 #[s.val] w fun e w' => e = .returned (.int .i64 (squatI s)) ∧ Below w.heap.size w w' := by
  have B := Lib.hid (Joins.below_alloc1 w (.cells #[.string s.name, .int .i64 s.length, .int .i64 s.draught, .int .i64 s.line, .int .i64 s.tugs, .bool s.slow] 36))
  have K := Lib.hid (Blk.new w #[.string s.name, .int .i64 s.length, .int .i64 s.draught, .int .i64 s.line, .int .i64 s.tugs, .bool s.slow] 36)
  obtain ⟨t, ht⟩ : ∃ t, shipB s = t := ⟨_, rfl⟩
  have HT := Lib.hid ht
  cases t with
  | false =>
    have E := Lib.hid (show squatI s = 0 from if_neg (by rw [ht]; simp))
    clear ht
    go_enter Try.func14, Try.ntmps14
    go_wp2_with fail
    refine (implShipOk s _ hw).mono ?_
    rw [HT.out]
    rintro e w1 ⟨rfl, hb1⟩
    have B1 := Lib.hid (B.out.trans (hb1.mono B.out.size))
    clear hb1
    go_wp2
    go_ret
    exact ⟨ret_int E.out.symm, B1.out⟩
  | true =>
    obtain ⟨-, -, -, d0, d1, -⟩ := shipB_true ht
    have v1 : IntKind.i64.wrap (s.draught.tdiv 50) = s.draught.tdiv 50 := by rw [IntKind.wrap_i64, Int.tdiv_eq_ediv_of_nonneg (by omega)]; omega
    have v2 : IntKind.i64.wrap (s.draught.tdiv 20) = s.draught.tdiv 20 := by rw [IntKind.wrap_i64, Int.tdiv_eq_ediv_of_nonneg (by omega)]; omega
    have E0 : squatI s = (if s.slow = true then s.draught.tdiv 50 else s.draught.tdiv 20) := if_pos ht
    clear ht
    cases hs : s.slow with
    | true =>
      have E := Lib.hid (E0.trans (if_pos hs))
      have HSL := Lib.hid hs
      clear E0 hs
      go_enter Try.func14, Try.ntmps14
      go_wp2_with fail
      refine (implShipOk s _ hw).mono ?_
      rw [HT.out]
      rintro e w1 ⟨rfl, hb1⟩
      have K1 := K.out.below hb1
      have z2 := K1.cell 2
      have z5 := K1.cell 5
      simp at z2 z5
      rw [HSL.out] at z5
      have B1 := Lib.hid (B.out.trans (hb1.mono B.out.size))
      clear hb1 K1
      go_wp2
      go_ret
      exact ⟨ret_int E.out.symm, B1.out⟩
    | false =>
      have E := Lib.hid (E0.trans (if_neg (by rw [hs]; simp)))
      have HSL := Lib.hid hs
      clear E0 hs
      go_enter Try.func14, Try.ntmps14
      go_wp2_with fail
      refine (implShipOk s _ hw).mono ?_
      rw [HT.out]
      rintro e w1 ⟨rfl, hb1⟩
      have K1 := K.out.below hb1
      have z2 := K1.cell 2
      have z5 := K1.cell 5
      simp at z2 z5
      rw [HSL.out] at z5
      have B1 := Lib.hid (B.out.trans (hb1.mono B.out.size))
      clear hb1 K1
      go_wp2
      go_ret
      exact ⟨ret_int E.out.symm, B1.out⟩
end Go.Proofs.Ytpimcbhjkednpaa
