
/- Rules of traffic, the model's side: RegimeOk, Overlaps, l09Near, ConflictName, StricterRegime: contracts. -/
import Derived.Test.YtpglaffmmddcdaaRuleMath
import Derived.Test.YtpglaffmmddcdaaChartOkSpec
import Derived.Test.YtpglaffmmddcdaaBox
import Derived.OpenShut
import Derived.StillTailTactics
namespace Go.Proofs.Ytpglaffmmddcdaa
open Go.RowKit
set_option maxRecDepth 100000

theorem specRegimeOk (r : RegimeD) (w : World) : Calls Try.prog 22 #[r.val] w fun e w' => e = .returned (.bool (regB r)) ∧ Below w.heap.size w w' := by
  have B := Lib.hid (Joins.below_alloc1 w (.cells #[.int .i64 r.gap, .bool r.noMeet] 28))
  go_enter Try.func22, Try.ntmps22
  go_wp2_with fail
  refine (l01In_any _ _ _ _).mono ?_
  rintro e w1 ⟨rfl, rfl⟩
  go_wp2
  go_ret
  exact ⟨rfl, B.out⟩

theorem over_eq (p q : PassageD) : overB p q = decide (max p.start q.start < min p.stop q.stop) := rfl
set_option maxHeartbeats 2000000 in
theorem specOverlaps (p q : PassageD) (w : World) : Calls Try.prog 24 #[p.val, q.val] w fun e w' => e = .returned (.bool (overB p q)) ∧ Below w.heap.size w w' := by
  have E := Lib.hid (over_eq p q)
  have B := Lib.hid (Joins.below_alloc2 w (.cells #[.int .i64 p.ship, .int .i64 p.segment, .bool p.toward, .int .i64 p.start, .int .i64 p.stop] 41) (.cells #[.int .i64 q.ship, .int .i64 q.segment, .bool q.toward, .int .i64 q.start, .int .i64 q.stop] 41))
  go_enter Try.func24, Try.ntmps24
  go_wp2
  all_goals (go_ret; exact ⟨ret_bool (by rw [E.out, decide_eq_decide]; omega), B.out⟩)

set_option maxHeartbeats 2000000 in
theorem l09Near_any (a b g : Int) (w : World) (ha : (Lit.int .i64 a).wf = true) (hb : (Lit.int .i64 b).wf = true) (hg : g ≤ 9223372036854775807) : Calls Try.prog 57 #[.int .i64 a, .int .i64 b, .int .i64 g] w fun e w' => e = .returned (.bool (nearB a b g)) ∧ w = w' := by
  obtain ⟨a0, a1⟩ := bounds_i64 ha
  obtain ⟨b0, b1⟩ := bounds_i64 hb
  by_cases hab : a < b
  · have hba : ¬ b < a := by omega
    have E := Lib.hid (near_lo (g := g) (show a ≤ b by omega))
    by_cases hn : a < 0
    · have w1 : IntKind.i64.wrap (a + 9223372036854775807) = a + 9223372036854775807 := by rw [IntKind.wrap_i64]; omega
      by_cases hf : a + 9223372036854775807 < b
      · have E2 := Lib.hid (E.out.trans (decide_eq_false (by omega)))
        go_enter Try.func57, Try.ntmps57
        go_wp2
        all_goals (first | (exfalso; omega) | (go_ret; exact ⟨ret_bool E2.out.symm, rfl⟩))
      · have w2 : IntKind.i64.wrap (b - a) = b - a := by rw [IntKind.wrap_i64]; omega
        go_enter Try.func57, Try.ntmps57
        go_wp2
        all_goals (first | (exfalso; omega) | (go_ret; exact ⟨ret_bool (by first | exact E.out.symm | (rw [E.out, decide_eq_decide]; omega)), rfl⟩))
    · have w2 : IntKind.i64.wrap (b - a) = b - a := by rw [IntKind.wrap_i64]; omega
      have hn' : decide (a < 0) = false := decide_eq_false hn
      go_enter Try.func57, Try.ntmps57
      go_wp2
      all_goals (first | (exfalso; omega) | (go_ret; exact ⟨ret_bool (by first | exact E.out.symm | (rw [E.out, decide_eq_decide]; omega)), rfl⟩))
  · have hba : b ≤ a := by omega
    have E := Lib.hid (near_hi (g := g) hba)
    by_cases hn : b < 0
    · have w1 : IntKind.i64.wrap (b + 9223372036854775807) = b + 9223372036854775807 := by rw [IntKind.wrap_i64]; omega
      by_cases hf : b + 9223372036854775807 < a
      · have E2 := Lib.hid (E.out.trans (decide_eq_false (by omega)))
        go_enter Try.func57, Try.ntmps57
        go_wp2
        all_goals (first | (exfalso; omega) | (go_ret; exact ⟨ret_bool E2.out.symm, rfl⟩))
      · have w2 : IntKind.i64.wrap (a - b) = a - b := by rw [IntKind.wrap_i64]; omega
        go_enter Try.func57, Try.ntmps57
        go_wp2
        all_goals (first | (exfalso; omega) | (go_ret; exact ⟨ret_bool (by first | exact E.out.symm | (rw [E.out, decide_eq_decide]; omega)), rfl⟩))
    · have w2 : IntKind.i64.wrap (a - b) = a - b := by rw [IntKind.wrap_i64]; omega
      have hn' : decide (b < 0) = false := decide_eq_false hn
      go_enter Try.func57, Try.ntmps57
      go_wp2
      all_goals (first | (exfalso; omega) | (go_ret; exact ⟨ret_bool (by first | exact E.out.symm | (rw [E.out, decide_eq_decide]; omega)), rfl⟩))

theorem confName_no {n : Int} (h : inB n 0 4 = false) : confName n = ⟨#[]⟩ := by
  have h' := of_decide_eq_false h
  unfold confName
  rw [if_neg (by omega), if_neg (by omega), if_neg (by omega), if_neg (by omega), if_neg (by omega)]
theorem confName_yes {n : Int} (h : inB n 0 4 = true) : n = 0 ∨ n = 1 ∨ n = 2 ∨ n = 3 ∨ n = 4 := by
  have h' := of_decide_eq_true (show decide (0 ≤ n ∧ n ≤ 4) = true from h)
  omega
set_option maxHeartbeats 2000000 in
theorem specConflictName (n : Int) (w : World) : Calls Try.prog 30 #[.int .i64 n] w fun e w' => e = .returned (.string (confName n)) ∧ Below w.heap.size w w' := by
  obtain ⟨b, hb⟩ : ∃ b, inB n 0 4 = b := ⟨_, rfl⟩
  have HB := Lib.hid hb
  cases b with
  | false =>
    have E := Lib.hid (confName_no hb)
    clear hb
    go_enter Try.func30, Try.ntmps30
    go_wp2_with fail
    refine (l01In_any _ _ _ _).mono ?_
    rw [HB.out]
    rintro e w1 ⟨rfl, rfl⟩
    go_wp2
    go_ret
    exact ⟨by rw [E.out]; rfl, Below.refl _ _⟩
  | true =>
    rcases confName_yes hb with rfl | rfl | rfl | rfl | rfl
    all_goals
      clear hb
      go_enter Try.func30, Try.ntmps30
      go_wp2_with fail
      refine (l01In_any _ _ _ _).mono ?_
      rw [HB.out]
      rintro e w1 ⟨rfl, rfl⟩
      go_wp2
      go_ret
      exact ⟨rfl, by repeat (first | exact Below.refl _ _ | refine Below.alloc ?_ (by simp <;> omega) _)⟩
end Go.Proofs.Ytpglaffmmddcdaa
