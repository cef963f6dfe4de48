
/- Rules of traffic, the program's side: RegimeOk, Overlaps, ConflictName, differByLess; StricterRegime of both sides: contracts. -/
import Derived.Test.YtpglaffmmddcdaaRuleSpec0
import Derived.Test.YtpglaffmmddcdaaSegImpl
namespace Go.Proofs.Ytpglaffmmddcdaa
open Go.RowKit
set_option maxRecDepth 100000

theorem implRegimeOk (r : RegimeD) (w : World) : Calls Try.prog 16 #[r.val] w fun e w' => e = .returned (.bool (regB r)) ∧ Below w.heap.size w w' := by
  obtain ⟨g, m⟩ := r
  dsimp only [RegimeD.val]
  have B := Lib.hid (Joins.below_alloc1 w (.cells #[.int .i64 g, .bool m] 28))
  have E0 := Lib.hid (show regB ⟨g, m⟩ = decide (0 ≤ g ∧ g ≤ 60) from rfl)
  by_cases h0 : 0 ≤ g
  · by_cases h1 : g ≤ 60
    · have E := Lib.hid (E0.out.trans (decide_eq_true ⟨h0, h1⟩))
      go_enter Try.func16, Try.ntmps16
      go_wp2
      go_ret
      exact ⟨ret_bool E.out.symm, B.out⟩
    · have E := Lib.hid (E0.out.trans (decide_eq_false (by omega)))
      have h2 : decide (g ≤ 60) = false := decide_eq_false h1
      go_enter Try.func16, Try.ntmps16
      go_wp2
      go_ret
      exact ⟨ret_bool E.out.symm, B.out⟩
  · have E := Lib.hid (E0.out.trans (decide_eq_false (by omega)))
    have h2 : decide (0 ≤ g) = false := decide_eq_false h0
    go_enter Try.func16, Try.ntmps16
    go_wp2
    go_ret
    exact ⟨ret_bool E.out.symm, B.out⟩

set_option maxHeartbeats 2000000 in
theorem implOverlaps (p q : PassageD) (w : World) : Calls Try.prog 20 #[p.val, q.val] w fun e w' => e = .returned (.bool (overB p q)) ∧ Below w.heap.size w w' := by
  have E := Lib.hid (over_eq p q)
  have B := Lib.hid (Joins.below_alloc2 w (.cells #[.int .i64 p.ship, .int .i64 p.segment, .bool p.toward, .int .i64 p.start, .int .i64 p.stop] 41) (.cells #[.int .i64 q.ship, .int .i64 q.segment, .bool q.toward, .int .i64 q.start, .int .i64 q.stop] 41))
  go_enter Try.func20, Try.ntmps20
  go_wp2
  all_goals (go_ret; exact ⟨ret_bool (by rw [E.out, decide_eq_decide]; omega), B.out⟩)


set_option maxHeartbeats 2000000 in
theorem implConflictName (n : Int) (w : World) : Calls Try.prog 18 #[.int .i64 n] w fun e w' => e = .returned (.string (confName n)) ∧ Below w.heap.size w w' := by
  obtain ⟨b, hb⟩ : ∃ b, inB n 0 4 = b := ⟨_, rfl⟩
  have HI := Lib.hid (show inB n 0 (((5 : Nat) : Int) - 1) = b from hb)
  cases b with
  | false =>
    have E := Lib.hid (confName_no hb)
    clear hb
    go_enter Try.func18, Try.ntmps18
    go_wp2_with fail
    refine (isIndex_any _ 5 _).mono ?_
    rw [HI.out]
    rintro e w1 ⟨rfl, rfl⟩
    go_wp2
    go_ret
    exact ⟨by rw [E.out]; rfl, by repeat (first | exact Below.refl _ _ | refine Below.setCell ?_ (by simp <;> omega) _ | refine Below.alloc ?_ (by simp <;> omega) _)⟩
  | true =>
    rcases confName_yes hb with rfl | rfl | rfl | rfl | rfl
    all_goals
      clear hb
      go_enter Try.func18, Try.ntmps18
      go_wp2_with fail
      refine (isIndex_any _ 5 _).mono ?_
      rw [HI.out]
      rintro e w1 ⟨rfl, rfl⟩
      go_wp2
      go_ret
      exact ⟨rfl, by repeat (first | exact Below.refl _ _ | refine Below.setCell ?_ (by simp <;> omega) _ | refine Below.alloc ?_ (by simp <;> omega) _)⟩


set_option maxHeartbeats 2000000 in
theorem differByLess_any (a b g : Int) (w : World) (ha : (Lit.int .i64 a).wf = true) (hb : (Lit.int .i64 b).wf = true) (g0 : 0 ≤ g) (g1 : g ≤ 60) : Calls Try.prog 88 #[.int .i64 a, .int .i64 b, .int .i64 g] w fun e w' => e = .returned (.bool (nearB a b g)) ∧ w = w' := by
  obtain ⟨a0, a1⟩ := bounds_i64 ha
  obtain ⟨b0, b1⟩ := bounds_i64 hb
  have wg : IntKind.u64.wrap g = g := by rw [IntKind.wrap_u64]; omega
  have wz : IntKind.u64.wrap 0 = 0 := by rw [IntKind.wrap_u64]; omega
  by_cases hab : a < b
  · have E := Lib.hid (near_lo (g := g) (show a ≤ b by omega))
    have w1 : IntKind.u64.wrap (IntKind.u64.wrap b - IntKind.u64.wrap a) = b - a := by rw [IntKind.wrap_u64, IntKind.wrap_u64, IntKind.wrap_u64]; omega
    go_enter Try.func88, Try.ntmps88
    go_wp2
    all_goals (first | (exfalso; omega) | (go_ret; exact ⟨ret_bool (by first | exact E.out.symm | (rw [E.out, decide_eq_decide]; omega)), rfl⟩))
  · have E := Lib.hid (near_hi (g := g) (show b ≤ a by omega))
    have w1 : IntKind.u64.wrap (IntKind.u64.wrap a - IntKind.u64.wrap b) = a - b := by rw [IntKind.wrap_u64, IntKind.wrap_u64, IntKind.wrap_u64]; omega
    go_enter Try.func88, Try.ntmps88
    go_wp2
    all_goals (first | (exfalso; omega) | (go_ret; exact ⟨ret_bool (by first | exact E.out.symm | (rw [E.out, decide_eq_decide]; omega)), rfl⟩))

set_option maxHeartbeats 2000000 in
theorem specStricterRegime (a b : RegimeD) (w : World) : Calls Try.prog 37 #[a.val, b.val] w fun e w' => e = .returned (.bool (strictB a b)) ∧ Below w.heap.size w w' := by
  obtain ⟨ga, ma⟩ := a
  obtain ⟨gb, mb⟩ := b
  dsimp only [RegimeD.val]
  obtain ⟨W0, hW0⟩ : ∃ W0, W0 = (w.alloc (.cells #[.int .i64 ga, .bool ma] 28)).alloc (.cells #[.int .i64 gb, .bool mb] 28) := ⟨_, rfl⟩
  have B := Lib.hid (Joins.below_alloc2 w (.cells #[.int .i64 ga, .bool ma] 28) (.cells #[.int .i64 gb, .bool mb] 28))
  have Ka := Lib.hid ((Blk.new w #[.int .i64 ga, .bool ma] 28).below (Joins.below_alloc1 _ (.cells #[.int .i64 gb, .bool mb] 28)))
  have Kb := Lib.hid (Blk.new (w.alloc (.cells #[.int .i64 ga, .bool ma] 28)) #[.int .i64 gb, .bool mb] 28)
  rw [World.size_alloc] at Kb
  rw [← hW0] at B Ka Kb
  have HW0 := Lib.hid hW0
  clear hW0
  obtain ⟨x, hx⟩ : ∃ x, regB ⟨ga, ma⟩ = x := ⟨_, rfl⟩
  obtain ⟨y, hy⟩ : ∃ y, regB ⟨gb, mb⟩ = y := ⟨_, rfl⟩
  obtain ⟨z, hz⟩ : ∃ z, decide (gb ≤ ga) = z := ⟨_, rfl⟩
  have hz' : decide (ga ≥ gb) = z := hz
  have HX := Lib.hid hx
  have HY := Lib.hid hy
  have E0 := Lib.hid (show strictB ⟨ga, ma⟩ ⟨gb, mb⟩ = (x && y && z && (ma || !mb)) by rw [← hx, ← hy, ← hz]; rfl)
  clear hx hy
  cases x with
  | false =>
    have E := Lib.hid (E0.out.trans (show _ = false by simp))
    go_enter Try.func37, Try.ntmps37
    have va0 : W0.cell? ⟨w.heap.size, 0, none⟩ = some (.int .i64 ga) := Ka.out.cell 0
    have va1 : W0.cell? ⟨w.heap.size, 1, none⟩ = some (.bool ma) := Ka.out.cell 1
    have vb0 : W0.cell? ⟨w.heap.size + 1, 0, none⟩ = some (.int .i64 gb) := Kb.out.cell 0
    have vb1 : W0.cell? ⟨w.heap.size + 1, 1, none⟩ = some (.bool mb) := Kb.out.cell 1
    go_wp2_with fail
    rw [← HW0.out]
    clear va0 va1 vb0 vb1
    refine (specRegimeOk ⟨ga, ma⟩ _).mono ?_
    rw [HX.out]
    rintro e w1 ⟨rfl, hb1⟩
    have B1 := Lib.hid (B.out.trans (hb1.mono B.out.size))
    have Ka_1 := Lib.hid (Ka.out.below hb1)
    have Kb_1 := Lib.hid (Kb.out.below hb1)
    clear hb1
    go_wp2
    go_ret
    exact ⟨ret_bool E.out.symm, B1.out⟩
  | true =>
  cases y with
  | false =>
    have E := Lib.hid (E0.out.trans (show _ = false by simp))
    go_enter Try.func37, Try.ntmps37
    have va0 : W0.cell? ⟨w.heap.size, 0, none⟩ = some (.int .i64 ga) := Ka.out.cell 0
    have va1 : W0.cell? ⟨w.heap.size, 1, none⟩ = some (.bool ma) := Ka.out.cell 1
    have vb0 : W0.cell? ⟨w.heap.size + 1, 0, none⟩ = some (.int .i64 gb) := Kb.out.cell 0
    have vb1 : W0.cell? ⟨w.heap.size + 1, 1, none⟩ = some (.bool mb) := Kb.out.cell 1
    go_wp2_with fail
    rw [← HW0.out]
    clear va0 va1 vb0 vb1
    refine (specRegimeOk ⟨ga, ma⟩ _).mono ?_
    rw [HX.out]
    rintro e w1 ⟨rfl, hb1⟩
    have B1 := Lib.hid (B.out.trans (hb1.mono B.out.size))
    have Ka_1 := Lib.hid (Ka.out.below hb1)
    have Kb_1 := Lib.hid (Kb.out.below hb1)
    clear hb1
    have va0 : w1.cell? ⟨w.heap.size, 0, none⟩ = some (.int .i64 ga) := Ka_1.out.cell 0
    have va1 : w1.cell? ⟨w.heap.size, 1, none⟩ = some (.bool ma) := Ka_1.out.cell 1
    have vb0 : w1.cell? ⟨w.heap.size + 1, 0, none⟩ = some (.int .i64 gb) := Kb_1.out.cell 0
    have vb1 : w1.cell? ⟨w.heap.size + 1, 1, none⟩ = some (.bool mb) := Kb_1.out.cell 1
    go_wp2_with fail
    clear va0 va1 vb0 vb1
    refine (specRegimeOk ⟨gb, mb⟩ _).mono ?_
    rw [HY.out]
    rintro e w2 ⟨rfl, hb2⟩
    have B2 := Lib.hid (B1.out.trans (hb2.mono B1.out.size))
    have Ka_2 := Lib.hid (Ka_1.out.below hb2)
    have Kb_2 := Lib.hid (Kb_1.out.below hb2)
    clear hb2
    have va0 : w2.cell? ⟨w.heap.size, 0, none⟩ = some (.int .i64 ga) := Ka_2.out.cell 0
    have va1 : w2.cell? ⟨w.heap.size, 1, none⟩ = some (.bool ma) := Ka_2.out.cell 1
    have vb0 : w2.cell? ⟨w.heap.size + 1, 0, none⟩ = some (.int .i64 gb) := Kb_2.out.cell 0
    have vb1 : w2.cell? ⟨w.heap.size + 1, 1, none⟩ = some (.bool mb) := Kb_2.out.cell 1
    go_wp2
    go_ret
    exact ⟨ret_bool E.out.symm, B2.out⟩
  | true =>
  cases z with
  | false =>
    have E := Lib.hid (E0.out.trans (show _ = false by simp))
    go_enter Try.func37, Try.ntmps37
    have va0 : W0.cell? ⟨w.heap.size, 0, none⟩ = some (.int .i64 ga) := Ka.out.cell 0
    have va1 : W0.cell? ⟨w.heap.size, 1, none⟩ = some (.bool ma) := Ka.out.cell 1
    have vb0 : W0.cell? ⟨w.heap.size + 1, 0, none⟩ = some (.int .i64 gb) := Kb.out.cell 0
    have vb1 : W0.cell? ⟨w.heap.size + 1, 1, none⟩ = some (.bool mb) := Kb.out.cell 1
    go_wp2_with fail
    rw [← HW0.out]
    clear va0 va1 vb0 vb1
    refine (specRegimeOk ⟨ga, ma⟩ _).mono ?_
    rw [HX.out]
    rintro e w1 ⟨rfl, hb1⟩
    have B1 := Lib.hid (B.out.trans (hb1.mono B.out.size))
    have Ka_1 := Lib.hid (Ka.out.below hb1)
    have Kb_1 := Lib.hid (Kb.out.below hb1)
    clear hb1
    have va0 : w1.cell? ⟨w.heap.size, 0, none⟩ = some (.int .i64 ga) := Ka_1.out.cell 0
    have va1 : w1.cell? ⟨w.heap.size, 1, none⟩ = some (.bool ma) := Ka_1.out.cell 1
    have vb0 : w1.cell? ⟨w.heap.size + 1, 0, none⟩ = some (.int .i64 gb) := Kb_1.out.cell 0
    have vb1 : w1.cell? ⟨w.heap.size + 1, 1, none⟩ = some (.bool mb) := Kb_1.out.cell 1
    go_wp2_with fail
    clear va0 va1 vb0 vb1
    refine (specRegimeOk ⟨gb, mb⟩ _).mono ?_
    rw [HY.out]
    rintro e w2 ⟨rfl, hb2⟩
    have B2 := Lib.hid (B1.out.trans (hb2.mono B1.out.size))
    have Ka_2 := Lib.hid (Ka_1.out.below hb2)
    have Kb_2 := Lib.hid (Kb_1.out.below hb2)
    clear hb2
    have va0 : w2.cell? ⟨w.heap.size, 0, none⟩ = some (.int .i64 ga) := Ka_2.out.cell 0
    have va1 : w2.cell? ⟨w.heap.size, 1, none⟩ = some (.bool ma) := Ka_2.out.cell 1
    have vb0 : w2.cell? ⟨w.heap.size + 1, 0, none⟩ = some (.int .i64 gb) := Kb_2.out.cell 0
    have vb1 : w2.cell? ⟨w.heap.size + 1, 1, none⟩ = some (.bool mb) := Kb_2.out.cell 1
    go_wp2
    go_ret
    exact ⟨ret_bool E.out.symm, B2.out⟩
  | true =>
  cases ma with
  | true =>
    have E := Lib.hid (E0.out.trans (show _ = true by simp))
    go_enter Try.func37, Try.ntmps37
    have va0 : W0.cell? ⟨w.heap.size, 0, none⟩ = some (.int .i64 ga) := Ka.out.cell 0
    have va1 : W0.cell? ⟨w.heap.size, 1, none⟩ = some (.bool true) := Ka.out.cell 1
    have vb0 : W0.cell? ⟨w.heap.size + 1, 0, none⟩ = some (.int .i64 gb) := Kb.out.cell 0
    have vb1 : W0.cell? ⟨w.heap.size + 1, 1, none⟩ = some (.bool mb) := Kb.out.cell 1
    go_wp2_with fail
    rw [← HW0.out]
    clear va0 va1 vb0 vb1
    refine (specRegimeOk ⟨ga, true⟩ _).mono ?_
    rw [HX.out]
    rintro e w1 ⟨rfl, hb1⟩
    have B1 := Lib.hid (B.out.trans (hb1.mono B.out.size))
    have Ka_1 := Lib.hid (Ka.out.below hb1)
    have Kb_1 := Lib.hid (Kb.out.below hb1)
    clear hb1
    have va0 : w1.cell? ⟨w.heap.size, 0, none⟩ = some (.int .i64 ga) := Ka_1.out.cell 0
    have va1 : w1.cell? ⟨w.heap.size, 1, none⟩ = some (.bool true) := Ka_1.out.cell 1
    have vb0 : w1.cell? ⟨w.heap.size + 1, 0, none⟩ = some (.int .i64 gb) := Kb_1.out.cell 0
    have vb1 : w1.cell? ⟨w.heap.size + 1, 1, none⟩ = some (.bool mb) := Kb_1.out.cell 1
    go_wp2_with fail
    clear va0 va1 vb0 vb1
    refine (specRegimeOk ⟨gb, mb⟩ _).mono ?_
    rw [HY.out]
    rintro e w2 ⟨rfl, hb2⟩
    have B2 := Lib.hid (B1.out.trans (hb2.mono B1.out.size))
    have Ka_2 := Lib.hid (Ka_1.out.below hb2)
    have Kb_2 := Lib.hid (Kb_1.out.below hb2)
    clear hb2
    have va0 : w2.cell? ⟨w.heap.size, 0, none⟩ = some (.int .i64 ga) := Ka_2.out.cell 0
    have va1 : w2.cell? ⟨w.heap.size, 1, none⟩ = some (.bool true) := Ka_2.out.cell 1
    have vb0 : w2.cell? ⟨w.heap.size + 1, 0, none⟩ = some (.int .i64 gb) := Kb_2.out.cell 0
    have vb1 : w2.cell? ⟨w.heap.size + 1, 1, none⟩ = some (.bool mb) := Kb_2.out.cell 1
    go_wp2
    go_ret
    exact ⟨ret_bool E.out.symm, B2.out⟩
  | false =>
    have E := Lib.hid (E0.out.trans (by simp : (true && true && true && (false || !mb)) = !mb))
    cases mb
    case false =>
      go_enter Try.func37, Try.ntmps37
      have va0 : W0.cell? ⟨w.heap.size, 0, none⟩ = some (.int .i64 ga) := Ka.out.cell 0
      have va1 : W0.cell? ⟨w.heap.size, 1, none⟩ = some (.bool false) := Ka.out.cell 1
      have vb0 : W0.cell? ⟨w.heap.size + 1, 0, none⟩ = some (.int .i64 gb) := Kb.out.cell 0
      have vb1 : W0.cell? ⟨w.heap.size + 1, 1, none⟩ = some (.bool false) := Kb.out.cell 1
      go_wp2_with fail
      rw [← HW0.out]
      clear va0 va1 vb0 vb1
      refine (specRegimeOk ⟨ga, false⟩ _).mono ?_
      rw [HX.out]
      rintro e w1 ⟨rfl, hb1⟩
      have B1 := Lib.hid (B.out.trans (hb1.mono B.out.size))
      have Ka_1 := Lib.hid (Ka.out.below hb1)
      have Kb_1 := Lib.hid (Kb.out.below hb1)
      clear hb1
      have va0 : w1.cell? ⟨w.heap.size, 0, none⟩ = some (.int .i64 ga) := Ka_1.out.cell 0
      have va1 : w1.cell? ⟨w.heap.size, 1, none⟩ = some (.bool false) := Ka_1.out.cell 1
      have vb0 : w1.cell? ⟨w.heap.size + 1, 0, none⟩ = some (.int .i64 gb) := Kb_1.out.cell 0
      have vb1 : w1.cell? ⟨w.heap.size + 1, 1, none⟩ = some (.bool false) := Kb_1.out.cell 1
      go_wp2_with fail
      clear va0 va1 vb0 vb1
      refine (specRegimeOk ⟨gb, false⟩ _).mono ?_
      rw [HY.out]
      rintro e w2 ⟨rfl, hb2⟩
      have B2 := Lib.hid (B1.out.trans (hb2.mono B1.out.size))
      have Ka_2 := Lib.hid (Ka_1.out.below hb2)
      have Kb_2 := Lib.hid (Kb_1.out.below hb2)
      clear hb2
      have va0 : w2.cell? ⟨w.heap.size, 0, none⟩ = some (.int .i64 ga) := Ka_2.out.cell 0
      have va1 : w2.cell? ⟨w.heap.size, 1, none⟩ = some (.bool false) := Ka_2.out.cell 1
      have vb0 : w2.cell? ⟨w.heap.size + 1, 0, none⟩ = some (.int .i64 gb) := Kb_2.out.cell 0
      have vb1 : w2.cell? ⟨w.heap.size + 1, 1, none⟩ = some (.bool false) := Kb_2.out.cell 1
      go_wp2
      go_ret
      exact ⟨ret_bool E.out.symm, B2.out⟩
    case true =>
      go_enter Try.func37, Try.ntmps37
      have va0 : W0.cell? ⟨w.heap.size, 0, none⟩ = some (.int .i64 ga) := Ka.out.cell 0
      have va1 : W0.cell? ⟨w.heap.size, 1, none⟩ = some (.bool false) := Ka.out.cell 1
      have vb0 : W0.cell? ⟨w.heap.size + 1, 0, none⟩ = some (.int .i64 gb) := Kb.out.cell 0
      have vb1 : W0.cell? ⟨w.heap.size + 1, 1, none⟩ = some (.bool true) := Kb.out.cell 1
      go_wp2_with fail
      rw [← HW0.out]
      clear va0 va1 vb0 vb1
      refine (specRegimeOk ⟨ga, false⟩ _).mono ?_
      rw [HX.out]
      rintro e w1 ⟨rfl, hb1⟩
      have B1 := Lib.hid (B.out.trans (hb1.mono B.out.size))
      have Ka_1 := Lib.hid (Ka.out.below hb1)
      have Kb_1 := Lib.hid (Kb.out.below hb1)
      clear hb1
      have va0 : w1.cell? ⟨w.heap.size, 0, none⟩ = some (.int .i64 ga) := Ka_1.out.cell 0
      have va1 : w1.cell? ⟨w.heap.size, 1, none⟩ = some (.bool false) := Ka_1.out.cell 1
      have vb0 : w1.cell? ⟨w.heap.size + 1, 0, none⟩ = some (.int .i64 gb) := Kb_1.out.cell 0
      have vb1 : w1.cell? ⟨w.heap.size + 1, 1, none⟩ = some (.bool true) := Kb_1.out.cell 1
      go_wp2_with fail
      clear va0 va1 vb0 vb1
      refine (specRegimeOk ⟨gb, true⟩ _).mono ?_
      rw [HY.out]
      rintro e w2 ⟨rfl, hb2⟩
      have B2 := Lib.hid (B1.out.trans (hb2.mono B1.out.size))
      have Ka_2 := Lib.hid (Ka_1.out.below hb2)
      have Kb_2 := Lib.hid (Kb_1.out.below hb2)
      clear hb2
      have va0 : w2.cell? ⟨w.heap.size, 0, none⟩ = some (.int .i64 ga) := Ka_2.out.cell 0
      have va1 : w2.cell? ⟨w.heap.size, 1, none⟩ = some (.bool false) := Ka_2.out.cell 1
      have vb0 : w2.cell? ⟨w.heap.size + 1, 0, none⟩ = some (.int .i64 gb) := Kb_2.out.cell 0
      have vb1 : w2.cell? ⟨w.heap.size + 1, 1, none⟩ = some (.bool true) := Kb_2.out.cell 1
      go_wp2
      go_ret
      exact ⟨ret_bool E.out.symm, B2.out⟩

set_option maxHeartbeats 2000000 in
theorem implStricterRegime (a b : RegimeD) (w : World) : Calls Try.prog 15 #[a.val, b.val] w fun e w' => e = .returned (.bool (strictB a b)) ∧ Below w.heap.size w w' := by
  obtain ⟨ga, ma⟩ := a
  obtain ⟨gb, mb⟩ := b
  dsimp only [RegimeD.val]
  obtain ⟨W0, hW0⟩ : ∃ W0, W0 = (w.alloc (.cells #[.int .i64 ga, .bool ma] 28)).alloc (.cells #[.int .i64 gb, .bool mb] 28) := ⟨_, rfl⟩
  have B := Lib.hid (Joins.below_alloc2 w (.cells #[.int .i64 ga, .bool ma] 28) (.cells #[.int .i64 gb, .bool mb] 28))
  have Ka := Lib.hid ((Blk.new w #[.int .i64 ga, .bool ma] 28).below (Joins.below_alloc1 _ (.cells #[.int .i64 gb, .bool mb] 28)))
  have Kb := Lib.hid (Blk.new (w.alloc (.cells #[.int .i64 ga, .bool ma] 28)) #[.int .i64 gb, .bool mb] 28)
  rw [World.size_alloc] at Kb
  rw [← hW0] at B Ka Kb
  have HW0 := Lib.hid hW0
  clear hW0
  obtain ⟨x, hx⟩ : ∃ x, regB ⟨ga, ma⟩ = x := ⟨_, rfl⟩
  obtain ⟨y, hy⟩ : ∃ y, regB ⟨gb, mb⟩ = y := ⟨_, rfl⟩
  obtain ⟨z, hz⟩ : ∃ z, decide (gb ≤ ga) = z := ⟨_, rfl⟩
  have hz' : decide (ga ≥ gb) = z := hz
  have HX := Lib.hid hx
  have HY := Lib.hid hy
  have E0 := Lib.hid (show strictB ⟨ga, ma⟩ ⟨gb, mb⟩ = (x && y && z && (ma || !mb)) by rw [← hx, ← hy, ← hz]; rfl)
  clear hx hy
  cases x with
  | false =>
    have E := Lib.hid (E0.out.trans (show _ = false by simp))
    go_enter Try.func15, Try.ntmps15
    have va0 : W0.cell? ⟨w.heap.size, 0, none⟩ = some (.int .i64 ga) := Ka.out.cell 0
    have va1 : W0.cell? ⟨w.heap.size, 1, none⟩ = some (.bool ma) := Ka.out.cell 1
    have vb0 : W0.cell? ⟨w.heap.size + 1, 0, none⟩ = some (.int .i64 gb) := Kb.out.cell 0
    have vb1 : W0.cell? ⟨w.heap.size + 1, 1, none⟩ = some (.bool mb) := Kb.out.cell 1
    go_wp2_with fail
    rw [← HW0.out]
    clear va0 va1 vb0 vb1
    refine (implRegimeOk ⟨ga, ma⟩ _).mono ?_
    rw [HX.out]
    rintro e w1 ⟨rfl, hb1⟩
    have B1 := Lib.hid (B.out.trans (hb1.mono B.out.size))
    have Ka_1 := Lib.hid (Ka.out.below hb1)
    have Kb_1 := Lib.hid (Kb.out.below hb1)
    clear hb1
    go_wp2
    go_ret
    exact ⟨ret_bool E.out.symm, B1.out⟩
  | true =>
  cases y with
  | false =>
    have E := Lib.hid (E0.out.trans (show _ = false by simp))
    go_enter Try.func15, Try.ntmps15
    have va0 : W0.cell? ⟨w.heap.size, 0, none⟩ = some (.int .i64 ga) := Ka.out.cell 0
    have va1 : W0.cell? ⟨w.heap.size, 1, none⟩ = some (.bool ma) := Ka.out.cell 1
    have vb0 : W0.cell? ⟨w.heap.size + 1, 0, none⟩ = some (.int .i64 gb) := Kb.out.cell 0
    have vb1 : W0.cell? ⟨w.heap.size + 1, 1, none⟩ = some (.bool mb) := Kb.out.cell 1
    go_wp2_with fail
    rw [← HW0.out]
    clear va0 va1 vb0 vb1
    refine (implRegimeOk ⟨ga, ma⟩ _).mono ?_
    rw [HX.out]
    rintro e w1 ⟨rfl, hb1⟩
    have B1 := Lib.hid (B.out.trans (hb1.mono B.out.size))
    have Ka_1 := Lib.hid (Ka.out.below hb1)
    have Kb_1 := Lib.hid (Kb.out.below hb1)
    clear hb1
    have va0 : w1.cell? ⟨w.heap.size, 0, none⟩ = some (.int .i64 ga) := Ka_1.out.cell 0
    have va1 : w1.cell? ⟨w.heap.size, 1, none⟩ = some (.bool ma) := Ka_1.out.cell 1
    have vb0 : w1.cell? ⟨w.heap.size + 1, 0, none⟩ = some (.int .i64 gb) := Kb_1.out.cell 0
    have vb1 : w1.cell? ⟨w.heap.size + 1, 1, none⟩ = some (.bool mb) := Kb_1.out.cell 1
    go_wp2_with fail
    clear va0 va1 vb0 vb1
    refine (implRegimeOk ⟨gb, mb⟩ _).mono ?_
    rw [HY.out]
    rintro e w2 ⟨rfl, hb2⟩
    have B2 := Lib.hid (B1.out.trans (hb2.mono B1.out.size))
    have Ka_2 := Lib.hid (Ka_1.out.below hb2)
    have Kb_2 := Lib.hid (Kb_1.out.below hb2)
    clear hb2
    have va0 : w2.cell? ⟨w.heap.size, 0, none⟩ = some (.int .i64 ga) := Ka_2.out.cell 0
    have va1 : w2.cell? ⟨w.heap.size, 1, none⟩ = some (.bool ma) := Ka_2.out.cell 1
    have vb0 : w2.cell? ⟨w.heap.size + 1, 0, none⟩ = some (.int .i64 gb) := Kb_2.out.cell 0
    have vb1 : w2.cell? ⟨w.heap.size + 1, 1, none⟩ = some (.bool mb) := Kb_2.out.cell 1
    go_wp2
    go_ret
    exact ⟨ret_bool E.out.symm, B2.out⟩
  | true =>
  cases z with
  | false =>
    have E := Lib.hid (E0.out.trans (show _ = false by simp))
    go_enter Try.func15, Try.ntmps15
    have va0 : W0.cell? ⟨w.heap.size, 0, none⟩ = some (.int .i64 ga) := Ka.out.cell 0
    have va1 : W0.cell? ⟨w.heap.size, 1, none⟩ = some (.bool ma) := Ka.out.cell 1
    have vb0 : W0.cell? ⟨w.heap.size + 1, 0, none⟩ = some (.int .i64 gb) := Kb.out.cell 0
    have vb1 : W0.cell? ⟨w.heap.size + 1, 1, none⟩ = some (.bool mb) := Kb.out.cell 1
    go_wp2_with fail
    rw [← HW0.out]
    clear va0 va1 vb0 vb1
    refine (implRegimeOk ⟨ga, ma⟩ _).mono ?_
    rw [HX.out]
    rintro e w1 ⟨rfl, hb1⟩
    have B1 := Lib.hid (B.out.trans (hb1.mono B.out.size))
    have Ka_1 := Lib.hid (Ka.out.below hb1)
    have Kb_1 := Lib.hid (Kb.out.below hb1)
    clear hb1
    have va0 : w1.cell? ⟨w.heap.size, 0, none⟩ = some (.int .i64 ga) := Ka_1.out.cell 0
    have va1 : w1.cell? ⟨w.heap.size, 1, none⟩ = some (.bool ma) := Ka_1.out.cell 1
    have vb0 : w1.cell? ⟨w.heap.size + 1, 0, none⟩ = some (.int .i64 gb) := Kb_1.out.cell 0
    have vb1 : w1.cell? ⟨w.heap.size + 1, 1, none⟩ = some (.bool mb) := Kb_1.out.cell 1
    go_wp2_with fail
    clear va0 va1 vb0 vb1
    refine (implRegimeOk ⟨gb, mb⟩ _).mono ?_
    rw [HY.out]
    rintro e w2 ⟨rfl, hb2⟩
    have B2 := Lib.hid (B1.out.trans (hb2.mono B1.out.size))
    have Ka_2 := Lib.hid (Ka_1.out.below hb2)
    have Kb_2 := Lib.hid (Kb_1.out.below hb2)
    clear hb2
    have va0 : w2.cell? ⟨w.heap.size, 0, none⟩ = some (.int .i64 ga) := Ka_2.out.cell 0
    have va1 : w2.cell? ⟨w.heap.size, 1, none⟩ = some (.bool ma) := Ka_2.out.cell 1
    have vb0 : w2.cell? ⟨w.heap.size + 1, 0, none⟩ = some (.int .i64 gb) := Kb_2.out.cell 0
    have vb1 : w2.cell? ⟨w.heap.size + 1, 1, none⟩ = some (.bool mb) := Kb_2.out.cell 1
    go_wp2
    go_ret
    exact ⟨ret_bool E.out.symm, B2.out⟩
  | true =>
  cases ma with
  | true =>
    have E := Lib.hid (E0.out.trans (show _ = true by simp))
    go_enter Try.func15, Try.ntmps15
    have va0 : W0.cell? ⟨w.heap.size, 0, none⟩ = some (.int .i64 ga) := Ka.out.cell 0
    have va1 : W0.cell? ⟨w.heap.size, 1, none⟩ = some (.bool true) := Ka.out.cell 1
    have vb0 : W0.cell? ⟨w.heap.size + 1, 0, none⟩ = some (.int .i64 gb) := Kb.out.cell 0
    have vb1 : W0.cell? ⟨w.heap.size + 1, 1, none⟩ = some (.bool mb) := Kb.out.cell 1
    go_wp2_with fail
    rw [← HW0.out]
    clear va0 va1 vb0 vb1
    refine (implRegimeOk ⟨ga, true⟩ _).mono ?_
    rw [HX.out]
    rintro e w1 ⟨rfl, hb1⟩
    have B1 := Lib.hid (B.out.trans (hb1.mono B.out.size))
    have Ka_1 := Lib.hid (Ka.out.below hb1)
    have Kb_1 := Lib.hid (Kb.out.below hb1)
    clear hb1
    have va0 : w1.cell? ⟨w.heap.size, 0, none⟩ = some (.int .i64 ga) := Ka_1.out.cell 0
    have va1 : w1.cell? ⟨w.heap.size, 1, none⟩ = some (.bool true) := Ka_1.out.cell 1
    have vb0 : w1.cell? ⟨w.heap.size + 1, 0, none⟩ = some (.int .i64 gb) := Kb_1.out.cell 0
    have vb1 : w1.cell? ⟨w.heap.size + 1, 1, none⟩ = some (.bool mb) := Kb_1.out.cell 1
    go_wp2_with fail
    clear va0 va1 vb0 vb1
    refine (implRegimeOk ⟨gb, mb⟩ _).mono ?_
    rw [HY.out]
    rintro e w2 ⟨rfl, hb2⟩
    have B2 := Lib.hid (B1.out.trans (hb2.mono B1.out.size))
    have Ka_2 := Lib.hid (Ka_1.out.below hb2)
    have Kb_2 := Lib.hid (Kb_1.out.below hb2)
    clear hb2
    have va0 : w2.cell? ⟨w.heap.size, 0, none⟩ = some (.int .i64 ga) := Ka_2.out.cell 0
    have va1 : w2.cell? ⟨w.heap.size, 1, none⟩ = some (.bool true) := Ka_2.out.cell 1
    have vb0 : w2.cell? ⟨w.heap.size + 1, 0, none⟩ = some (.int .i64 gb) := Kb_2.out.cell 0
    have vb1 : w2.cell? ⟨w.heap.size + 1, 1, none⟩ = some (.bool mb) := Kb_2.out.cell 1
    go_wp2
    go_ret
    exact ⟨ret_bool E.out.symm, B2.out⟩
  | false =>
    have E := Lib.hid (E0.out.trans (by simp : (true && true && true && (false || !mb)) = !mb))
    cases mb
    case false =>
      go_enter Try.func15, Try.ntmps15
      have va0 : W0.cell? ⟨w.heap.size, 0, none⟩ = some (.int .i64 ga) := Ka.out.cell 0
      have va1 : W0.cell? ⟨w.heap.size, 1, none⟩ = some (.bool false) := Ka.out.cell 1
      have vb0 : W0.cell? ⟨w.heap.size + 1, 0, none⟩ = some (.int .i64 gb) := Kb.out.cell 0
      have vb1 : W0.cell? ⟨w.heap.size + 1, 1, none⟩ = some (.bool false) := Kb.out.cell 1
      go_wp2_with fail
      rw [← HW0.out]
      clear va0 va1 vb0 vb1
      refine (implRegimeOk ⟨ga, false⟩ _).mono ?_
      rw [HX.out]
      rintro e w1 ⟨rfl, hb1⟩
      have B1 := Lib.hid (B.out.trans (hb1.mono B.out.size))
      have Ka_1 := Lib.hid (Ka.out.below hb1)
      have Kb_1 := Lib.hid (Kb.out.below hb1)
      clear hb1
      have va0 : w1.cell? ⟨w.heap.size, 0, none⟩ = some (.int .i64 ga) := Ka_1.out.cell 0
      have va1 : w1.cell? ⟨w.heap.size, 1, none⟩ = some (.bool false) := Ka_1.out.cell 1
      have vb0 : w1.cell? ⟨w.heap.size + 1, 0, none⟩ = some (.int .i64 gb) := Kb_1.out.cell 0
      have vb1 : w1.cell? ⟨w.heap.size + 1, 1, none⟩ = some (.bool false) := Kb_1.out.cell 1
      go_wp2_with fail
      clear va0 va1 vb0 vb1
      refine (implRegimeOk ⟨gb, false⟩ _).mono ?_
      rw [HY.out]
      rintro e w2 ⟨rfl, hb2⟩
      have B2 := Lib.hid (B1.out.trans (hb2.mono B1.out.size))
      have Ka_2 := Lib.hid (Ka_1.out.below hb2)
      have Kb_2 := Lib.hid (Kb_1.out.below hb2)
      clear hb2
      have va0 : w2.cell? ⟨w.heap.size, 0, none⟩ = some (.int .i64 ga) := Ka_2.out.cell 0
      have va1 : w2.cell? ⟨w.heap.size, 1, none⟩ = some (.bool false) := Ka_2.out.cell 1
      have vb0 : w2.cell? ⟨w.heap.size + 1, 0, none⟩ = some (.int .i64 gb) := Kb_2.out.cell 0
      have vb1 : w2.cell? ⟨w.heap.size + 1, 1, none⟩ = some (.bool false) := Kb_2.out.cell 1
      go_wp2
      go_ret
      exact ⟨ret_bool E.out.symm, B2.out⟩
    case true =>
      go_enter Try.func15, Try.ntmps15
      have va0 : W0.cell? ⟨w.heap.size, 0, none⟩ = some (.int .i64 ga) := Ka.out.cell 0
      have va1 : W0.cell? ⟨w.heap.size, 1, none⟩ = some (.bool false) := Ka.out.cell 1
      have vb0 : W0.cell? ⟨w.heap.size + 1, 0, none⟩ = some (.int .i64 gb) := Kb.out.cell 0
      have vb1 : W0.cell? ⟨w.heap.size + 1, 1, none⟩ = some (.bool true) := Kb.out.cell 1
      go_wp2_with fail
      rw [← HW0.out]
      clear va0 va1 vb0 vb1
      refine (implRegimeOk ⟨ga, false⟩ _).mono ?_
      rw [HX.out]
      rintro e w1 ⟨rfl, hb1⟩
      have B1 := Lib.hid (B.out.trans (hb1.mono B.out.size))
      have Ka_1 := Lib.hid (Ka.out.below hb1)
      have Kb_1 := Lib.hid (Kb.out.below hb1)
      clear hb1
      have va0 : w1.cell? ⟨w.heap.size, 0, none⟩ = some (.int .i64 ga) := Ka_1.out.cell 0
      have va1 : w1.cell? ⟨w.heap.size, 1, none⟩ = some (.bool false) := Ka_1.out.cell 1
      have vb0 : w1.cell? ⟨w.heap.size + 1, 0, none⟩ = some (.int .i64 gb) := Kb_1.out.cell 0
      have vb1 : w1.cell? ⟨w.heap.size + 1, 1, none⟩ = some (.bool true) := Kb_1.out.cell 1
      go_wp2_with fail
      clear va0 va1 vb0 vb1
      refine (implRegimeOk ⟨gb, true⟩ _).mono ?_
      rw [HY.out]
      rintro e w2 ⟨rfl, hb2⟩
      have B2 := Lib.hid (B1.out.trans (hb2.mono B1.out.size))
      have Ka_2 := Lib.hid (Ka_1.out.below hb2)
      have Kb_2 := Lib.hid (Kb_1.out.below hb2)
      clear hb2
      have va0 : w2.cell? ⟨w.heap.size, 0, none⟩ = some (.int .i64 ga) := Ka_2.out.cell 0
      have va1 : w2.cell? ⟨w.heap.size, 1, none⟩ = some (.bool false) := Ka_2.out.cell 1
      have vb0 : w2.cell? ⟨w.heap.size + 1, 0, none⟩ = some (.int .i64 gb) := Kb_2.out.cell 0
      have vb1 : w2.cell? ⟨w.heap.size + 1, 1, none⟩ = some (.bool true) := Kb_2.out.cell 1
      go_wp2
      go_ret
      exact ⟨ret_bool E.out.symm, B2.out⟩
end Go.Proofs.Ytpglaffmmddcdaa