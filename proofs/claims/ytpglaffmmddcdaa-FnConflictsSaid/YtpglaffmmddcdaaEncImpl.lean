
/- Rules of traffic, the program's side: the four rules of an encounter: contracts. -/
import Derived.Test.YtpglaffmmddcdaaRuleImpl0
import Derived.Deep.RegionHeld3
import Derived.Deep.DeepCutAuto
namespace Go.Proofs.Ytpglaffmmddcdaa
open Go.RowKit
set_option maxRecDepth 100000

def cmpR (x y : Int) : Int := if x < y then -1 else if y < x then 1 else 0
theorem isNaN_anyR (x : Int) (w : World) : Calls Try.prog 95 #[.int .i64 x] w fun e w' => e = .returned (.bool false) ∧ w = w' := by
  go_enter Try.func95, Try.ntmps95
  go_wp2
  go_ret
  exact ⟨ret_bool (by simp), rfl⟩
theorem compare_anyR (x y : Int) (w : World) : Calls Try.prog 89 #[.int .i64 x, .int .i64 y] w fun e w' => e = .returned (.int .i64 (cmpR x y)) ∧ w = w' := by
  have go : ∀ r : Int, r = cmpR x y → Calls Try.prog 89 #[.int .i64 x, .int .i64 y] w fun e w' => e = .returned (.int .i64 r) ∧ w = w' := by
    intro r hr
    by_cases h1 : x < y
    · have E := Lib.hid (show r = -1 by rw [hr]; exact if_pos h1)
      clear hr
      go_enter Try.func89, Try.ntmps89
      go_wp2_with (first | (go_at_call 95; refine (isNaN_anyR _ _).mono ?_; rintro e w' ⟨rfl, rfl⟩))
      go_ret
      exact ⟨ret_int E.out.symm, rfl⟩
    · have n1 : decide (x < y) = false := decide_eq_false h1
      by_cases h2 : y < x
      · have E := Lib.hid (show r = 1 by rw [hr]; unfold cmpR; rw [if_neg h1, if_pos h2])
        clear hr h1
        go_enter Try.func89, Try.ntmps89
        go_wp2_with (first | (go_at_call 95; refine (isNaN_anyR _ _).mono ?_; rintro e w' ⟨rfl, rfl⟩))
        go_ret
        exact ⟨ret_int E.out.symm, rfl⟩
      · have E := Lib.hid (show r = 0 by rw [hr]; unfold cmpR; rw [if_neg h1, if_neg h2])
        have n2 : decide (y < x) = false := decide_eq_false h2
        clear hr h1 h2
        go_enter Try.func89, Try.ntmps89
        go_wp2_with (first | (go_at_call 95; refine (isNaN_anyR _ _).mono ?_; rintro e w' ⟨rfl, rfl⟩))
        go_ret
        exact ⟨ret_int E.out.symm, rfl⟩
  exact go _ rfl
theorem below_eqR {w w' : World} (h : w = w') : Below w.heap.size w w' := by rw [← h]; exact Below.refl _ _
theorem cmpR_neg (a b c d : Int) : IntKind.i64.wrap (cmpR a b * cmpR c d) = cmpR a b * cmpR c d := by
  unfold cmpR
  rw [IntKind.wrap_i64]
  repeat' split
  all_goals omega
theorem cmpR_passed (p q : PassageD) : decide (cmpR p.start q.start * cmpR p.stop q.stop < 0) = passedB p q := by
  unfold cmpR passedB
  by_cases h1 : p.start < q.start <;> by_cases h2 : q.start < p.start <;> by_cases h3 : p.stop < q.stop <;> by_cases h4 : q.stop < p.stop <;> simp [h1, h2, h3, h4] <;> omega

set_option maxHeartbeats 4000000 in
theorem isFollowing_any (p q : PassageD) (m : Bool) (g : Int) (w : World)  :
    Calls Try.prog 87 #[.agg #[.int .i64 p.ship, .int .i64 p.segment, .bool p.toward, .int .i64 p.start, .int .i64 p.stop, .int .i64 q.ship, .int .i64 q.segment, .bool q.toward, .int .i64 q.start, .int .i64 q.stop, .bool m, .int .i64 g]] w (fun e' w' => e' = .returned (.bool (followB p q)) ∧ Below w.heap.size w w') := by
  obtain ⟨W0, hW0⟩ : ∃ W0, W0 = (w.alloc (.cells #[.int .i64 p.ship, .int .i64 p.segment, .bool p.toward, .int .i64 p.start, .int .i64 p.stop, .int .i64 q.ship, .int .i64 q.segment, .bool q.toward, .int .i64 q.start, .int .i64 q.stop, .bool m, .int .i64 g] 106)) := ⟨_, rfl⟩
  have B := Lib.hid (Joins.below_alloc1 w (.cells #[.int .i64 p.ship, .int .i64 p.segment, .bool p.toward, .int .i64 p.start, .int .i64 p.stop, .int .i64 q.ship, .int .i64 q.segment, .bool q.toward, .int .i64 q.start, .int .i64 q.stop, .bool m, .int .i64 g] 106))
  have Ke := Lib.hid (Blk.new w #[.int .i64 p.ship, .int .i64 p.segment, .bool p.toward, .int .i64 p.start, .int .i64 p.stop, .int .i64 q.ship, .int .i64 q.segment, .bool q.toward, .int .i64 q.start, .int .i64 q.stop, .bool m, .int .i64 g] 106)
  have HW0 := Lib.hid hW0
  rw [← hW0] at B Ke
  clear hW0
  have E0 := Lib.hid (show followB p q = (!(p.ship == q.ship) && (p.toward == q.toward)) from rfl)
  by_cases h5 : p.ship = q.ship
  · have hs : (p.ship != q.ship) = false := by simpa using h5
    have E := Lib.hid (show followB p q = false by rw [E0.out, h5]; simp)
    clear h5
    go_enter Try.func87, Try.ntmps87
    go_wp2
    go_ret
    exact ⟨ret_bool E.out.symm, by rw [← HW0.out]; exact B.out⟩
  have hs : (p.ship != q.ship) = true := by simpa using h5
  obtain ⟨t, ht⟩ : ∃ t, (p.toward == q.toward) = t := ⟨_, rfl⟩
  have E := Lib.hid (show followB p q = t by rw [E0.out, ht]; simp [h5])
  go_enter Try.func87, Try.ntmps87
  go_wp2
  go_ret
  exact ⟨ret_bool E.out.symm, by rw [← HW0.out]; exact B.out⟩

set_option maxHeartbeats 4000000 in
theorem isTwice_any (p q : PassageD) (m : Bool) (g : Int) (w : World)  :
    Calls Try.prog 79 #[.agg #[.int .i64 p.ship, .int .i64 p.segment, .bool p.toward, .int .i64 p.start, .int .i64 p.stop, .int .i64 q.ship, .int .i64 q.segment, .bool q.toward, .int .i64 q.start, .int .i64 q.stop, .bool m, .int .i64 g]] w (fun e' w' => e' = .returned (.bool (twiceB p q)) ∧ Below w.heap.size w w') := by
  obtain ⟨W0, hW0⟩ : ∃ W0, W0 = (w.alloc (.cells #[.int .i64 p.ship, .int .i64 p.segment, .bool p.toward, .int .i64 p.start, .int .i64 p.stop, .int .i64 q.ship, .int .i64 q.segment, .bool q.toward, .int .i64 q.start, .int .i64 q.stop, .bool m, .int .i64 g] 106)) := ⟨_, rfl⟩
  have B := Lib.hid (Joins.below_alloc1 w (.cells #[.int .i64 p.ship, .int .i64 p.segment, .bool p.toward, .int .i64 p.start, .int .i64 p.stop, .int .i64 q.ship, .int .i64 q.segment, .bool q.toward, .int .i64 q.start, .int .i64 q.stop, .bool m, .int .i64 g] 106))
  have Ke := Lib.hid (Blk.new w #[.int .i64 p.ship, .int .i64 p.segment, .bool p.toward, .int .i64 p.start, .int .i64 p.stop, .int .i64 q.ship, .int .i64 q.segment, .bool q.toward, .int .i64 q.start, .int .i64 q.stop, .bool m, .int .i64 g] 106)
  have HW0 := Lib.hid hW0
  rw [← hW0] at B Ke
  clear hW0
  have E0 := Lib.hid (show twiceB p q = ((p.ship == q.ship) && overB p q) from rfl)
  by_cases h5 : p.ship = q.ship
  rotate_left
  · have hs : (p.ship == q.ship) = false := by simpa using h5
    have E := Lib.hid (show twiceB p q = false by rw [E0.out, hs]; rfl)
    go_enter Try.func79, Try.ntmps79
    go_wp2
    go_ret
    exact ⟨ret_bool E.out.symm, by rw [← HW0.out]; exact B.out⟩
  have hs : (p.ship == q.ship) = true := by simpa using h5
  obtain ⟨t, ht⟩ : ∃ t, overB p q = t := ⟨_, rfl⟩
  have E := Lib.hid (show twiceB p q = t by rw [E0.out, ht, hs]; rfl)
  have HT := Lib.hid ht
  clear ht h5
  go_enter Try.func79, Try.ntmps79
  have ve0 : W0.cell? ⟨w.heap.size, 0, none⟩ = some (.int .i64 p.ship) := Ke.out.cell 0
  have ve1 : W0.cell? ⟨w.heap.size, 1, none⟩ = some (.int .i64 p.segment) := Ke.out.cell 1
  have ve2 : W0.cell? ⟨w.heap.size, 2, none⟩ = some (.bool p.toward) := Ke.out.cell 2
  have ve3 : W0.cell? ⟨w.heap.size, 3, none⟩ = some (.int .i64 p.start) := Ke.out.cell 3
  have ve4 : W0.cell? ⟨w.heap.size, 4, none⟩ = some (.int .i64 p.stop) := Ke.out.cell 4
  have ve5 : W0.cell? ⟨w.heap.size, 5, none⟩ = some (.int .i64 q.ship) := Ke.out.cell 5
  have ve6 : W0.cell? ⟨w.heap.size, 6, none⟩ = some (.int .i64 q.segment) := Ke.out.cell 6
  have ve7 : W0.cell? ⟨w.heap.size, 7, none⟩ = some (.bool q.toward) := Ke.out.cell 7
  have ve8 : W0.cell? ⟨w.heap.size, 8, none⟩ = some (.int .i64 q.start) := Ke.out.cell 8
  have ve9 : W0.cell? ⟨w.heap.size, 9, none⟩ = some (.int .i64 q.stop) := Ke.out.cell 9
  have ve10 : W0.cell? ⟨w.heap.size, 10, none⟩ = some (.bool m) := Ke.out.cell 10
  have ve11 : W0.cell? ⟨w.heap.size, 11, none⟩ = some (.int .i64 g) := Ke.out.cell 11
  go_wp2_with fail
  rw [← HW0.out]
  clear ve0 ve1 ve2 ve3 ve4 ve5 ve6 ve7 ve8 ve9 ve10 ve11
  refine (implOverlaps p q _).mono ?_
  rw [HT.out]
  rintro e' w1 ⟨rfl, hb1⟩
  have B1 := Lib.hid (B.out.trans (hb1.mono B.out.size))
  have Ke_1 := Lib.hid (Ke.out.below hb1)
  clear hb1
  have ve0 : w1.cell? ⟨w.heap.size, 0, none⟩ = some (.int .i64 p.ship) := Ke_1.out.cell 0
  have ve1 : w1.cell? ⟨w.heap.size, 1, none⟩ = some (.int .i64 p.segment) := Ke_1.out.cell 1
  have ve2 : w1.cell? ⟨w.heap.size, 2, none⟩ = some (.bool p.toward) := Ke_1.out.cell 2
  have ve3 : w1.cell? ⟨w.heap.size, 3, none⟩ = some (.int .i64 p.start) := Ke_1.out.cell 3
  have ve4 : w1.cell? ⟨w.heap.size, 4, none⟩ = some (.int .i64 p.stop) := Ke_1.out.cell 4
  have ve5 : w1.cell? ⟨w.heap.size, 5, none⟩ = some (.int .i64 q.ship) := Ke_1.out.cell 5
  have ve6 : w1.cell? ⟨w.heap.size, 6, none⟩ = some (.int .i64 q.segment) := Ke_1.out.cell 6
  have ve7 : w1.cell? ⟨w.heap.size, 7, none⟩ = some (.bool q.toward) := Ke_1.out.cell 7
  have ve8 : w1.cell? ⟨w.heap.size, 8, none⟩ = some (.int .i64 q.start) := Ke_1.out.cell 8
  have ve9 : w1.cell? ⟨w.heap.size, 9, none⟩ = some (.int .i64 q.stop) := Ke_1.out.cell 9
  have ve10 : w1.cell? ⟨w.heap.size, 10, none⟩ = some (.bool m) := Ke_1.out.cell 10
  have ve11 : w1.cell? ⟨w.heap.size, 11, none⟩ = some (.int .i64 g) := Ke_1.out.cell 11
  go_wp2
  go_ret
  exact ⟨ret_bool E.out.symm, B1.out⟩

set_option maxHeartbeats 4000000 in
theorem isForbidden_any (p q : PassageD) (m : Bool) (g : Int) (w : World)  :
    Calls Try.prog 80 #[.agg #[.int .i64 p.ship, .int .i64 p.segment, .bool p.toward, .int .i64 p.start, .int .i64 p.stop, .int .i64 q.ship, .int .i64 q.segment, .bool q.toward, .int .i64 q.start, .int .i64 q.stop, .bool m, .int .i64 g]] w (fun e' w' => e' = .returned (.bool (meetB m p q)) ∧ Below w.heap.size w w') := by
  obtain ⟨W0, hW0⟩ : ∃ W0, W0 = (w.alloc (.cells #[.int .i64 p.ship, .int .i64 p.segment, .bool p.toward, .int .i64 p.start, .int .i64 p.stop, .int .i64 q.ship, .int .i64 q.segment, .bool q.toward, .int .i64 q.start, .int .i64 q.stop, .bool m, .int .i64 g] 106)) := ⟨_, rfl⟩
  have B := Lib.hid (Joins.below_alloc1 w (.cells #[.int .i64 p.ship, .int .i64 p.segment, .bool p.toward, .int .i64 p.start, .int .i64 p.stop, .int .i64 q.ship, .int .i64 q.segment, .bool q.toward, .int .i64 q.start, .int .i64 q.stop, .bool m, .int .i64 g] 106))
  have Ke := Lib.hid (Blk.new w #[.int .i64 p.ship, .int .i64 p.segment, .bool p.toward, .int .i64 p.start, .int .i64 p.stop, .int .i64 q.ship, .int .i64 q.segment, .bool q.toward, .int .i64 q.start, .int .i64 q.stop, .bool m, .int .i64 g] 106)
  have HW0 := Lib.hid hW0
  rw [← hW0] at B Ke
  clear hW0
  have E0 := Lib.hid (show meetB m p q = (!(p.ship == q.ship) && (p.toward != q.toward) && !m && overB p q) from rfl)
  by_cases h5 : p.ship = q.ship
  · have hs : (p.ship != q.ship) = false := by simpa using h5
    have E := Lib.hid (show meetB m p q = false by rw [E0.out, h5]; simp)
    clear h5
    go_enter Try.func80, Try.ntmps80
    go_wp2
    go_ret
    exact ⟨ret_bool E.out.symm, by rw [← HW0.out]; exact B.out⟩
  have hs : (p.ship != q.ship) = true := by simpa using h5
  by_cases h6 : p.toward = q.toward
  · have ht : (p.toward == q.toward) = true := by simpa using h6
    have E := Lib.hid (show meetB m p q = false by rw [E0.out, h6]; simp)
    clear h6
    go_enter Try.func80, Try.ntmps80
    go_wp2
    go_ret
    exact ⟨ret_bool E.out.symm, by rw [← HW0.out]; exact B.out⟩
  have ht : (p.toward == q.toward) = false := by simpa using h6
  cases m with
  | true =>
    have E := Lib.hid (show meetB true p q = false by rw [E0.out]; simp)
    clear h5 h6
    go_enter Try.func80, Try.ntmps80
    go_wp2
    go_ret
    exact ⟨ret_bool E.out.symm, by rw [← HW0.out]; exact B.out⟩
  | false =>
    obtain ⟨t, hto⟩ : ∃ t, overB p q = t := ⟨_, rfl⟩
    have E := Lib.hid (show meetB false p q = t by rw [E0.out, hto]; simp [h5, h6])
    have HT := Lib.hid hto
    clear hto h5 h6
    go_enter Try.func80, Try.ntmps80
    have ve0 : W0.cell? ⟨w.heap.size, 0, none⟩ = some (.int .i64 p.ship) := Ke.out.cell 0
    have ve1 : W0.cell? ⟨w.heap.size, 1, none⟩ = some (.int .i64 p.segment) := Ke.out.cell 1
    have ve2 : W0.cell? ⟨w.heap.size, 2, none⟩ = some (.bool p.toward) := Ke.out.cell 2
    have ve3 : W0.cell? ⟨w.heap.size, 3, none⟩ = some (.int .i64 p.start) := Ke.out.cell 3
    have ve4 : W0.cell? ⟨w.heap.size, 4, none⟩ = some (.int .i64 p.stop) := Ke.out.cell 4
    have ve5 : W0.cell? ⟨w.heap.size, 5, none⟩ = some (.int .i64 q.ship) := Ke.out.cell 5
    have ve6 : W0.cell? ⟨w.heap.size, 6, none⟩ = some (.int .i64 q.segment) := Ke.out.cell 6
    have ve7 : W0.cell? ⟨w.heap.size, 7, none⟩ = some (.bool q.toward) := Ke.out.cell 7
    have ve8 : W0.cell? ⟨w.heap.size, 8, none⟩ = some (.int .i64 q.start) := Ke.out.cell 8
    have ve9 : W0.cell? ⟨w.heap.size, 9, none⟩ = some (.int .i64 q.stop) := Ke.out.cell 9
    have ve10 : W0.cell? ⟨w.heap.size, 10, none⟩ = some (.bool false) := Ke.out.cell 10
    have ve11 : W0.cell? ⟨w.heap.size, 11, none⟩ = some (.int .i64 g) := Ke.out.cell 11
    go_wp2_with fail
    rw [← HW0.out]
    clear ve0 ve1 ve2 ve3 ve4 ve5 ve6 ve7 ve8 ve9 ve10 ve11
    refine (implOverlaps p q _).mono ?_
    rw [HT.out]
    rintro e' w1 ⟨rfl, hb1⟩
    have B1 := Lib.hid (B.out.trans (hb1.mono B.out.size))
    have Ke_1 := Lib.hid (Ke.out.below hb1)
    clear hb1
    have ve0 : w1.cell? ⟨w.heap.size, 0, none⟩ = some (.int .i64 p.ship) := Ke_1.out.cell 0
    have ve1 : w1.cell? ⟨w.heap.size, 1, none⟩ = some (.int .i64 p.segment) := Ke_1.out.cell 1
    have ve2 : w1.cell? ⟨w.heap.size, 2, none⟩ = some (.bool p.toward) := Ke_1.out.cell 2
    have ve3 : w1.cell? ⟨w.heap.size, 3, none⟩ = some (.int .i64 p.start) := Ke_1.out.cell 3
    have ve4 : w1.cell? ⟨w.heap.size, 4, none⟩ = some (.int .i64 p.stop) := Ke_1.out.cell 4
    have ve5 : w1.cell? ⟨w.heap.size, 5, none⟩ = some (.int .i64 q.ship) := Ke_1.out.cell 5
    have ve6 : w1.cell? ⟨w.heap.size, 6, none⟩ = some (.int .i64 q.segment) := Ke_1.out.cell 6
    have ve7 : w1.cell? ⟨w.heap.size, 7, none⟩ = some (.bool q.toward) := Ke_1.out.cell 7
    have ve8 : w1.cell? ⟨w.heap.size, 8, none⟩ = some (.int .i64 q.start) := Ke_1.out.cell 8
    have ve9 : w1.cell? ⟨w.heap.size, 9, none⟩ = some (.int .i64 q.stop) := Ke_1.out.cell 9
    have ve10 : w1.cell? ⟨w.heap.size, 10, none⟩ = some (.bool false) := Ke_1.out.cell 10
    have ve11 : w1.cell? ⟨w.heap.size, 11, none⟩ = some (.int .i64 g) := Ke_1.out.cell 11
    go_wp2
    go_ret
    exact ⟨ret_bool E.out.symm, B1.out⟩

set_option maxHeartbeats 4000000 in
theorem isTooClose_any (p q : PassageD) (m : Bool) (g : Int) (w : World)  (hp : p.wf) (hq : q.wf) (g0 : 0 ≤ g) (g1 : g ≤ 60) :
    Calls Try.prog 81 #[.agg #[.int .i64 p.ship, .int .i64 p.segment, .bool p.toward, .int .i64 p.start, .int .i64 p.stop, .int .i64 q.ship, .int .i64 q.segment, .bool q.toward, .int .i64 q.start, .int .i64 q.stop, .bool m, .int .i64 g]] w (fun e' w' => e' = .returned (.bool (closeB g p q)) ∧ Below w.heap.size w w') := by
  obtain ⟨W0, hW0⟩ : ∃ W0, W0 = (w.alloc (.cells #[.int .i64 p.ship, .int .i64 p.segment, .bool p.toward, .int .i64 p.start, .int .i64 p.stop, .int .i64 q.ship, .int .i64 q.segment, .bool q.toward, .int .i64 q.start, .int .i64 q.stop, .bool m, .int .i64 g] 106)) := ⟨_, rfl⟩
  have B := Lib.hid (Joins.below_alloc1 w (.cells #[.int .i64 p.ship, .int .i64 p.segment, .bool p.toward, .int .i64 p.start, .int .i64 p.stop, .int .i64 q.ship, .int .i64 q.segment, .bool q.toward, .int .i64 q.start, .int .i64 q.stop, .bool m, .int .i64 g] 106))
  have Ke := Lib.hid (Blk.new w #[.int .i64 p.ship, .int .i64 p.segment, .bool p.toward, .int .i64 p.start, .int .i64 p.stop, .int .i64 q.ship, .int .i64 q.segment, .bool q.toward, .int .i64 q.start, .int .i64 q.stop, .bool m, .int .i64 g] 106)
  have HW0 := Lib.hid hW0
  rw [← hW0] at B Ke
  clear hW0
  obtain ⟨f1, f2, f3, f4⟩ := hp
  obtain ⟨k1, k2, k3, k4⟩ := hq
  have Wf3 := Lib.hid f3
  have Wf4 := Lib.hid f4
  have Wg3 := Lib.hid k3
  have Wg4 := Lib.hid k4
  have G0 := Lib.hid g0
  have G1 := Lib.hid g1
  clear f1 f2 f3 f4 k1 k2 k3 k4 g0 g1
  obtain ⟨x, hx⟩ : ∃ x, followB p q = x := ⟨_, rfl⟩
  obtain ⟨y, hy⟩ : ∃ y, nearB p.start q.start g = y := ⟨_, rfl⟩
  obtain ⟨z, hz⟩ : ∃ z, nearB p.stop q.stop g = z := ⟨_, rfl⟩
  have E0 := Lib.hid (show closeB g p q = (x && (y || z)) by rw [← hx, ← hy, ← hz]; rfl)
  have HX := Lib.hid hx
  have HY := Lib.hid hy
  have HZ := Lib.hid hz
  clear hx hy hz
  cases x with
  | false =>
    have E := Lib.hid (E0.out.trans (show _ = false by rfl))
    go_enter Try.func81, Try.ntmps81
    have ve0 : W0.cell? ⟨w.heap.size, 0, none⟩ = some (.int .i64 p.ship) := Ke.out.cell 0
    have ve1 : W0.cell? ⟨w.heap.size, 1, none⟩ = some (.int .i64 p.segment) := Ke.out.cell 1
    have ve2 : W0.cell? ⟨w.heap.size, 2, none⟩ = some (.bool p.toward) := Ke.out.cell 2
    have ve3 : W0.cell? ⟨w.heap.size, 3, none⟩ = some (.int .i64 p.start) := Ke.out.cell 3
    have ve4 : W0.cell? ⟨w.heap.size, 4, none⟩ = some (.int .i64 p.stop) := Ke.out.cell 4
    have ve5 : W0.cell? ⟨w.heap.size, 5, none⟩ = some (.int .i64 q.ship) := Ke.out.cell 5
    have ve6 : W0.cell? ⟨w.heap.size, 6, none⟩ = some (.int .i64 q.segment) := Ke.out.cell 6
    have ve7 : W0.cell? ⟨w.heap.size, 7, none⟩ = some (.bool q.toward) := Ke.out.cell 7
    have ve8 : W0.cell? ⟨w.heap.size, 8, none⟩ = some (.int .i64 q.start) := Ke.out.cell 8
    have ve9 : W0.cell? ⟨w.heap.size, 9, none⟩ = some (.int .i64 q.stop) := Ke.out.cell 9
    have ve10 : W0.cell? ⟨w.heap.size, 10, none⟩ = some (.bool m) := Ke.out.cell 10
    have ve11 : W0.cell? ⟨w.heap.size, 11, none⟩ = some (.int .i64 g) := Ke.out.cell 11
    go_wp2_with fail
    rw [← HW0.out]
    clear ve0 ve1 ve2 ve3 ve4 ve5 ve6 ve7 ve8 ve9 ve10 ve11
    refine (isFollowing_any p q m g _).mono ?_
    rw [HX.out]
    rintro e' w1 ⟨rfl, hb1⟩
    have B1 := Lib.hid (B.out.trans (hb1.mono B.out.size))
    have Ke_1 := Lib.hid (Ke.out.below hb1)
    clear hb1
    have ve0 : w1.cell? ⟨w.heap.size, 0, none⟩ = some (.int .i64 p.ship) := Ke_1.out.cell 0
    have ve1 : w1.cell? ⟨w.heap.size, 1, none⟩ = some (.int .i64 p.segment) := Ke_1.out.cell 1
    have ve2 : w1.cell? ⟨w.heap.size, 2, none⟩ = some (.bool p.toward) := Ke_1.out.cell 2
    have ve3 : w1.cell? ⟨w.heap.size, 3, none⟩ = some (.int .i64 p.start) := Ke_1.out.cell 3
    have ve4 : w1.cell? ⟨w.heap.size, 4, none⟩ = some (.int .i64 p.stop) := Ke_1.out.cell 4
    have ve5 : w1.cell? ⟨w.heap.size, 5, none⟩ = some (.int .i64 q.ship) := Ke_1.out.cell 5
    have ve6 : w1.cell? ⟨w.heap.size, 6, none⟩ = some (.int .i64 q.segment) := Ke_1.out.cell 6
    have ve7 : w1.cell? ⟨w.heap.size, 7, none⟩ = some (.bool q.toward) := Ke_1.out.cell 7
    have ve8 : w1.cell? ⟨w.heap.size, 8, none⟩ = some (.int .i64 q.start) := Ke_1.out.cell 8
    have ve9 : w1.cell? ⟨w.heap.size, 9, none⟩ = some (.int .i64 q.stop) := Ke_1.out.cell 9
    have ve10 : w1.cell? ⟨w.heap.size, 10, none⟩ = some (.bool m) := Ke_1.out.cell 10
    have ve11 : w1.cell? ⟨w.heap.size, 11, none⟩ = some (.int .i64 g) := Ke_1.out.cell 11
    go_wp2
    go_ret
    exact ⟨ret_bool E.out.symm, B1.out⟩
  | true =>
  cases y with
  | true =>
    have E := Lib.hid (E0.out.trans (show _ = true by rfl))
    go_enter Try.func81, Try.ntmps81
    have ve0 : W0.cell? ⟨w.heap.size, 0, none⟩ = some (.int .i64 p.ship) := Ke.out.cell 0
    have ve1 : W0.cell? ⟨w.heap.size, 1, none⟩ = some (.int .i64 p.segment) := Ke.out.cell 1
    have ve2 : W0.cell? ⟨w.heap.size, 2, none⟩ = some (.bool p.toward) := Ke.out.cell 2
    have ve3 : W0.cell? ⟨w.heap.size, 3, none⟩ = some (.int .i64 p.start) := Ke.out.cell 3
    have ve4 : W0.cell? ⟨w.heap.size, 4, none⟩ = some (.int .i64 p.stop) := Ke.out.cell 4
    have ve5 : W0.cell? ⟨w.heap.size, 5, none⟩ = some (.int .i64 q.ship) := Ke.out.cell 5
    have ve6 : W0.cell? ⟨w.heap.size, 6, none⟩ = some (.int .i64 q.segment) := Ke.out.cell 6
    have ve7 : W0.cell? ⟨w.heap.size, 7, none⟩ = some (.bool q.toward) := Ke.out.cell 7
    have ve8 : W0.cell? ⟨w.heap.size, 8, none⟩ = some (.int .i64 q.start) := Ke.out.cell 8
    have ve9 : W0.cell? ⟨w.heap.size, 9, none⟩ = some (.int .i64 q.stop) := Ke.out.cell 9
    have ve10 : W0.cell? ⟨w.heap.size, 10, none⟩ = some (.bool m) := Ke.out.cell 10
    have ve11 : W0.cell? ⟨w.heap.size, 11, none⟩ = some (.int .i64 g) := Ke.out.cell 11
    go_wp2_with fail
    rw [← HW0.out]
    clear ve0 ve1 ve2 ve3 ve4 ve5 ve6 ve7 ve8 ve9 ve10 ve11
    refine (isFollowing_any p q m g _).mono ?_
    rw [HX.out]
    rintro e' w1 ⟨rfl, hb1⟩
    have B1 := Lib.hid (B.out.trans (hb1.mono B.out.size))
    have Ke_1 := Lib.hid (Ke.out.below hb1)
    clear hb1
    have ve0 : w1.cell? ⟨w.heap.size, 0, none⟩ = some (.int .i64 p.ship) := Ke_1.out.cell 0
    have ve1 : w1.cell? ⟨w.heap.size, 1, none⟩ = some (.int .i64 p.segment) := Ke_1.out.cell 1
    have ve2 : w1.cell? ⟨w.heap.size, 2, none⟩ = some (.bool p.toward) := Ke_1.out.cell 2
    have ve3 : w1.cell? ⟨w.heap.size, 3, none⟩ = some (.int .i64 p.start) := Ke_1.out.cell 3
    have ve4 : w1.cell? ⟨w.heap.size, 4, none⟩ = some (.int .i64 p.stop) := Ke_1.out.cell 4
    have ve5 : w1.cell? ⟨w.heap.size, 5, none⟩ = some (.int .i64 q.ship) := Ke_1.out.cell 5
    have ve6 : w1.cell? ⟨w.heap.size, 6, none⟩ = some (.int .i64 q.segment) := Ke_1.out.cell 6
    have ve7 : w1.cell? ⟨w.heap.size, 7, none⟩ = some (.bool q.toward) := Ke_1.out.cell 7
    have ve8 : w1.cell? ⟨w.heap.size, 8, none⟩ = some (.int .i64 q.start) := Ke_1.out.cell 8
    have ve9 : w1.cell? ⟨w.heap.size, 9, none⟩ = some (.int .i64 q.stop) := Ke_1.out.cell 9
    have ve10 : w1.cell? ⟨w.heap.size, 10, none⟩ = some (.bool m) := Ke_1.out.cell 10
    have ve11 : w1.cell? ⟨w.heap.size, 11, none⟩ = some (.int .i64 g) := Ke_1.out.cell 11
    go_wp2_with fail
    clear ve0 ve1 ve2 ve3 ve4 ve5 ve6 ve7 ve8 ve9 ve10 ve11
    refine (differByLess_any _ _ _ _ Wf3.out Wg3.out G0.out G1.out).mono ?_
    rw [HY.out]
    rintro e' wz ⟨rfl, rfl⟩
    have ve0 : w1.cell? ⟨w.heap.size, 0, none⟩ = some (.int .i64 p.ship) := Ke_1.out.cell 0
    have ve1 : w1.cell? ⟨w.heap.size, 1, none⟩ = some (.int .i64 p.segment) := Ke_1.out.cell 1
    have ve2 : w1.cell? ⟨w.heap.size, 2, none⟩ = some (.bool p.toward) := Ke_1.out.cell 2
    have ve3 : w1.cell? ⟨w.heap.size, 3, none⟩ = some (.int .i64 p.start) := Ke_1.out.cell 3
    have ve4 : w1.cell? ⟨w.heap.size, 4, none⟩ = some (.int .i64 p.stop) := Ke_1.out.cell 4
    have ve5 : w1.cell? ⟨w.heap.size, 5, none⟩ = some (.int .i64 q.ship) := Ke_1.out.cell 5
    have ve6 : w1.cell? ⟨w.heap.size, 6, none⟩ = some (.int .i64 q.segment) := Ke_1.out.cell 6
    have ve7 : w1.cell? ⟨w.heap.size, 7, none⟩ = some (.bool q.toward) := Ke_1.out.cell 7
    have ve8 : w1.cell? ⟨w.heap.size, 8, none⟩ = some (.int .i64 q.start) := Ke_1.out.cell 8
    have ve9 : w1.cell? ⟨w.heap.size, 9, none⟩ = some (.int .i64 q.stop) := Ke_1.out.cell 9
    have ve10 : w1.cell? ⟨w.heap.size, 10, none⟩ = some (.bool m) := Ke_1.out.cell 10
    have ve11 : w1.cell? ⟨w.heap.size, 11, none⟩ = some (.int .i64 g) := Ke_1.out.cell 11
    go_wp2
    go_ret
    exact ⟨ret_bool E.out.symm, B1.out⟩
  | false =>
  have E := Lib.hid (E0.out.trans (show _ = z by simp))
  go_enter Try.func81, Try.ntmps81
  have ve0 : W0.cell? ⟨w.heap.size, 0, none⟩ = some (.int .i64 p.ship) := Ke.out.cell 0
  have ve1 : W0.cell? ⟨w.heap.size, 1, none⟩ = some (.int .i64 p.segment) := Ke.out.cell 1
  have ve2 : W0.cell? ⟨w.heap.size, 2, none⟩ = some (.bool p.toward) := Ke.out.cell 2
  have ve3 : W0.cell? ⟨w.heap.size, 3, none⟩ = some (.int .i64 p.start) := Ke.out.cell 3
  have ve4 : W0.cell? ⟨w.heap.size, 4, none⟩ = some (.int .i64 p.stop) := Ke.out.cell 4
  have ve5 : W0.cell? ⟨w.heap.size, 5, none⟩ = some (.int .i64 q.ship) := Ke.out.cell 5
  have ve6 : W0.cell? ⟨w.heap.size, 6, none⟩ = some (.int .i64 q.segment) := Ke.out.cell 6
  have ve7 : W0.cell? ⟨w.heap.size, 7, none⟩ = some (.bool q.toward) := Ke.out.cell 7
  have ve8 : W0.cell? ⟨w.heap.size, 8, none⟩ = some (.int .i64 q.start) := Ke.out.cell 8
  have ve9 : W0.cell? ⟨w.heap.size, 9, none⟩ = some (.int .i64 q.stop) := Ke.out.cell 9
  have ve10 : W0.cell? ⟨w.heap.size, 10, none⟩ = some (.bool m) := Ke.out.cell 10
  have ve11 : W0.cell? ⟨w.heap.size, 11, none⟩ = some (.int .i64 g) := Ke.out.cell 11
  go_wp2_with fail
  rw [← HW0.out]
  clear ve0 ve1 ve2 ve3 ve4 ve5 ve6 ve7 ve8 ve9 ve10 ve11
  refine (isFollowing_any p q m g _).mono ?_
  rw [HX.out]
  rintro e' w1 ⟨rfl, hb1⟩
  have B1 := Lib.hid (B.out.trans (hb1.mono B.out.size))
  have Ke_1 := Lib.hid (Ke.out.below hb1)
  clear hb1
  have ve0 : w1.cell? ⟨w.heap.size, 0, none⟩ = some (.int .i64 p.ship) := Ke_1.out.cell 0
  have ve1 : w1.cell? ⟨w.heap.size, 1, none⟩ = some (.int .i64 p.segment) := Ke_1.out.cell 1
  have ve2 : w1.cell? ⟨w.heap.size, 2, none⟩ = some (.bool p.toward) := Ke_1.out.cell 2
  have ve3 : w1.cell? ⟨w.heap.size, 3, none⟩ = some (.int .i64 p.start) := Ke_1.out.cell 3
  have ve4 : w1.cell? ⟨w.heap.size, 4, none⟩ = some (.int .i64 p.stop) := Ke_1.out.cell 4
  have ve5 : w1.cell? ⟨w.heap.size, 5, none⟩ = some (.int .i64 q.ship) := Ke_1.out.cell 5
  have ve6 : w1.cell? ⟨w.heap.size, 6, none⟩ = some (.int .i64 q.segment) := Ke_1.out.cell 6
  have ve7 : w1.cell? ⟨w.heap.size, 7, none⟩ = some (.bool q.toward) := Ke_1.out.cell 7
  have ve8 : w1.cell? ⟨w.heap.size, 8, none⟩ = some (.int .i64 q.start) := Ke_1.out.cell 8
  have ve9 : w1.cell? ⟨w.heap.size, 9, none⟩ = some (.int .i64 q.stop) := Ke_1.out.cell 9
  have ve10 : w1.cell? ⟨w.heap.size, 10, none⟩ = some (.bool m) := Ke_1.out.cell 10
  have ve11 : w1.cell? ⟨w.heap.size, 11, none⟩ = some (.int .i64 g) := Ke_1.out.cell 11
  go_wp2_with fail
  clear ve0 ve1 ve2 ve3 ve4 ve5 ve6 ve7 ve8 ve9 ve10 ve11
  refine (differByLess_any _ _ _ _ Wf3.out Wg3.out G0.out G1.out).mono ?_
  rw [HY.out]
  rintro e' wz ⟨rfl, rfl⟩
  have ve0 : w1.cell? ⟨w.heap.size, 0, none⟩ = some (.int .i64 p.ship) := Ke_1.out.cell 0
  have ve1 : w1.cell? ⟨w.heap.size, 1, none⟩ = some (.int .i64 p.segment) := Ke_1.out.cell 1
  have ve2 : w1.cell? ⟨w.heap.size, 2, none⟩ = some (.bool p.toward) := Ke_1.out.cell 2
  have ve3 : w1.cell? ⟨w.heap.size, 3, none⟩ = some (.int .i64 p.start) := Ke_1.out.cell 3
  have ve4 : w1.cell? ⟨w.heap.size, 4, none⟩ = some (.int .i64 p.stop) := Ke_1.out.cell 4
  have ve5 : w1.cell? ⟨w.heap.size, 5, none⟩ = some (.int .i64 q.ship) := Ke_1.out.cell 5
  have ve6 : w1.cell? ⟨w.heap.size, 6, none⟩ = some (.int .i64 q.segment) := Ke_1.out.cell 6
  have ve7 : w1.cell? ⟨w.heap.size, 7, none⟩ = some (.bool q.toward) := Ke_1.out.cell 7
  have ve8 : w1.cell? ⟨w.heap.size, 8, none⟩ = some (.int .i64 q.start) := Ke_1.out.cell 8
  have ve9 : w1.cell? ⟨w.heap.size, 9, none⟩ = some (.int .i64 q.stop) := Ke_1.out.cell 9
  have ve10 : w1.cell? ⟨w.heap.size, 10, none⟩ = some (.bool m) := Ke_1.out.cell 10
  have ve11 : w1.cell? ⟨w.heap.size, 11, none⟩ = some (.int .i64 g) := Ke_1.out.cell 11
  go_wp2_with fail
  clear ve0 ve1 ve2 ve3 ve4 ve5 ve6 ve7 ve8 ve9 ve10 ve11
  refine (differByLess_any _ _ _ _ Wf4.out Wg4.out G0.out G1.out).mono ?_
  rw [HZ.out]
  rintro e' wz ⟨rfl, rfl⟩
  have ve0 : w1.cell? ⟨w.heap.size, 0, none⟩ = some (.int .i64 p.ship) := Ke_1.out.cell 0
  have ve1 : w1.cell? ⟨w.heap.size, 1, none⟩ = some (.int .i64 p.segment) := Ke_1.out.cell 1
  have ve2 : w1.cell? ⟨w.heap.size, 2, none⟩ = some (.bool p.toward) := Ke_1.out.cell 2
  have ve3 : w1.cell? ⟨w.heap.size, 3, none⟩ = some (.int .i64 p.start) := Ke_1.out.cell 3
  have ve4 : w1.cell? ⟨w.heap.size, 4, none⟩ = some (.int .i64 p.stop) := Ke_1.out.cell 4
  have ve5 : w1.cell? ⟨w.heap.size, 5, none⟩ = some (.int .i64 q.ship) := Ke_1.out.cell 5
  have ve6 : w1.cell? ⟨w.heap.size, 6, none⟩ = some (.int .i64 q.segment) := Ke_1.out.cell 6
  have ve7 : w1.cell? ⟨w.heap.size, 7, none⟩ = some (.bool q.toward) := Ke_1.out.cell 7
  have ve8 : w1.cell? ⟨w.heap.size, 8, none⟩ = some (.int .i64 q.start) := Ke_1.out.cell 8
  have ve9 : w1.cell? ⟨w.heap.size, 9, none⟩ = some (.int .i64 q.stop) := Ke_1.out.cell 9
  have ve10 : w1.cell? ⟨w.heap.size, 10, none⟩ = some (.bool m) := Ke_1.out.cell 10
  have ve11 : w1.cell? ⟨w.heap.size, 11, none⟩ = some (.int .i64 g) := Ke_1.out.cell 11
  go_wp2
  go_ret
  exact ⟨ret_bool E.out.symm, B1.out⟩

set_option maxHeartbeats 4000000 in
theorem isPassing_any (p q : PassageD) (m : Bool) (g : Int) (w : World)  :
    Calls Try.prog 82 #[.agg #[.int .i64 p.ship, .int .i64 p.segment, .bool p.toward, .int .i64 p.start, .int .i64 p.stop, .int .i64 q.ship, .int .i64 q.segment, .bool q.toward, .int .i64 q.start, .int .i64 q.stop, .bool m, .int .i64 g]] w (fun e' w' => e' = .returned (.bool (passB' p q)) ∧ Below w.heap.size w w') := by
  obtain ⟨W0, hW0⟩ : ∃ W0, W0 = (w.alloc (.cells #[.int .i64 p.ship, .int .i64 p.segment, .bool p.toward, .int .i64 p.start, .int .i64 p.stop, .int .i64 q.ship, .int .i64 q.segment, .bool q.toward, .int .i64 q.start, .int .i64 q.stop, .bool m, .int .i64 g] 106)) := ⟨_, rfl⟩
  have B := Lib.hid (Joins.below_alloc1 w (.cells #[.int .i64 p.ship, .int .i64 p.segment, .bool p.toward, .int .i64 p.start, .int .i64 p.stop, .int .i64 q.ship, .int .i64 q.segment, .bool q.toward, .int .i64 q.start, .int .i64 q.stop, .bool m, .int .i64 g] 106))
  have Ke := Lib.hid (Blk.new w #[.int .i64 p.ship, .int .i64 p.segment, .bool p.toward, .int .i64 p.start, .int .i64 p.stop, .int .i64 q.ship, .int .i64 q.segment, .bool q.toward, .int .i64 q.start, .int .i64 q.stop, .bool m, .int .i64 g] 106)
  have HW0 := Lib.hid hW0
  rw [← hW0] at B Ke
  clear hW0
  obtain ⟨x, hx⟩ : ∃ x, followB p q = x := ⟨_, rfl⟩
  have E0 := Lib.hid (show passB' p q = (x && passedB p q) by rw [← hx]; rfl)
  have HX := Lib.hid hx
  have HPA := Lib.hid (cmpR_passed p q)
  have HWM := Lib.hid (cmpR_neg p.start q.start p.stop q.stop)
  clear hx
  obtain ⟨c1, hc1⟩ : ∃ c, cmpR p.start q.start = c := ⟨_, rfl⟩
  obtain ⟨c2, hc2⟩ : ∃ c, cmpR p.stop q.stop = c := ⟨_, rfl⟩
  rw [hc1, hc2] at HPA HWM
  have HC1 := Lib.hid hc1
  have HC2 := Lib.hid hc2
  have hwm := HWM.out
  clear hc1 hc2 HWM
  cases x with
  | false =>
    have E := Lib.hid (E0.out.trans (show _ = false by rfl))
    go_enter Try.func82, Try.ntmps82
    have Fe0 := Lib.hid (show W0.cell? ⟨w.heap.size, 0, none⟩ = some (.int .i64 p.ship) from Ke.out.cell 0)
    have Fe1 := Lib.hid (show W0.cell? ⟨w.heap.size, 1, none⟩ = some (.int .i64 p.segment) from Ke.out.cell 1)
    have Fe2 := Lib.hid (show W0.cell? ⟨w.heap.size, 2, none⟩ = some (.bool p.toward) from Ke.out.cell 2)
    have Fe3 := Lib.hid (show W0.cell? ⟨w.heap.size, 3, none⟩ = some (.int .i64 p.start) from Ke.out.cell 3)
    have Fe4 := Lib.hid (show W0.cell? ⟨w.heap.size, 4, none⟩ = some (.int .i64 p.stop) from Ke.out.cell 4)
    have Fe5 := Lib.hid (show W0.cell? ⟨w.heap.size, 5, none⟩ = some (.int .i64 q.ship) from Ke.out.cell 5)
    have Fe6 := Lib.hid (show W0.cell? ⟨w.heap.size, 6, none⟩ = some (.int .i64 q.segment) from Ke.out.cell 6)
    have Fe7 := Lib.hid (show W0.cell? ⟨w.heap.size, 7, none⟩ = some (.bool q.toward) from Ke.out.cell 7)
    have Fe8 := Lib.hid (show W0.cell? ⟨w.heap.size, 8, none⟩ = some (.int .i64 q.start) from Ke.out.cell 8)
    have Fe9 := Lib.hid (show W0.cell? ⟨w.heap.size, 9, none⟩ = some (.int .i64 q.stop) from Ke.out.cell 9)
    have Fe10 := Lib.hid (show W0.cell? ⟨w.heap.size, 10, none⟩ = some (.bool m) from Ke.out.cell 10)
    have Fe11 := Lib.hid (show W0.cell? ⟨w.heap.size, 11, none⟩ = some (.int .i64 g) from Ke.out.cell 11)
    have DD := Lib.hid ((Below.refl W0.heap.size W0).drew)
    have vFe0 := Fe0.out
    have vFe1 := Fe1.out
    have vFe2 := Fe2.out
    have vFe3 := Fe3.out
    have vFe4 := Fe4.out
    have vFe5 := Fe5.out
    have vFe6 := Fe6.out
    have vFe7 := Fe7.out
    have vFe8 := Fe8.out
    have vFe9 := Fe9.out
    have vFe10 := Fe10.out
    have vFe11 := Fe11.out
    go_upto_region 1 with fail
    rw [← HW0.out]
    refine wp_region_held_drew (S := (fun w' => w'.cell? ⟨w.heap.size, 0, none⟩ = some (.int .i64 p.ship) ∧ w'.cell? ⟨w.heap.size, 1, none⟩ = some (.int .i64 p.segment) ∧ w'.cell? ⟨w.heap.size, 2, none⟩ = some (.bool p.toward) ∧ w'.cell? ⟨w.heap.size, 3, none⟩ = some (.int .i64 p.start) ∧ w'.cell? ⟨w.heap.size, 4, none⟩ = some (.int .i64 p.stop) ∧ w'.cell? ⟨w.heap.size, 5, none⟩ = some (.int .i64 q.ship) ∧ w'.cell? ⟨w.heap.size, 6, none⟩ = some (.int .i64 q.segment) ∧ w'.cell? ⟨w.heap.size, 7, none⟩ = some (.bool q.toward) ∧ w'.cell? ⟨w.heap.size, 8, none⟩ = some (.int .i64 q.start) ∧ w'.cell? ⟨w.heap.size, 9, none⟩ = some (.int .i64 q.stop) ∧ w'.cell? ⟨w.heap.size, 10, none⟩ = some (.bool m) ∧ w'.cell? ⟨w.heap.size, 11, none⟩ = some (.int .i64 g) ∧ Hid (Below W0.heap.size W0 w'))) (by kernel_rfl) ?_ (fun hHeld => ?_)
    · (try dsimp only); go_keep
    refine wpAnyH_take (i := 0) (v := ?_) (by simp only [List.getElem?_toArray, List.getElem?_cons_zero]; rfl) (by kernel_rfl) (by kernel_rfl) (by kernel_rfl) (by exact fun _ _ _ h => h) (Or.inl ⟨by rfl, ?_⟩) (by assumption) ?_; rotate_left; focus (intro w hSw; (try dsimp only at hSw); first | (go_simp; done) | (go_simp; with_reducible rfl))
    try simp only [Act.put, List.setIfInBounds_toArray, List.set_cons_zero, List.set_cons_succ]
    refine wpAnyH_ready (rs := [1]) (by kernel_rfl) (by simp) ?_
    refine AllReadyH.cons rfl (fun K hK => ?_) AllReadyH.nil
    rw [if_pos (by rfl)]
    go_simp
    go_at_call 87
    have kB := hHeld.2.2.2.2.2.2.2.2.2.2.2.2
    refine (isFollowing_any p q m g _).mono ?_
    rw [HX.out]
    rintro e' wq0_1 ⟨rfl, hbk⟩
    have HBK := kB.out.trans (hbk.mono kB.out.size)
    have QS := Lib.hid (show wq0_1.cell? ⟨w.heap.size, 0, none⟩ = some (.int .i64 p.ship) ∧ wq0_1.cell? ⟨w.heap.size, 1, none⟩ = some (.int .i64 p.segment) ∧ wq0_1.cell? ⟨w.heap.size, 2, none⟩ = some (.bool p.toward) ∧ wq0_1.cell? ⟨w.heap.size, 3, none⟩ = some (.int .i64 p.start) ∧ wq0_1.cell? ⟨w.heap.size, 4, none⟩ = some (.int .i64 p.stop) ∧ wq0_1.cell? ⟨w.heap.size, 5, none⟩ = some (.int .i64 q.ship) ∧ wq0_1.cell? ⟨w.heap.size, 6, none⟩ = some (.int .i64 q.segment) ∧ wq0_1.cell? ⟨w.heap.size, 7, none⟩ = some (.bool q.toward) ∧ wq0_1.cell? ⟨w.heap.size, 8, none⟩ = some (.int .i64 q.start) ∧ wq0_1.cell? ⟨w.heap.size, 9, none⟩ = some (.int .i64 q.stop) ∧ wq0_1.cell? ⟨w.heap.size, 10, none⟩ = some (.bool m) ∧ wq0_1.cell? ⟨w.heap.size, 11, none⟩ = some (.int .i64 g) ∧ Hid (Below W0.heap.size W0 wq0_1) from ⟨cell_onV Fe0.out HBK, cell_onV Fe1.out HBK, cell_onV Fe2.out HBK, cell_onV Fe3.out HBK, cell_onV Fe4.out HBK, cell_onV Fe5.out HBK, cell_onV Fe6.out HBK, cell_onV Fe7.out HBK, cell_onV Fe8.out HBK, cell_onV Fe9.out HBK, cell_onV Fe10.out HBK, cell_onV Fe11.out HBK, Lib.hid HBK⟩)
    clear hbk kB hHeld HBK
    go_simp
    refine hK.out _ _ ?_ (fun hHeld => ?_)
    · (try dsimp only); exact QS.out
    clear hK K
    try simp only [Act.put, List.setIfInBounds_toArray, List.set_cons_zero, List.set_cons_succ]
    refine wpAnyH_take (i := 2) (v := ?_) (by simp only [List.getElem?_toArray, List.getElem?_cons_succ, List.getElem?_cons_zero]; rfl) (by kernel_rfl) (by kernel_rfl) (by kernel_rfl) (by exact fun _ _ _ h => h) (Or.inl ⟨by rfl, ?_⟩) (by assumption) ?_; rotate_left; focus (intro w hSw; (try dsimp only at hSw); first | (go_simp; done) | (go_simp; with_reducible rfl))
    try simp only [Act.put, List.setIfInBounds_toArray, List.set_cons_zero, List.set_cons_succ]
    refine wpAnyH_take (i := 3) (v := undef) (by simp only [List.getElem?_toArray, List.getElem?_cons_succ, List.getElem?_cons_zero]; rfl) (by kernel_rfl) (by kernel_rfl) (by kernel_rfl) (by exact fun _ _ _ h => h) (Or.inr ⟨by rfl, rfl⟩) (by assumption) ?_
    try simp only [Act.put, List.setIfInBounds_toArray, List.set_cons_zero, List.set_cons_succ]
    refine wpAnyH_take (i := 4) (v := undef) (by simp only [List.getElem?_toArray, List.getElem?_cons_succ, List.getElem?_cons_zero]; rfl) (by kernel_rfl) (by kernel_rfl) (by kernel_rfl) (by exact fun _ _ _ h => h) (Or.inr ⟨by rfl, rfl⟩) (by assumption) ?_
    try simp only [Act.put, List.setIfInBounds_toArray, List.set_cons_zero, List.set_cons_succ]
    refine wpAnyH_take (i := 5) (v := undef) (by simp only [List.getElem?_toArray, List.getElem?_cons_succ, List.getElem?_cons_zero]; rfl) (by kernel_rfl) (by kernel_rfl) (by kernel_rfl) (by exact fun _ _ _ h => h) (Or.inr ⟨by rfl, rfl⟩) (by assumption) ?_
    try simp only [Act.put, List.setIfInBounds_toArray, List.set_cons_zero, List.set_cons_succ]
    refine wpAnyH_take (i := 6) (v := undef) (by simp only [List.getElem?_toArray, List.getElem?_cons_succ, List.getElem?_cons_zero]; rfl) (by kernel_rfl) (by kernel_rfl) (by kernel_rfl) (by exact fun _ _ _ h => h) (Or.inr ⟨by rfl, rfl⟩) (by assumption) ?_
    try simp only [Act.put, List.setIfInBounds_toArray, List.set_cons_zero, List.set_cons_succ]
    refine wpAnyH_take (i := 7) (v := undef) (by simp only [List.getElem?_toArray, List.getElem?_cons_succ, List.getElem?_cons_zero]; rfl) (by kernel_rfl) (by kernel_rfl) (by kernel_rfl) (by exact fun _ _ _ h => h) (Or.inr ⟨by rfl, rfl⟩) (by assumption) ?_
    try simp only [Act.put, List.setIfInBounds_toArray, List.set_cons_zero, List.set_cons_succ]
    refine wpAnyH_take (i := 8) (v := undef) (by simp only [List.getElem?_toArray, List.getElem?_cons_succ, List.getElem?_cons_zero]; rfl) (by kernel_rfl) (by kernel_rfl) (by kernel_rfl) (by exact fun _ _ _ h => h) (Or.inr ⟨by rfl, rfl⟩) (by assumption) ?_
    try simp only [Act.put, List.setIfInBounds_toArray, List.set_cons_zero, List.set_cons_succ]
    refine wpAnyH_take (i := 9) (v := undef) (by simp only [List.getElem?_toArray, List.getElem?_cons_succ, List.getElem?_cons_zero]; rfl) (by kernel_rfl) (by kernel_rfl) (by kernel_rfl) (by exact fun _ _ _ h => h) (Or.inr ⟨by rfl, rfl⟩) (by assumption) ?_
    try simp only [Act.put, List.setIfInBounds_toArray, List.set_cons_zero, List.set_cons_succ]
    refine wpAnyH_take (i := 10) (v := undef) (by simp only [List.getElem?_toArray, List.getElem?_cons_succ, List.getElem?_cons_zero]; rfl) (by kernel_rfl) (by kernel_rfl) (by kernel_rfl) (by exact fun _ _ _ h => h) (Or.inr ⟨by rfl, rfl⟩) (by assumption) ?_
    try simp only [Act.put, List.setIfInBounds_toArray, List.set_cons_zero, List.set_cons_succ]
    refine wpAnyH_take (i := 11) (v := undef) (by simp only [List.getElem?_toArray, List.getElem?_cons_succ, List.getElem?_cons_zero]; rfl) (by kernel_rfl) (by kernel_rfl) (by kernel_rfl) (by exact fun _ _ _ h => h) (Or.inr ⟨by rfl, rfl⟩) (by assumption) ?_
    try simp only [Act.put, List.setIfInBounds_toArray, List.set_cons_zero, List.set_cons_succ]
    refine wpAnyH_take (i := 12) (v := undef) (by simp only [List.getElem?_toArray, List.getElem?_cons_succ, List.getElem?_cons_zero]; rfl) (by kernel_rfl) (by kernel_rfl) (by kernel_rfl) (by exact fun _ _ _ h => h) (Or.inr ⟨by rfl, rfl⟩) (by assumption) ?_
    try simp only [Act.put, List.setIfInBounds_toArray, List.set_cons_zero, List.set_cons_succ]
    refine wpAnyH_take (i := 13) (v := undef) (by simp only [List.getElem?_toArray, List.getElem?_cons_succ, List.getElem?_cons_zero]; rfl) (by kernel_rfl) (by kernel_rfl) (by kernel_rfl) (by exact fun _ _ _ h => h) (Or.inr ⟨by rfl, rfl⟩) (by assumption) ?_
    try simp only [Act.put, List.setIfInBounds_toArray, List.set_cons_zero, List.set_cons_succ]
    refine wpAnyH_take (i := 14) (v := undef) (by simp only [List.getElem?_toArray, List.getElem?_cons_succ, List.getElem?_cons_zero]; rfl) (by kernel_rfl) (by kernel_rfl) (by kernel_rfl) (by exact fun _ _ _ h => h) (Or.inr ⟨by rfl, rfl⟩) (by assumption) ?_
    try simp only [Act.put, List.setIfInBounds_toArray, List.set_cons_zero, List.set_cons_succ]
    refine wpAnyH_take (i := 15) (v := undef) (by simp only [List.getElem?_toArray, List.getElem?_cons_succ, List.getElem?_cons_zero]; rfl) (by kernel_rfl) (by kernel_rfl) (by kernel_rfl) (by exact fun _ _ _ h => h) (Or.inr ⟨by rfl, rfl⟩) (by assumption) ?_
    try simp only [Act.put, List.setIfInBounds_toArray, List.set_cons_zero, List.set_cons_succ]
    refine wpAnyH_take (i := 16) (v := undef) (by simp only [List.getElem?_toArray, List.getElem?_cons_succ, List.getElem?_cons_zero]; rfl) (by kernel_rfl) (by kernel_rfl) (by kernel_rfl) (by exact fun _ _ _ h => h) (Or.inr ⟨by rfl, rfl⟩) (by assumption) ?_
    try simp only [Act.put, List.setIfInBounds_toArray, List.set_cons_zero, List.set_cons_succ]
    refine wpAnyH_take (i := 17) (v := undef) (by simp only [List.getElem?_toArray, List.getElem?_cons_succ, List.getElem?_cons_zero]; rfl) (by kernel_rfl) (by kernel_rfl) (by kernel_rfl) (by exact fun _ _ _ h => h) (Or.inr ⟨by rfl, rfl⟩) (by assumption) ?_
    try simp only [Act.put, List.setIfInBounds_toArray, List.set_cons_zero, List.set_cons_succ]
    refine wpAnyH_take (i := 18) (v := undef) (by simp only [List.getElem?_toArray, List.getElem?_cons_succ, List.getElem?_cons_zero]; rfl) (by kernel_rfl) (by kernel_rfl) (by kernel_rfl) (by exact fun _ _ _ h => h) (Or.inr ⟨by rfl, rfl⟩) (by assumption) ?_
    try simp only [Act.put, List.setIfInBounds_toArray, List.set_cons_zero, List.set_cons_succ]
    refine wpAnyH_take (i := 19) (v := ?_) (by simp only [List.getElem?_toArray, List.getElem?_cons_succ, List.getElem?_cons_zero]; rfl) (by kernel_rfl) (by kernel_rfl) (by kernel_rfl) (by exact fun _ _ _ h => h) (Or.inl ⟨by rfl, ?_⟩) (by assumption) ?_; rotate_left; focus (intro w hSw; (try dsimp only at hSw); first | (go_simp; done) | (go_simp; with_reducible rfl))
    try simp only [Act.put, List.setIfInBounds_toArray, List.set_cons_zero, List.set_cons_succ]
    refine wpAnyH_take (i := 20) (v := ?_) (by simp only [List.getElem?_toArray, List.getElem?_cons_succ, List.getElem?_cons_zero]; rfl) (by kernel_rfl) (by kernel_rfl) (by kernel_rfl) (by exact fun _ _ _ h => h) (Or.inl ⟨by rfl, ?_⟩) (by assumption) ?_; rotate_left; focus (intro w hSw; (try dsimp only at hSw); first | (go_simp; done) | (go_simp; with_reducible rfl))
    try simp only [Act.put, List.setIfInBounds_toArray, List.set_cons_zero, List.set_cons_succ]
    refine wpAnyH_done (by kernel_rfl) ?_ _
    go_wp2
    go_ret
    exact ⟨ret_bool E.out.symm, B.out.trans (hHeld.2.2.2.2.2.2.2.2.2.2.2.2.out.mono B.out.size)⟩
  | true =>
  have E := Lib.hid (E0.out.trans (show _ = decide (c1 * c2 < 0) by rw [HPA.out]; rfl))
  go_enter Try.func82, Try.ntmps82
  have Fe0 := Lib.hid (show W0.cell? ⟨w.heap.size, 0, none⟩ = some (.int .i64 p.ship) from Ke.out.cell 0)
  have Fe1 := Lib.hid (show W0.cell? ⟨w.heap.size, 1, none⟩ = some (.int .i64 p.segment) from Ke.out.cell 1)
  have Fe2 := Lib.hid (show W0.cell? ⟨w.heap.size, 2, none⟩ = some (.bool p.toward) from Ke.out.cell 2)
  have Fe3 := Lib.hid (show W0.cell? ⟨w.heap.size, 3, none⟩ = some (.int .i64 p.start) from Ke.out.cell 3)
  have Fe4 := Lib.hid (show W0.cell? ⟨w.heap.size, 4, none⟩ = some (.int .i64 p.stop) from Ke.out.cell 4)
  have Fe5 := Lib.hid (show W0.cell? ⟨w.heap.size, 5, none⟩ = some (.int .i64 q.ship) from Ke.out.cell 5)
  have Fe6 := Lib.hid (show W0.cell? ⟨w.heap.size, 6, none⟩ = some (.int .i64 q.segment) from Ke.out.cell 6)
  have Fe7 := Lib.hid (show W0.cell? ⟨w.heap.size, 7, none⟩ = some (.bool q.toward) from Ke.out.cell 7)
  have Fe8 := Lib.hid (show W0.cell? ⟨w.heap.size, 8, none⟩ = some (.int .i64 q.start) from Ke.out.cell 8)
  have Fe9 := Lib.hid (show W0.cell? ⟨w.heap.size, 9, none⟩ = some (.int .i64 q.stop) from Ke.out.cell 9)
  have Fe10 := Lib.hid (show W0.cell? ⟨w.heap.size, 10, none⟩ = some (.bool m) from Ke.out.cell 10)
  have Fe11 := Lib.hid (show W0.cell? ⟨w.heap.size, 11, none⟩ = some (.int .i64 g) from Ke.out.cell 11)
  have DD := Lib.hid ((Below.refl W0.heap.size W0).drew)
  have vFe0 := Fe0.out
  have vFe1 := Fe1.out
  have vFe2 := Fe2.out
  have vFe3 := Fe3.out
  have vFe4 := Fe4.out
  have vFe5 := Fe5.out
  have vFe6 := Fe6.out
  have vFe7 := Fe7.out
  have vFe8 := Fe8.out
  have vFe9 := Fe9.out
  have vFe10 := Fe10.out
  have vFe11 := Fe11.out
  go_upto_region 1 with fail
  rw [← HW0.out]
  refine wp_region_held_drew (S := (fun w' => w'.cell? ⟨w.heap.size, 0, none⟩ = some (.int .i64 p.ship) ∧ w'.cell? ⟨w.heap.size, 1, none⟩ = some (.int .i64 p.segment) ∧ w'.cell? ⟨w.heap.size, 2, none⟩ = some (.bool p.toward) ∧ w'.cell? ⟨w.heap.size, 3, none⟩ = some (.int .i64 p.start) ∧ w'.cell? ⟨w.heap.size, 4, none⟩ = some (.int .i64 p.stop) ∧ w'.cell? ⟨w.heap.size, 5, none⟩ = some (.int .i64 q.ship) ∧ w'.cell? ⟨w.heap.size, 6, none⟩ = some (.int .i64 q.segment) ∧ w'.cell? ⟨w.heap.size, 7, none⟩ = some (.bool q.toward) ∧ w'.cell? ⟨w.heap.size, 8, none⟩ = some (.int .i64 q.start) ∧ w'.cell? ⟨w.heap.size, 9, none⟩ = some (.int .i64 q.stop) ∧ w'.cell? ⟨w.heap.size, 10, none⟩ = some (.bool m) ∧ w'.cell? ⟨w.heap.size, 11, none⟩ = some (.int .i64 g) ∧ Hid (Below W0.heap.size W0 w'))) (by kernel_rfl) ?_ (fun hHeld => ?_)
  · (try dsimp only); go_keep
  refine wpAnyH_take (i := 0) (v := ?_) (by simp only [List.getElem?_toArray, List.getElem?_cons_zero]; rfl) (by kernel_rfl) (by kernel_rfl) (by kernel_rfl) (by exact fun _ _ _ h => h) (Or.inl ⟨by rfl, ?_⟩) (by assumption) ?_; rotate_left; focus (intro w hSw; (try dsimp only at hSw); first | (go_simp; done) | (go_simp; with_reducible rfl))
  try simp only [Act.put, List.setIfInBounds_toArray, List.set_cons_zero, List.set_cons_succ]
  refine wpAnyH_ready (rs := [1]) (by kernel_rfl) (by simp) ?_
  refine AllReadyH.cons rfl (fun K hK => ?_) AllReadyH.nil
  rw [if_pos (by rfl)]
  go_simp
  go_at_call 87
  have kB := hHeld.2.2.2.2.2.2.2.2.2.2.2.2
  refine (isFollowing_any p q m g _).mono ?_
  rw [HX.out]
  rintro e' wq0_1 ⟨rfl, hbk⟩
  have HBK := kB.out.trans (hbk.mono kB.out.size)
  have QS := Lib.hid (show wq0_1.cell? ⟨w.heap.size, 0, none⟩ = some (.int .i64 p.ship) ∧ wq0_1.cell? ⟨w.heap.size, 1, none⟩ = some (.int .i64 p.segment) ∧ wq0_1.cell? ⟨w.heap.size, 2, none⟩ = some (.bool p.toward) ∧ wq0_1.cell? ⟨w.heap.size, 3, none⟩ = some (.int .i64 p.start) ∧ wq0_1.cell? ⟨w.heap.size, 4, none⟩ = some (.int .i64 p.stop) ∧ wq0_1.cell? ⟨w.heap.size, 5, none⟩ = some (.int .i64 q.ship) ∧ wq0_1.cell? ⟨w.heap.size, 6, none⟩ = some (.int .i64 q.segment) ∧ wq0_1.cell? ⟨w.heap.size, 7, none⟩ = some (.bool q.toward) ∧ wq0_1.cell? ⟨w.heap.size, 8, none⟩ = some (.int .i64 q.start) ∧ wq0_1.cell? ⟨w.heap.size, 9, none⟩ = some (.int .i64 q.stop) ∧ wq0_1.cell? ⟨w.heap.size, 10, none⟩ = some (.bool m) ∧ wq0_1.cell? ⟨w.heap.size, 11, none⟩ = some (.int .i64 g) ∧ Hid (Below W0.heap.size W0 wq0_1) from ⟨cell_onV Fe0.out HBK, cell_onV Fe1.out HBK, cell_onV Fe2.out HBK, cell_onV Fe3.out HBK, cell_onV Fe4.out HBK, cell_onV Fe5.out HBK, cell_onV Fe6.out HBK, cell_onV Fe7.out HBK, cell_onV Fe8.out HBK, cell_onV Fe9.out HBK, cell_onV Fe10.out HBK, cell_onV Fe11.out HBK, Lib.hid HBK⟩)
  clear hbk kB hHeld HBK
  go_simp
  refine hK.out _ _ ?_ (fun hHeld => ?_)
  · (try dsimp only); exact QS.out
  clear hK K
  try simp only [Act.put, List.setIfInBounds_toArray, List.set_cons_zero, List.set_cons_succ]
  refine wpAnyH_take (i := 2) (v := ?_) (by simp only [List.getElem?_toArray, List.getElem?_cons_succ, List.getElem?_cons_zero]; rfl) (by kernel_rfl) (by kernel_rfl) (by kernel_rfl) (by exact fun _ _ _ h => h) (Or.inl ⟨by rfl, ?_⟩) (by assumption) ?_; rotate_left; focus (intro w hSw; (try dsimp only at hSw); first | (go_simp; done) | (go_simp; with_reducible rfl))
  try simp only [Act.put, List.setIfInBounds_toArray, List.set_cons_zero, List.set_cons_succ]
  refine wpAnyH_take (i := 3) (v := ?_) (by simp only [List.getElem?_toArray, List.getElem?_cons_succ, List.getElem?_cons_zero]; rfl) (by kernel_rfl) (by kernel_rfl) (by kernel_rfl) (by exact fun _ _ _ h => h) (Or.inl ⟨by rfl, ?_⟩) (by assumption) ?_; rotate_left; focus (intro w hSw; (try dsimp only at hSw); first | (go_simp; done) | (go_simp; with_reducible rfl))
  try simp only [Act.put, List.setIfInBounds_toArray, List.set_cons_zero, List.set_cons_succ]
  refine wpAnyH_take (i := 4) (v := ?_) (by simp only [List.getElem?_toArray, List.getElem?_cons_succ, List.getElem?_cons_zero]; rfl) (by kernel_rfl) (by kernel_rfl) (by kernel_rfl) (by exact fun _ _ _ h => h) (Or.inl ⟨by rfl, ?_⟩) (by assumption) ?_; rotate_left; focus (intro w hSw; (try dsimp only at hSw); first | (go_simp; done) | (go_simp; with_reducible rfl))
  try simp only [Act.put, List.setIfInBounds_toArray, List.set_cons_zero, List.set_cons_succ]
  refine wpAnyH_take (i := 5) (v := ?_) (by simp only [List.getElem?_toArray, List.getElem?_cons_succ, List.getElem?_cons_zero]; rfl) (by kernel_rfl) (by kernel_rfl) (by kernel_rfl) (by exact fun _ _ _ h => h) (Or.inl ⟨by rfl, ?_⟩) (by assumption) ?_; rotate_left; focus (intro w hSw; (try dsimp only at hSw); first | (go_simp; done) | (go_simp; with_reducible rfl))
  try simp only [Act.put, List.setIfInBounds_toArray, List.set_cons_zero, List.set_cons_succ]
  refine wpAnyH_take (i := 6) (v := ?_) (by simp only [List.getElem?_toArray, List.getElem?_cons_succ, List.getElem?_cons_zero]; rfl) (by kernel_rfl) (by kernel_rfl) (by kernel_rfl) (by exact fun _ _ _ h => h) (Or.inl ⟨by rfl, ?_⟩) (by assumption) ?_; rotate_left; focus (intro w hSw; (try dsimp only at hSw); first | (go_simp; done) | (go_simp; with_reducible rfl))
  try simp only [Act.put, List.setIfInBounds_toArray, List.set_cons_zero, List.set_cons_succ]
  refine wpAnyH_take (i := 7) (v := ?_) (by simp only [List.getElem?_toArray, List.getElem?_cons_succ, List.getElem?_cons_zero]; rfl) (by kernel_rfl) (by kernel_rfl) (by kernel_rfl) (by exact fun _ _ _ h => h) (Or.inl ⟨by rfl, ?_⟩) (by assumption) ?_; rotate_left; focus (intro w hSw; (try dsimp only at hSw); first | (go_simp; done) | (go_simp; with_reducible rfl))
  try simp only [Act.put, List.setIfInBounds_toArray, List.set_cons_zero, List.set_cons_succ]
  refine wpAnyH_take (i := 8) (v := ?_) (by simp only [List.getElem?_toArray, List.getElem?_cons_succ, List.getElem?_cons_zero]; rfl) (by kernel_rfl) (by kernel_rfl) (by kernel_rfl) (by exact fun _ _ _ h => h) (Or.inl ⟨by rfl, ?_⟩) (by assumption) ?_; rotate_left; focus (intro w hSw; (try dsimp only at hSw); first | (go_simp; done) | (go_simp; with_reducible rfl))
  try simp only [Act.put, List.setIfInBounds_toArray, List.set_cons_zero, List.set_cons_succ]
  refine wpAnyH_take (i := 10) (v := ?_) (by simp only [List.getElem?_toArray, List.getElem?_cons_succ, List.getElem?_cons_zero]; rfl) (by kernel_rfl) (by kernel_rfl) (by kernel_rfl) (by exact fun _ _ _ h => h) (Or.inl ⟨by rfl, ?_⟩) (by assumption) ?_; rotate_left; focus (intro w hSw; (try dsimp only at hSw); first | (go_simp; done) | (go_simp; with_reducible rfl))
  try simp only [Act.put, List.setIfInBounds_toArray, List.set_cons_zero, List.set_cons_succ]
  refine wpAnyH_take (i := 11) (v := ?_) (by simp only [List.getElem?_toArray, List.getElem?_cons_succ, List.getElem?_cons_zero]; rfl) (by kernel_rfl) (by kernel_rfl) (by kernel_rfl) (by exact fun _ _ _ h => h) (Or.inl ⟨by rfl, ?_⟩) (by assumption) ?_; rotate_left; focus (intro w hSw; (try dsimp only at hSw); first | (go_simp; done) | (go_simp; with_reducible rfl))
  try simp only [Act.put, List.setIfInBounds_toArray, List.set_cons_zero, List.set_cons_succ]
  refine wpAnyH_take (i := 12) (v := ?_) (by simp only [List.getElem?_toArray, List.getElem?_cons_succ, List.getElem?_cons_zero]; rfl) (by kernel_rfl) (by kernel_rfl) (by kernel_rfl) (by exact fun _ _ _ h => h) (Or.inl ⟨by rfl, ?_⟩) (by assumption) ?_; rotate_left; focus (intro w hSw; (try dsimp only at hSw); first | (go_simp; done) | (go_simp; with_reducible rfl))
  try simp only [Act.put, List.setIfInBounds_toArray, List.set_cons_zero, List.set_cons_succ]
  refine wpAnyH_take (i := 13) (v := ?_) (by simp only [List.getElem?_toArray, List.getElem?_cons_succ, List.getElem?_cons_zero]; rfl) (by kernel_rfl) (by kernel_rfl) (by kernel_rfl) (by exact fun _ _ _ h => h) (Or.inl ⟨by rfl, ?_⟩) (by assumption) ?_; rotate_left; focus (intro w hSw; (try dsimp only at hSw); first | (go_simp; done) | (go_simp; with_reducible rfl))
  try simp only [Act.put, List.setIfInBounds_toArray, List.set_cons_zero, List.set_cons_succ]
  refine wpAnyH_take (i := 14) (v := ?_) (by simp only [List.getElem?_toArray, List.getElem?_cons_succ, List.getElem?_cons_zero]; rfl) (by kernel_rfl) (by kernel_rfl) (by kernel_rfl) (by exact fun _ _ _ h => h) (Or.inl ⟨by rfl, ?_⟩) (by assumption) ?_; rotate_left; focus (intro w hSw; (try dsimp only at hSw); first | (go_simp; done) | (go_simp; with_reducible rfl))
  try simp only [Act.put, List.setIfInBounds_toArray, List.set_cons_zero, List.set_cons_succ]
  refine wpAnyH_take (i := 15) (v := ?_) (by simp only [List.getElem?_toArray, List.getElem?_cons_succ, List.getElem?_cons_zero]; rfl) (by kernel_rfl) (by kernel_rfl) (by kernel_rfl) (by exact fun _ _ _ h => h) (Or.inl ⟨by rfl, ?_⟩) (by assumption) ?_; rotate_left; focus (intro w hSw; (try dsimp only at hSw); first | (go_simp; done) | (go_simp; with_reducible rfl))
  try simp only [Act.put, List.setIfInBounds_toArray, List.set_cons_zero, List.set_cons_succ]
  refine wpAnyH_ready (rs := [9]) (by kernel_rfl) (by simp) ?_
  refine AllReadyH.cons rfl (fun K hK => ?_) AllReadyH.nil
  rw [if_pos (by rfl)]
  go_simp
  go_at_call 89
  have kB := hHeld.2.2.2.2.2.2.2.2.2.2.2.2
  refine (compare_anyR _ _ _).mono ?_
  rw [HC1.out]
  rintro e' wq0_9 ⟨rfl, hbk1⟩
  have hbk := below_eqR hbk1
  have HBK := kB.out.trans (hbk.mono kB.out.size)
  have QS := Lib.hid (show wq0_9.cell? ⟨w.heap.size, 0, none⟩ = some (.int .i64 p.ship) ∧ wq0_9.cell? ⟨w.heap.size, 1, none⟩ = some (.int .i64 p.segment) ∧ wq0_9.cell? ⟨w.heap.size, 2, none⟩ = some (.bool p.toward) ∧ wq0_9.cell? ⟨w.heap.size, 3, none⟩ = some (.int .i64 p.start) ∧ wq0_9.cell? ⟨w.heap.size, 4, none⟩ = some (.int .i64 p.stop) ∧ wq0_9.cell? ⟨w.heap.size, 5, none⟩ = some (.int .i64 q.ship) ∧ wq0_9.cell? ⟨w.heap.size, 6, none⟩ = some (.int .i64 q.segment) ∧ wq0_9.cell? ⟨w.heap.size, 7, none⟩ = some (.bool q.toward) ∧ wq0_9.cell? ⟨w.heap.size, 8, none⟩ = some (.int .i64 q.start) ∧ wq0_9.cell? ⟨w.heap.size, 9, none⟩ = some (.int .i64 q.stop) ∧ wq0_9.cell? ⟨w.heap.size, 10, none⟩ = some (.bool m) ∧ wq0_9.cell? ⟨w.heap.size, 11, none⟩ = some (.int .i64 g) ∧ Hid (Below W0.heap.size W0 wq0_9) from ⟨cell_onV Fe0.out HBK, cell_onV Fe1.out HBK, cell_onV Fe2.out HBK, cell_onV Fe3.out HBK, cell_onV Fe4.out HBK, cell_onV Fe5.out HBK, cell_onV Fe6.out HBK, cell_onV Fe7.out HBK, cell_onV Fe8.out HBK, cell_onV Fe9.out HBK, cell_onV Fe10.out HBK, cell_onV Fe11.out HBK, Lib.hid HBK⟩)
  clear hbk kB hHeld HBK
  go_simp
  refine hK.out _ _ ?_ (fun hHeld => ?_)
  · (try dsimp only); exact QS.out
  clear hK K
  try simp only [Act.put, List.setIfInBounds_toArray, List.set_cons_zero, List.set_cons_succ]
  refine wpAnyH_ready (rs := [16]) (by kernel_rfl) (by simp) ?_
  refine AllReadyH.cons rfl (fun K hK => ?_) AllReadyH.nil
  rw [if_pos (by rfl)]
  go_simp
  go_at_call 89
  have kB := hHeld.2.2.2.2.2.2.2.2.2.2.2.2
  refine (compare_anyR _ _ _).mono ?_
  rw [HC2.out]
  rintro e' wq0_16 ⟨rfl, hbk1⟩
  have hbk := below_eqR hbk1
  have HBK := kB.out.trans (hbk.mono kB.out.size)
  have QS := Lib.hid (show wq0_16.cell? ⟨w.heap.size, 0, none⟩ = some (.int .i64 p.ship) ∧ wq0_16.cell? ⟨w.heap.size, 1, none⟩ = some (.int .i64 p.segment) ∧ wq0_16.cell? ⟨w.heap.size, 2, none⟩ = some (.bool p.toward) ∧ wq0_16.cell? ⟨w.heap.size, 3, none⟩ = some (.int .i64 p.start) ∧ wq0_16.cell? ⟨w.heap.size, 4, none⟩ = some (.int .i64 p.stop) ∧ wq0_16.cell? ⟨w.heap.size, 5, none⟩ = some (.int .i64 q.ship) ∧ wq0_16.cell? ⟨w.heap.size, 6, none⟩ = some (.int .i64 q.segment) ∧ wq0_16.cell? ⟨w.heap.size, 7, none⟩ = some (.bool q.toward) ∧ wq0_16.cell? ⟨w.heap.size, 8, none⟩ = some (.int .i64 q.start) ∧ wq0_16.cell? ⟨w.heap.size, 9, none⟩ = some (.int .i64 q.stop) ∧ wq0_16.cell? ⟨w.heap.size, 10, none⟩ = some (.bool m) ∧ wq0_16.cell? ⟨w.heap.size, 11, none⟩ = some (.int .i64 g) ∧ Hid (Below W0.heap.size W0 wq0_16) from ⟨cell_onV Fe0.out HBK, cell_onV Fe1.out HBK, cell_onV Fe2.out HBK, cell_onV Fe3.out HBK, cell_onV Fe4.out HBK, cell_onV Fe5.out HBK, cell_onV Fe6.out HBK, cell_onV Fe7.out HBK, cell_onV Fe8.out HBK, cell_onV Fe9.out HBK, cell_onV Fe10.out HBK, cell_onV Fe11.out HBK, Lib.hid HBK⟩)
  clear hbk kB hHeld HBK
  go_simp
  refine hK.out _ _ ?_ (fun hHeld => ?_)
  · (try dsimp only); exact QS.out
  clear hK K
  try simp only [Act.put, List.setIfInBounds_toArray, List.set_cons_zero, List.set_cons_succ]
  refine wpAnyH_take (i := 17) (v := ?_) (by simp only [List.getElem?_toArray, List.getElem?_cons_succ, List.getElem?_cons_zero]; rfl) (by kernel_rfl) (by kernel_rfl) (by kernel_rfl) (by exact fun _ _ _ h => h) (Or.inl ⟨by rfl, ?_⟩) (by assumption) ?_; rotate_left; focus (intro w hSw; (try dsimp only at hSw); first | (go_simp; done) | (go_simp; with_reducible rfl))
  try simp only [Act.put, List.setIfInBounds_toArray, List.set_cons_zero, List.set_cons_succ]
  refine wpAnyH_take (i := 18) (v := ?_) (by simp only [List.getElem?_toArray, List.getElem?_cons_succ, List.getElem?_cons_zero]; rfl) (by kernel_rfl) (by kernel_rfl) (by kernel_rfl) (by exact fun _ _ _ h => h) (Or.inl ⟨by rfl, ?_⟩) (by assumption) ?_; rotate_left; focus (intro w hSw; (try dsimp only at hSw); first | (go_simp; done) | (go_simp; with_reducible rfl))
  try simp only [Act.put, List.setIfInBounds_toArray, List.set_cons_zero, List.set_cons_succ]
  refine wpAnyH_take (i := 19) (v := ?_) (by simp only [List.getElem?_toArray, List.getElem?_cons_succ, List.getElem?_cons_zero]; rfl) (by kernel_rfl) (by kernel_rfl) (by kernel_rfl) (by exact fun _ _ _ h => h) (Or.inl ⟨by rfl, ?_⟩) (by assumption) ?_; rotate_left; focus (intro w hSw; (try dsimp only at hSw); first | (go_simp; done) | (go_simp; with_reducible rfl))
  try simp only [Act.put, List.setIfInBounds_toArray, List.set_cons_zero, List.set_cons_succ]
  refine wpAnyH_take (i := 20) (v := ?_) (by simp only [List.getElem?_toArray, List.getElem?_cons_succ, List.getElem?_cons_zero]; rfl) (by kernel_rfl) (by kernel_rfl) (by kernel_rfl) (by exact fun _ _ _ h => h) (Or.inl ⟨by rfl, ?_⟩) (by assumption) ?_; rotate_left; focus (intro w hSw; (try dsimp only at hSw); first | (go_simp; done) | (go_simp; with_reducible rfl))
  try simp only [Act.put, List.setIfInBounds_toArray, List.set_cons_zero, List.set_cons_succ]
  refine wpAnyH_done (by kernel_rfl) ?_ _
  go_wp2
  go_ret
  exact ⟨ret_bool E.out.symm, B.out.trans (hHeld.2.2.2.2.2.2.2.2.2.2.2.2.out.mono B.out.size)⟩
end Go.Proofs.Ytpglaffmmddcdaa
