
/- SurgeOk of the program and of the model: contracts. -/
import Derived.Test.YtmjdlkninibocaaSurges
import Derived.Test.YtmjdlkninibocaaLevel
namespace Go.Proofs.Ytmjdlkninibocaa
open Go.RowKit
set_option maxRecDepth 100000

def surgeB (d : SurgeD) : Bool := decide (0 ≤ d.fr ∧ d.fr ≤ 2880 ∧ -500 ≤ d.lo ∧ d.lo ≤ d.hi ∧ d.hi ≤ 500)
theorem surgeB_mk {d : SurgeD} (h : 0 ≤ d.fr ∧ d.fr ≤ 2880 ∧ -500 ≤ d.lo ∧ d.lo ≤ d.hi ∧ d.hi ≤ 500) : surgeB d = true := decide_eq_true h
theorem surgeB_no {d : SurgeD} (h : ¬ (0 ≤ d.fr ∧ d.fr ≤ 2880 ∧ -500 ≤ d.lo ∧ d.lo ≤ d.hi ∧ d.hi ≤ 500)) : surgeB d = false := decide_eq_false h
theorem surgeB_true {d : SurgeD} (h : surgeB d = true) : 0 ≤ d.fr ∧ d.fr ≤ 2880 ∧ -500 ≤ d.lo ∧ d.lo ≤ d.hi ∧ d.hi ≤ 500 := of_decide_eq_true h

theorem implSurgeOk (d : SurgeD) (w : World) : Calls Try.prog 42 #[d.val] w fun e w' => e = .returned (.bool (surgeB d)) ∧ Below w.heap.size w w' := by
  obtain ⟨f, a, b⟩ := d
  by_cases h0 : 0 ≤ f ∧ f ≤ 2880
  · have E0 := Lib.hid (inB_mk h0.1 h0.2)
    by_cases h1 : -500 ≤ a
    · by_cases h2 : a ≤ b
      · by_cases h3 : b ≤ 500
        · have H := Lib.hid (surgeB_mk (d := ⟨f, a, b⟩) ⟨h0.1, h0.2, h1, h2, h3⟩)
          clear h0
          go_enter Try.func42, Try.ntmps42
          go_wp2_with fail
          refine (isMinute_any _ _).mono ?_
          rintro e w1 ⟨rfl, rfl⟩
          rw [E0.out]
          go_wp2
          go_ret
          exact ⟨ret_bool H.out.symm, Joins.below_alloc1 _ _⟩
        · have H := Lib.hid (surgeB_no (d := ⟨f, a, b⟩) (by simp; omega))
          have h4 : decide (b ≤ 500) = false := decide_eq_false h3
          clear h0
          go_enter Try.func42, Try.ntmps42
          go_wp2_with fail
          refine (isMinute_any _ _).mono ?_
          rintro e w1 ⟨rfl, rfl⟩
          rw [E0.out]
          go_wp2
          go_ret
          exact ⟨ret_bool H.out.symm, Joins.below_alloc1 _ _⟩
      · have H := Lib.hid (surgeB_no (d := ⟨f, a, b⟩) (by simp; omega))
        have h4 : decide (a ≤ b) = false := decide_eq_false h2
        clear h0
        go_enter Try.func42, Try.ntmps42
        go_wp2_with fail
        refine (isMinute_any _ _).mono ?_
        rintro e w1 ⟨rfl, rfl⟩
        rw [E0.out]
        go_wp2
        go_ret
        exact ⟨ret_bool H.out.symm, Joins.below_alloc1 _ _⟩
    · have H := Lib.hid (surgeB_no (d := ⟨f, a, b⟩) (by simp; omega))
      have h4 : decide (-500 ≤ a) = false := decide_eq_false h1
      clear h0
      go_enter Try.func42, Try.ntmps42
      go_wp2_with fail
      refine (isMinute_any _ _).mono ?_
      rintro e w1 ⟨rfl, rfl⟩
      rw [E0.out]
      go_wp2
      go_ret
      exact ⟨ret_bool H.out.symm, Joins.below_alloc1 _ _⟩
  · have E0 := Lib.hid (inB_no (x := f) (lo := 0) (hi := 2880) (by omega))
    have H := Lib.hid (surgeB_no (d := ⟨f, a, b⟩) (by simp; omega))
    clear h0
    go_enter Try.func42, Try.ntmps42
    go_wp2_with fail
    refine (isMinute_any _ _).mono ?_
    rintro e w1 ⟨rfl, rfl⟩
    rw [E0.out]
    go_wp2
    go_ret
    exact ⟨ret_bool H.out.symm, Joins.below_alloc1 _ _⟩

end Go.Proofs.Ytmjdlkninibocaa
