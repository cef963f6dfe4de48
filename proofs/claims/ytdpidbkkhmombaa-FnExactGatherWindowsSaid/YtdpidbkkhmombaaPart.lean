
/- A tide's part by value: laws.toPart, laws.eqPart, PartOk of the program and of the model: contracts. -/
import Derived.Test.YtdpidbkkhmombaaWave
import Derived.Lib.SmallJoins
namespace Go.Proofs.Ytdpidbkkhmombaa
open Go.RowKit

/-- A part's numbers. -/
structure PartD where
  amp : Int
  per : Int
  pha : Int
@[reducible] def PartD.val (d : PartD) : Value := .agg #[.int .i64 d.amp, .int .i64 d.per, .int .i64 d.pha]
def partB (d : PartD) : Bool := decide (0 ≤ d.amp ∧ d.amp ≤ 1000 ∧ perB d.per = true ∧ 0 ≤ d.pha ∧ d.pha < d.per)
theorem partB_mk {d : PartD} (h : 0 ≤ d.amp ∧ d.amp ≤ 1000 ∧ perB d.per = true ∧ 0 ≤ d.pha ∧ d.pha < d.per) : partB d = true := decide_eq_true h
theorem partB_no {d : PartD} (h : ¬ (0 ≤ d.amp ∧ d.amp ≤ 1000 ∧ perB d.per = true ∧ 0 ≤ d.pha ∧ d.pha < d.per)) : partB d = false := decide_eq_false h
theorem partB_true {d : PartD} (h : partB d = true) : 0 ≤ d.amp ∧ d.amp ≤ 1000 ∧ perB d.per = true ∧ 0 ≤ d.pha ∧ d.pha < d.per := of_decide_eq_true h

theorem toPart_any (a p h : Int) (w : World) : Calls Try.prog 120 #[.agg #[.int .i64 a, .int .i64 p, .int .i64 h]] w fun e w' => e = .returned (.agg #[.int .i64 a, .int .i64 p, .int .i64 h]) ∧ Below w.heap.size w w' := by
  go_enter Try.func120, Try.ntmps120
  go_wp2
  refine bodyPost_ret (v := .agg #[.int .i64 a, .int .i64 p, .int .i64 h]) (by simp [results, Try.results120, go_sem]) rfl ⟨rfl, ?_⟩
  repeat (first | exact Below.refl _ _ | refine Below.setCell ?_ (by simp <;> omega) _ | refine Below.alloc ?_ (by simp <;> omega) _)

theorem eqPart_same (a p h : Int) (w : World) : Calls Try.prog 121 #[.agg #[.int .i64 a, .int .i64 p, .int .i64 h], .agg #[.int .i64 a, .int .i64 p, .int .i64 h]] w fun e w' => e = .returned (.bool true) ∧ Below w.heap.size w w' := by
  go_enter Try.func121, Try.ntmps121
  go_wp2
  go_ret
  exact ⟨rfl, Joins.below_alloc2 _ _ _⟩

def inB (x lo hi : Int) : Bool := decide (lo ≤ x ∧ x ≤ hi)
theorem inB_mk {x lo hi : Int} (h1 : lo ≤ x) (h2 : x ≤ hi) : inB x lo hi = true := decide_eq_true ⟨h1, h2⟩
theorem inB_no {x lo hi : Int} (h : x < lo ∨ hi < x) : inB x lo hi = false := decide_eq_false (by omega)
theorem l01In_any (x lo hi : Int) (w : World) : Calls Try.prog 73 #[.int .i64 x, .int .i64 lo, .int .i64 hi] w fun e w' => e = .returned (.bool (inB x lo hi)) ∧ w = w' := by
  by_cases h1 : lo ≤ x
  · by_cases h2 : x ≤ hi
    · have H := Lib.hid (inB_mk h1 h2)
      go_enter Try.func73, Try.ntmps73
      go_wp2
      go_ret
      exact ⟨ret_bool H.out.symm, rfl⟩
    · have H := Lib.hid (inB_no (x := x) (lo := lo) (hi := hi) (.inr (by omega)))
      have h3 : decide (x ≤ hi) = false := decide_eq_false h2
      go_enter Try.func73, Try.ntmps73
      go_wp2
      go_ret
      exact ⟨ret_bool H.out.symm, rfl⟩
  · have H := Lib.hid (inB_no (x := x) (lo := lo) (hi := hi) (.inl (by omega)))
    have h3 : decide (lo ≤ x) = false := decide_eq_false h1
    go_enter Try.func73, Try.ntmps73
    go_wp2
    go_ret
    exact ⟨ret_bool H.out.symm, rfl⟩

theorem implPartOk (d : PartD) (w : World) : Calls Try.prog 97 #[d.val] w fun e w' => e = .returned (.bool (partB d)) ∧ Below w.heap.size w w' := by
  obtain ⟨a, p, h⟩ := d
  by_cases h1 : 0 ≤ a
  · by_cases h2 : a ≤ 1000
    · cases hp : perB p with
      | false =>
        have H := Lib.hid (partB_no (d := ⟨a, p, h⟩) (by simp [hp]))
        have HP := Lib.hid hp
        clear hp
        go_enter Try.func97, Try.ntmps97
        go_wp2_with fail
        refine (isPeriod_any p _).mono ?_
        rintro e w1 ⟨rfl, rfl⟩
        rw [HP.out]
        go_wp2
        go_ret
        exact ⟨ret_bool H.out.symm, Joins.below_alloc1 _ _⟩
      | true =>
        by_cases h3 : 0 ≤ h
        · by_cases h4 : h < p
          · have H := Lib.hid (partB_mk (d := ⟨a, p, h⟩) ⟨h1, h2, hp, h3, h4⟩)
            have HP := Lib.hid hp
            clear hp
            go_enter Try.func97, Try.ntmps97
            go_wp2_with fail
            refine (isPeriod_any p _).mono ?_
            rintro e w1 ⟨rfl, rfl⟩
            rw [HP.out]
            go_wp2
            go_ret
            exact ⟨ret_bool H.out.symm, Joins.below_alloc1 _ _⟩
          · have H := Lib.hid (partB_no (d := ⟨a, p, h⟩) (by simp; omega))
            have h5 : decide (h < p) = false := decide_eq_false h4
            have HP := Lib.hid hp
            clear hp
            go_enter Try.func97, Try.ntmps97
            go_wp2_with fail
            refine (isPeriod_any p _).mono ?_
            rintro e w1 ⟨rfl, rfl⟩
            rw [HP.out]
            go_wp2
            go_ret
            exact ⟨ret_bool H.out.symm, Joins.below_alloc1 _ _⟩
        · have H := Lib.hid (partB_no (d := ⟨a, p, h⟩) (by simp; omega))
          have HP := Lib.hid hp
          clear hp
          go_enter Try.func97, Try.ntmps97
          go_wp2_with fail
          refine (isPeriod_any p _).mono ?_
          rintro e w1 ⟨rfl, rfl⟩
          rw [HP.out]
          go_wp2
          go_ret
          exact ⟨ret_bool H.out.symm, Joins.below_alloc1 _ _⟩
    · have H := Lib.hid (partB_no (d := ⟨a, p, h⟩) (by simp; omega))
      go_enter Try.func97, Try.ntmps97
      go_wp2
      go_ret
      exact ⟨ret_bool H.out.symm, Joins.below_alloc1 _ _⟩
  · have H := Lib.hid (partB_no (d := ⟨a, p, h⟩) (by simp; omega))
    go_enter Try.func97, Try.ntmps97
    go_wp2
    go_ret
    exact ⟨ret_bool H.out.symm, Joins.below_alloc1 _ _⟩

theorem specPartOk (d : PartD) (w : World) : Calls Try.prog 118 #[d.val] w fun e w' => e = .returned (.bool (partB d)) ∧ Below w.heap.size w w' := by
  obtain ⟨a, p, h⟩ := d
  by_cases h1 : 0 ≤ a ∧ a ≤ 1000
  · have E1 := Lib.hid (inB_mk h1.1 h1.2)
    by_cases h2 : 4 ≤ p ∧ p ≤ 2880
    · have E2 := Lib.hid (inB_mk h2.1 h2.2)
      obtain ⟨p0, p1⟩ := h2
      by_cases h3 : p % 4 = 0
      · have h4 : (p % 4 == 0) = true := by simpa using h3
        have HP := Lib.hid (perB_mk ⟨p0, p1, h3⟩)
        by_cases h5 : 0 ≤ h ∧ h < p
        · have H := Lib.hid (partB_mk (d := ⟨a, p, h⟩) ⟨h1.1, h1.2, HP.out, h5.1, h5.2⟩)
          have E5 := Lib.hid (inB_mk (x := h) (lo := 0) (hi := p - 1) h5.1 (by omega))
          clear h1 h3 h5
          go_enter Try.func118, Try.ntmps118
          go_wp2_with fail
          refine (l01In_any _ _ _ _).mono ?_
          rintro e w1 ⟨rfl, rfl⟩
          rw [E1.out]
          go_wp2_with fail
          refine (l01In_any _ _ _ _).mono ?_
          rintro e w1 ⟨rfl, rfl⟩
          rw [E2.out]
          go_wp2_with fail
          refine (l01In_any _ _ _ _).mono ?_
          rintro e w1 ⟨rfl, rfl⟩
          rw [E5.out]
          go_wp2
          go_ret
          exact ⟨ret_bool H.out.symm, Joins.below_alloc1 _ _⟩
        · have H := Lib.hid (partB_no (d := ⟨a, p, h⟩) (by simp; omega))
          have E5 := Lib.hid (inB_no (x := h) (lo := 0) (hi := p - 1) (by omega))
          clear h1 h3 h5
          go_enter Try.func118, Try.ntmps118
          go_wp2_with fail
          refine (l01In_any _ _ _ _).mono ?_
          rintro e w1 ⟨rfl, rfl⟩
          rw [E1.out]
          go_wp2_with fail
          refine (l01In_any _ _ _ _).mono ?_
          rintro e w1 ⟨rfl, rfl⟩
          rw [E2.out]
          go_wp2_with fail
          refine (l01In_any _ _ _ _).mono ?_
          rintro e w1 ⟨rfl, rfl⟩
          rw [E5.out]
          go_wp2
          go_ret
          exact ⟨ret_bool H.out.symm, Joins.below_alloc1 _ _⟩
      · have h4 : (p % 4 == 0) = false := by simpa using h3
        have HP := perB_no (p := p) (by omega)
        have H := Lib.hid (partB_no (d := ⟨a, p, h⟩) (by simp [HP]))
        clear h1 h3 HP
        go_enter Try.func118, Try.ntmps118
        go_wp2_with fail
        refine (l01In_any _ _ _ _).mono ?_
        rintro e w1 ⟨rfl, rfl⟩
        rw [E1.out]
        go_wp2_with fail
        refine (l01In_any _ _ _ _).mono ?_
        rintro e w1 ⟨rfl, rfl⟩
        rw [E2.out]
        go_wp2
        go_ret
        exact ⟨ret_bool H.out.symm, Joins.below_alloc1 _ _⟩
    · have HP := perB_no (p := p) (by omega)
      have H := Lib.hid (partB_no (d := ⟨a, p, h⟩) (by simp [HP]))
      have E2 := Lib.hid (inB_no (x := p) (lo := 4) (hi := 2880) (by omega))
      clear h1 h2 HP
      go_enter Try.func118, Try.ntmps118
      go_wp2_with fail
      refine (l01In_any _ _ _ _).mono ?_
      rintro e w1 ⟨rfl, rfl⟩
      rw [E1.out]
      go_wp2_with fail
      refine (l01In_any _ _ _ _).mono ?_
      rintro e w1 ⟨rfl, rfl⟩
      rw [E2.out]
      go_wp2
      go_ret
      exact ⟨ret_bool H.out.symm, Joins.below_alloc1 _ _⟩
  · have E1 := Lib.hid (inB_no (x := a) (lo := 0) (hi := 1000) (by omega))
    have H := Lib.hid (partB_no (d := ⟨a, p, h⟩) (by simp; omega))
    clear h1
    go_enter Try.func118, Try.ntmps118
    go_wp2_with fail
    refine (l01In_any _ _ _ _).mono ?_
    rintro e w1 ⟨rfl, rfl⟩
    rw [E1.out]
    go_wp2
    go_ret
    exact ⟨ret_bool H.out.symm, Joins.below_alloc1 _ _⟩

end Go.Proofs.Ytdpidbkkhmombaa
