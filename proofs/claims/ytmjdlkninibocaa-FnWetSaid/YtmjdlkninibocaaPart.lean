
/- A tide's part by value: laws.toPart, laws.eqPart, PartOk of the program and of the model: contracts. -/
import Derived.Test.YtmjdlkninibocaaWave
import Derived.Lib.SmallJoins
namespace Go.Proofs.Ytmjdlkninibocaa
open Go.RowKit

/-- A part's numbers. -/
structure PartD where
  amp : Int
  per : Int
  pha : Int
@[reducible] def PartD.val (d : PartD) : Value := .agg #[.int .i64 d.amp, .int .i64 d.per, .int .i64 d.pha]
def partB (d : PartD) : Bool := decide (0 ≤ d.amp ∧ d.amp ≤ 1000 ∧ perB d.per = true ∧ 0 ≤ d.pha ∧ d.pha < d.per)
theorem partB_mk {d : PartD} (h : 0 ≤ d.amp ∧ d.amp ≤ 1000 ∧ perB d.per = true ∧ 0 ≤ d.pha ∧ d.pha < d.per) : partB d = true := decide_eq_true h
theorem partB_no {d : PartD} (h : ¬ (0 ≤ d.amp ∧ d.amp ≤ 1000 ∧ perB d.per = true ∧ 0 ≤ d.pha ∧ d.pha < d.per)) : partB d = false := decide_eq_false h
theorem partB_true {d : PartD} (h : partB d = true) : 0 ≤ d.amp ∧ d.amp ≤ 1000 ∧ perB d.per = true ∧ 0 ≤ d.pha ∧ d.pha < d.per := of_decide_eq_true h

def inB (x lo hi : Int) : Bool := decide (lo ≤ x ∧ x ≤ hi)
theorem inB_mk {x lo hi : Int} (h1 : lo ≤ x) (h2 : x ≤ hi) : inB x lo hi = true := decide_eq_true ⟨h1, h2⟩
theorem inB_no {x lo hi : Int} (h : x < lo ∨ hi < x) : inB x lo hi = false := decide_eq_false (by omega)
theorem implPartOk (d : PartD) (w : World) : Calls Try.prog 54 #[d.val] w fun e w' => e = .returned (.bool (partB d)) ∧ Below w.heap.size w w' := by
  obtain ⟨a, p, h⟩ := d
  by_cases h1 : 0 ≤ a
  · by_cases h2 : a ≤ 1000
    · cases hp : perB p with
      | false =>
        have H := Lib.hid (partB_no (d := ⟨a, p, h⟩) (by simp [hp]))
        have HP := Lib.hid hp
        clear hp
        go_enter Try.func54, Try.ntmps54
        go_wp2_with fail
        refine (isPeriod_any p _).mono ?_
        rintro e w1 ⟨rfl, rfl⟩
        rw [HP.out]
        go_wp2
        go_ret
        exact ⟨ret_bool H.out.symm, Joins.below_alloc1 _ _⟩
      | true =>
        by_cases h3 : 0 ≤ h
        · by_cases h4 : h < p
          · have H := Lib.hid (partB_mk (d := ⟨a, p, h⟩) ⟨h1, h2, hp, h3, h4⟩)
            have HP := Lib.hid hp
            clear hp
            go_enter Try.func54, Try.ntmps54
            go_wp2_with fail
            refine (isPeriod_any p _).mono ?_
            rintro e w1 ⟨rfl, rfl⟩
            rw [HP.out]
            go_wp2
            go_ret
            exact ⟨ret_bool H.out.symm, Joins.below_alloc1 _ _⟩
          · have H := Lib.hid (partB_no (d := ⟨a, p, h⟩) (by simp; omega))
            have h5 : decide (h < p) = false := decide_eq_false h4
            have HP := Lib.hid hp
            clear hp
            go_enter Try.func54, Try.ntmps54
            go_wp2_with fail
            refine (isPeriod_any p _).mono ?_
            rintro e w1 ⟨rfl, rfl⟩
            rw [HP.out]
            go_wp2
            go_ret
            exact ⟨ret_bool H.out.symm, Joins.below_alloc1 _ _⟩
        · have H := Lib.hid (partB_no (d := ⟨a, p, h⟩) (by simp; omega))
          have HP := Lib.hid hp
          clear hp
          go_enter Try.func54, Try.ntmps54
          go_wp2_with fail
          refine (isPeriod_any p _).mono ?_
          rintro e w1 ⟨rfl, rfl⟩
          rw [HP.out]
          go_wp2
          go_ret
          exact ⟨ret_bool H.out.symm, Joins.below_alloc1 _ _⟩
    · have H := Lib.hid (partB_no (d := ⟨a, p, h⟩) (by simp; omega))
      go_enter Try.func54, Try.ntmps54
      go_wp2
      go_ret
      exact ⟨ret_bool H.out.symm, Joins.below_alloc1 _ _⟩
  · have H := Lib.hid (partB_no (d := ⟨a, p, h⟩) (by simp; omega))
    go_enter Try.func54, Try.ntmps54
    go_wp2
    go_ret
    exact ⟨ret_bool H.out.symm, Joins.below_alloc1 _ _⟩

end Go.Proofs.Ytmjdlkninibocaa
