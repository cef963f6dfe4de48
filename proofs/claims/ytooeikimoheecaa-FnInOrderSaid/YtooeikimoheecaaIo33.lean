
/- What InOrderLaw rests on, part 33: contracts and mathematics. -/
import Derived.Test.YtooeikimoheecaaIo17
import Derived.Test.YtooeikimoheecaaIo24
import Derived.Test.YtooeikimoheecaaIo21
import Derived.Test.YtooeikimoheecaaIo31
import Derived.Test.YtooeikimoheecaaIo19
namespace Go.Proofs.Ytooeikimoheecaa
set_option maxRecDepth 100000
def needI (s : ShipD) : Int := if shipB s = true then s.draught + squatI s + 50 else 0
theorem needI_bad {s : ShipD} (h : shipB s = false) : needI s = 0 := if_neg (by rw [h]; simp)
theorem needI_ok {s : ShipD} (h : shipB s = true) : needI s = s.draught + squatI s + 50 := if_pos h
theorem squat_bnd {s : ShipD} (h : shipB s = true) : 0 ≤ squatI s ∧ squatI s ≤ 100 := by
  obtain ⟨-, -, -, d0, d1, -⟩ := shipB_true h
  unfold squatI
  rw [if_pos h]
  split
  · rw [Int.tdiv_eq_ediv_of_nonneg (by omega)]; omega
  · rw [Int.tdiv_eq_ediv_of_nonneg (by omega)]; omega
def levForI (d : ChartD) (i : Int) (s : ShipD) : Int := if sailB d i s = true then (match segAt d i with | some g => needI s - g.depth | none => 0) else 0
theorem levForI_bad {d : ChartD} {i : Int} {s : ShipD} (h : sailB d i s = false) : levForI d i s = 0 := if_neg (by rw [h]; simp)
theorem levForI_ok {d : ChartD} {i : Int} {s : ShipD} {g : SegmentD} (h : sailB d i s = true) (hg : segAt d i = some g) : levForI d i s = needI s - g.depth := by unfold levForI; rw [if_pos h, hg]
theorem levFor_bnd (d : ChartD) (i : Int) (s : ShipD) : -3000 ≤ levForI d i s ∧ levForI d i s ≤ 2150 := by
  cases h : sailB d i s with
  | false => rw [levForI_bad h]; omega
  | true =>
    obtain ⟨h1, h2, g, hg, _, _, _, hs⟩ := sailB_true h
    obtain ⟨-, -, -, d0, d1, -⟩ := shipB_true h2
    have := squat_bnd h2
    obtain ⟨-, -, -, -, -, q0, q1, -⟩ := segB_true hs
    rw [levForI_ok h hg, needI_ok h2]
    omega
/-- The minutes on the segment: from 1 to 480 where all is valid. -/
theorem minOn_bnd {d : ChartD} {i : Int} {s : ShipD} (h : sailB d i s = true) : 1 ≤ minOn d i s ∧ minOn d i s ≤ 480 := by
  obtain ⟨h1, h2, g, hg, _, _, _, hs⟩ := sailB_true h
  obtain ⟨-, -, -, -, -, -, -, m0, m1⟩ := segB_true hs
  rw [minOn_ok h1 h2 hg]
  unfold onMin
  split <;> omega
/-- The starts: sure ones at the lower end of the band, open ones at the upper end. -/
def startsL (hi : Bool) (f : ForecastD) (d : ChartD) (i : Int) (s : ShipD) : List WindowD := if fcB f.mean f.parts f.surges = true ∧ sailB d i s = true then shrinkL (wetL hi f.mean f.parts f.surges (levForI d i s)) (minOn d i s) else []
theorem startsL_bad {hi : Bool} {f : ForecastD} {d : ChartD} {i : Int} {s : ShipD} (h : fcB f.mean f.parts f.surges = false ∨ sailB d i s = false) : startsL hi f d i s = [] := if_neg (by rintro ⟨h1, h2⟩; rcases h with h | h <;> simp_all)
theorem startsL_ok {hi : Bool} {f : ForecastD} {d : ChartD} {i : Int} {s : ShipD} (h1 : fcB f.mean f.parts f.surges = true) (h2 : sailB d i s = true) : startsL hi f d i s = shrinkL (wetL hi f.mean f.parts f.surges (levForI d i s)) (minOn d i s) := if_pos ⟨h1, h2⟩
theorem starts_len (hi : Bool) (f : ForecastD) (d : ChartD) (i : Int) (s : ShipD) : (startsL hi f d i s).length ≤ 2881 := by
  unfold startsL
  split
  · unfold shrinkL
    split
    · exact Nat.le_trans (shrW_len _ _) (wetL_len _ _ _ _ _)
    · simp
  · simp
end Go.Proofs.Ytooeikimoheecaa
