
/- What ExactLockPlanOk and ExactAppendLocking rests on, part 11: contracts and mathematics. -/
import Derived.Test.YtlddampjbmklkaaBl8
import Derived.Test.YtlddampjbmklkaaBl6
import Derived.Test.YtlddampjbmklkaaBl7
import Derived.Test.YtlddampjbmklkaaBl0
namespace Go.Proofs.Ytlddampjbmklkaa
open Go.RowKit
set_option maxRecDepth 100000
theorem lockD_at {rows : List LockR} {k : Nat} {x : LockR} (h : rows[k]? = some x) : (rows.map LockR.d)[k]? = some x.d := by rw [List.getElem?_map, h]; rfl
def nextI (k : ChamberD) (l : List LockD) (up : Bool) (ready : Int) : Int := if chamB k = true ∧ inB ready 0 2880 = true then
    match l.getLast? with
    | none => ready
    | some g => if inB g.start 0 2880 = true then (if g.up = up then max ready (g.start + 2 * k.minutes) else max ready (g.start + k.minutes)) else -1
  else -1
theorem nextI_bad {k : ChamberD} {l : List LockD} {up : Bool} {ready : Int} (h : ¬ (chamB k = true ∧ inB ready 0 2880 = true)) : nextI k l up ready = -1 := if_neg h
theorem nextI_ok {k : ChamberD} {l : List LockD} {up : Bool} {ready : Int} (h1 : chamB k = true) (h2 : inB ready 0 2880 = true) : nextI k l up ready = (match l.getLast? with
    | none => ready
    | some g => if inB g.start 0 2880 = true then (if g.up = up then max ready (g.start + 2 * k.minutes) else max ready (g.start + k.minutes)) else -1) := if_pos ⟨h1, h2⟩
/-- The lengths of different existing ships. -/
def lensFrom (fl : List ShipD) (done : List Int) : List Int → Option (List Int)
  | [] => some []
  | n :: s => if inB n 0 ((fl.length : Int) - 1) = true ∧ done.any (· == n) = false then (match fl[n.toNat]? with
      | some x => (lensFrom fl (done ++ [n]) s).map (fun t => x.length :: t)
      | none => none) else none
def lensO (fl : List ShipD) (s : List Int) : Option (List Int) := match lensFrom fl [] s with
  | some t => if t.length ≤ 8 then some t else none
  | none => none
theorem lensO_len {fl : List ShipD} {s t : List Int} (h : lensO fl s = some t) : t.length ≤ 8 := by
  unfold lensO at h
  cases e : lensFrom fl [] s with
  | none => rw [e] at h; cases h
  | some u =>
    rw [e] at h
    by_cases h8 : u.length ≤ 8
    · have h : (if u.length ≤ 8 then some u else none) = some t := h
      rw [if_pos h8] at h
      injection h with h
      rw [← h]; exact h8
    · have h : (if u.length ≤ 8 then some u else none) = some t := h
      rw [if_neg h8] at h
      cases h
/-- A locking beside the one before it. -/
def turnB (k : ChamberD) (g : LockD) (before : Option LockD) : Bool := inB g.start 0 2880 && match before with
  | none => true
  | some b => decide (b.start + k.minutes ≤ g.start) && (g.up != b.up)
def lockB (k : ChamberD) (fl : List ShipD) (g : LockD) (before : Option LockD) : Bool := turnB k g before && match lensO fl g.ships with
  | some t => (packO k t).isSome
  | none => false
def planFrom (k : ChamberD) (fl : List ShipD) : Option LockD → List LockD → Bool
  | _, [] => true
  | b, g :: l => lockB k fl g b && planFrom k fl (some g) l
def lockPlanB (k : ChamberD) (fl : List ShipD) (l : List LockD) : Bool := chamB k && fleetB fl && decide (l.length ≤ 12) && planFrom k fl none l
end Go.Proofs.Ytlddampjbmklkaa
