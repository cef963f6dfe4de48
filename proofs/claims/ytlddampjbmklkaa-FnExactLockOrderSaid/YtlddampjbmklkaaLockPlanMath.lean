
/- Lock plans: the mathematics (the document's chapter 12). -/
import Derived.Test.YtlddampjbmklkaaLockings2
import Derived.Test.YtlddampjbmklkaaPackMath
import Derived.Test.YtlddampjbmklkaaFleetMath
import Derived.Test.YtlddampjbmklkaaFirst
namespace Go.Proofs.Ytlddampjbmklkaa
open Go.RowKit
set_option maxRecDepth 100000

theorem lockD_at {rows : List LockR} {k : Nat} {x : LockR} (h : rows[k]? = some x) : (rows.map LockR.d)[k]? = some x.d := by rw [List.getElem?_map, h]; rfl
/-! ### EmptyLockings -/
def emptyN (l : List LockD) : Int := ((l.countP (fun g => g.ships.length == 0) : Nat) : Int)
theorem emptyN_next {l : List LockD} {k : Nat} {x : LockD} (h : l[k]? = some x) : emptyN (l.take (k + 1)) = emptyN (l.take k) + if x.ships.length = 0 then 1 else 0 := by
  unfold emptyN
  rw [take_snoc' l k x h, List.countP_append]
  by_cases e : x.ships.length = 0 <;> simp [e]
theorem emptyN_le (l : List LockD) (k : Nat) : 0 ≤ emptyN (l.take k) ∧ emptyN (l.take k) ≤ l.length := by
  unfold emptyN
  have h := List.countP_le_length (p := fun g : LockD => g.ships.length == 0) (l := l.take k)
  have h2 : (l.take k).length ≤ l.length := by rw [List.length_take]; omega
  omega
/-! ### LockedAt -/
def lockHit (ship : Int) (up : Bool) (g : LockD) : Bool := (g.up == up) && g.ships.any (· == ship)
def lockedI (l : List LockD) (ship : Int) (up : Bool) : Int := match l.find? (lockHit ship up) with
  | some g => g.start
  | none => -1
theorem lockedI_at {l : List LockD} {ship : Int} {up : Bool} {k : Nat} {x : LockD} (h : NoOne (lockHit ship up) l k) (hx : l[k]? = some x) (hp : lockHit ship up x = true) : lockedI l ship up = x.start := by
  have : l.find? (lockHit ship up) = some x := by
    rw [List.find?_eq_some_iff_getElem]
    obtain ⟨hk, rfl⟩ := List.getElem?_eq_some_iff.1 hx
    exact ⟨hp, k, hk, rfl, fun j hj => by rw [h j hj _ (List.getElem?_eq_getElem (by omega))]; rfl⟩
  unfold lockedI
  rw [this]
theorem lockedI_none {l : List LockD} {ship : Int} {up : Bool} (h : NoOne (lockHit ship up) l l.length) : lockedI l ship up = -1 := by
  have : l.find? (lockHit ship up) = none := by
    rw [List.find?_eq_none]
    intro x hx
    obtain ⟨j, hj⟩ := List.getElem?_of_mem hx
    have h := h j (List.getElem?_eq_some_iff.1 hj).1 x hj
    simpa using h
  unfold lockedI
  rw [this]
/-! ### LockOrder -/
def lockOrd (l : List LockD) (up : Bool) : List Int := l.flatMap (fun g => if g.up = up then g.ships else [])
theorem lockOrd_next {l : List LockD} {up : Bool} {k : Nat} {x : LockD} (h : l[k]? = some x) : lockOrd (l.take (k + 1)) up = lockOrd (l.take k) up ++ if x.up = up then x.ships else [] := by
  unfold lockOrd
  rw [take_snoc' l k x h, List.flatMap_append]
  simp
/-! ### NextTurn -/
def nextI (k : ChamberD) (l : List LockD) (up : Bool) (ready : Int) : Int := if chamB k = true ∧ inB ready 0 2880 = true then
    match l.getLast? with
    | none => ready
    | some g => if inB g.start 0 2880 = true then (if g.up = up then max ready (g.start + 2 * k.minutes) else max ready (g.start + k.minutes)) else -1
  else -1
theorem nextI_bad {k : ChamberD} {l : List LockD} {up : Bool} {ready : Int} (h : ¬ (chamB k = true ∧ inB ready 0 2880 = true)) : nextI k l up ready = -1 := if_neg h
theorem nextI_ok {k : ChamberD} {l : List LockD} {up : Bool} {ready : Int} (h1 : chamB k = true) (h2 : inB ready 0 2880 = true) : nextI k l up ready = (match l.getLast? with
    | none => ready
    | some g => if inB g.start 0 2880 = true then (if g.up = up then max ready (g.start + 2 * k.minutes) else max ready (g.start + k.minutes)) else -1) := if_pos ⟨h1, h2⟩
/-! ### LockPlanOk -/
/-- The lengths of different existing ships. -/
def lensFrom (fl : List ShipD) (done : List Int) : List Int → Option (List Int)
  | [] => some []
  | n :: s => if inB n 0 ((fl.length : Int) - 1) = true ∧ done.any (· == n) = false then (match fl[n.toNat]? with
      | some x => (lensFrom fl (done ++ [n]) s).map (fun t => x.length :: t)
      | none => none) else none
def lensO (fl : List ShipD) (s : List Int) : Option (List Int) := match lensFrom fl [] s with
  | some t => if t.length ≤ 8 then some t else none
  | none => none
theorem lensO_len {fl : List ShipD} {s t : List Int} (h : lensO fl s = some t) : t.length ≤ 8 := by
  unfold lensO at h
  cases e : lensFrom fl [] s with
  | none => rw [e] at h; cases h
  | some u =>
    rw [e] at h
    by_cases h8 : u.length ≤ 8
    · have h : (if u.length ≤ 8 then some u else none) = some t := h
      rw [if_pos h8] at h
      injection h with h
      rw [← h]; exact h8
    · have h : (if u.length ≤ 8 then some u else none) = some t := h
      rw [if_neg h8] at h
      cases h
/-- A locking beside the one before it. -/
def turnB (k : ChamberD) (g : LockD) (before : Option LockD) : Bool := inB g.start 0 2880 && match before with
  | none => true
  | some b => decide (b.start + k.minutes ≤ g.start) && (g.up != b.up)
def lockB (k : ChamberD) (fl : List ShipD) (g : LockD) (before : Option LockD) : Bool := turnB k g before && match lensO fl g.ships with
  | some t => (packO k t).isSome
  | none => false
def planFrom (k : ChamberD) (fl : List ShipD) : Option LockD → List LockD → Bool
  | _, [] => true
  | b, g :: l => lockB k fl g b && planFrom k fl (some g) l
def lockPlanB (k : ChamberD) (fl : List ShipD) (l : List LockD) : Bool := chamB k && fleetB fl && decide (l.length ≤ 12) && planFrom k fl none l
end Go.Proofs.Ytlddampjbmklkaa
