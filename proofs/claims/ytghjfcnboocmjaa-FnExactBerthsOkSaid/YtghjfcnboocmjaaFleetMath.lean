
/- Fleets: what ShipNamed, FleetOk, LengthSum, OfLine tell: plain mathematics. -/
import Derived.Test.YtghjfcnboocmjaaShipOk
import Derived.Test.YtghjfcnboocmjaaFirst
namespace Go.Proofs.Ytghjfcnboocmjaa
set_option maxRecDepth 100000

@[reducible] def shipNm (s : ByteArray) (p : ShipD) : Bool := p.name.toList == s.toList
@[reducible] def onLine (n : Int) (p : ShipD) : Bool := p.line == n
/-- The index of the first ship of a name, or -1. -/
def shipI (l : List ShipD) (s : ByteArray) : Int := firstI (shipNm s) l
def flAt (l : List ShipD) (k : Nat) : Bool := match l[k]? with | some x => shipB x && (shipI l x.name == (k : Int)) | none => true
def fleetB (l : List ShipD) : Bool := decide (l.length ≤ 6) && (List.range l.length).all (flAt l)
def FirstF (l : List ShipD) (k : Nat) : Prop := ∀ j, j < k → flAt l j = true
theorem FirstF.zero (l : List ShipD) : FirstF l 0 := fun j hj => absurd hj (by omega)
theorem FirstF.next {l : List ShipD} {k : Nat} (h : FirstF l k) (hk : flAt l k = true) : FirstF l (k + 1) := fun j hj => by
  by_cases e : j = k
  · subst e; exact hk
  · exact h j (by omega)
theorem flAt_at {l : List ShipD} {k : Nat} {x : ShipD} (hx : l[k]? = some x) : flAt l k = (shipB x && (shipI l x.name == (k : Int))) := by unfold flAt; rw [hx]
theorem fleetB_long {l : List ShipD} (h : 6 < l.length) : fleetB l = false := by unfold fleetB; rw [decide_eq_false (by omega)]; rfl
theorem fleetB_no {l : List ShipD} {k : Nat} (hk : k < l.length) (h : flAt l k = false) : fleetB l = false := by
  unfold fleetB
  rw [List.all_eq_false.2 ⟨k, List.mem_range.2 hk, by rw [h]; simp⟩, Bool.and_false]
theorem fleetB_mk {l : List ShipD} (h : l.length ≤ 6) (h' : FirstF l l.length) : fleetB l = true := by
  unfold fleetB
  rw [decide_eq_true h, List.all_eq_true.2 (fun j hj => h' j (List.mem_range.1 hj))]; rfl
theorem fleetB_true {l : List ShipD} (h : fleetB l = true) : l.length ≤ 6 ∧ FirstF l l.length := by
  unfold fleetB at h
  rw [Bool.and_eq_true, decide_eq_true_iff] at h
  exact ⟨h.1, fun j hj => List.all_eq_true.1 h.2 j (List.mem_range.2 hj)⟩
theorem fleetB_ship {l : List ShipD} (h : fleetB l = true) {k : Nat} {x : ShipD} (hx : l[k]? = some x) : shipB x = true ∧ shipI l x.name = (k : Int) := by
  have hk := (fleetB_true h).2 k (List.getElem?_eq_some_iff.1 hx).1
  rw [flAt_at hx, Bool.and_eq_true] at hk
  exact ⟨hk.1, by simpa using hk.2⟩

/-- The sum of the lengths. -/
def lenSum : List ShipD → Int
  | [] => 0
  | x :: l => x.length + lenSum l
theorem lenSum_append (a b : List ShipD) : lenSum (a ++ b) = lenSum a + lenSum b := by
  induction a with
  | nil => simp [lenSum]
  | cons x a ih => simp only [List.cons_append, lenSum, ih]; omega
theorem lenSum_next {l : List ShipD} {k : Nat} {x : ShipD} (hx : l[k]? = some x) : lenSum (l.take (k + 1)) = lenSum (l.take k) + x.length := by
  rw [take_snoc' l k x hx, lenSum_append]; simp [lenSum]
def lenI (l : List ShipD) : Int := if fleetB l = true then lenSum l else 0
theorem lenI_bad {l : List ShipD} (h : fleetB l = false) : lenI l = 0 := if_neg (by rw [h]; simp)
theorem lenI_ok {l : List ShipD} (h : fleetB l = true) : lenI l = lenSum l := if_pos h

/-- The indices below k at which p holds. -/
def idxF {α : Type} (p : α → Bool) (l : List α) : Nat → List Int
  | 0 => []
  | k + 1 => idxF p l k ++ (match l[k]? with | some x => if p x = true then [(k : Int)] else [] | none => [])
theorem idxF_yes {α : Type} {p : α → Bool} {l : List α} {k : Nat} {x : α} (hx : l[k]? = some x) (h : p x = true) : idxF p l (k + 1) = idxF p l k ++ [(k : Int)] := by
  show idxF p l k ++ _ = _
  rw [hx]; simp only [h, if_true]
theorem idxF_no {α : Type} {p : α → Bool} {l : List α} {k : Nat} {x : α} (hx : l[k]? = some x) (h : p x = false) : idxF p l (k + 1) = idxF p l k := by
  show idxF p l k ++ _ = _
  rw [hx]; simp [h]
theorem idxF_len {α : Type} (p : α → Bool) (l : List α) (k : Nat) : (idxF p l k).length ≤ k := by
  induction k with
  | zero => exact Nat.le_refl _
  | succ k ih =>
    have : (idxF p l (k + 1)).length = (idxF p l k).length + (match l[k]? with | some x => if p x = true then [(k : Int)] else [] | none => []).length := List.length_append ..
    rw [this]
    split
    · split <;> simp <;> omega
    · simp; omega
def lineL (l : List ShipD) (n : Int) : List Int := if fleetB l = true then idxF (onLine n) l l.length else []
theorem lineL_bad {l : List ShipD} {n : Int} (h : fleetB l = false) : lineL l n = [] := if_neg (by rw [h]; simp)
theorem lineL_ok {l : List ShipD} {n : Int} (h : fleetB l = true) : lineL l n = idxF (onLine n) l l.length := if_pos h
theorem lineL_len (l : List ShipD) (n : Int) : (lineL l n).length ≤ 10000000 := by
  unfold lineL
  split
  · rename_i h
    have := idxF_len (onLine n) l l.length
    have := (fleetB_true h).1
    omega
  · simp
def squatI (d : ShipD) : Int := if shipB d = true then (if d.slow = true then d.draught.tdiv 50 else d.draught.tdiv 20) else 0
end Go.Proofs.Ytghjfcnboocmjaa
