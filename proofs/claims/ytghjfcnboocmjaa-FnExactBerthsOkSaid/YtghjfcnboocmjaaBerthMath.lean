
/- Berths and stays: the mathematics (the document's chapter 13). -/
import Derived.Test.YtghjfcnboocmjaaBerths
import Derived.Test.YtghjfcnboocmjaaStays
import Derived.Test.YtghjfcnboocmjaaRunMath
import Derived.Test.YtghjfcnboocmjaaFleetMath
import Derived.Test.YtghjfcnboocmjaaWindows
import Derived.Test.YtghjfcnboocmjaaShipOk
import Derived.Test.YtghjfcnboocmjaaFirst
namespace Go.Proofs.Ytghjfcnboocmjaa
open Go.RowKit
set_option maxRecDepth 100000

/-! ### BerthsOk -/
def berthB (b : BerthD) : Bool := nameB b.name && inB b.length 10 400 && inB b.depth 0 3000
def sameName (b o : BerthD) : Bool := o.name.toList == b.name.toList
def pBerth (done : List BerthD) (b : BerthD) : Bool := berthB b && !done.any (sameName b)
def berthsB (l : List BerthD) : Bool := decide (l.length ≤ 4) && runB pBerth [] l
theorem berthsB_len {l : List BerthD} (h : berthsB l = true) : l.length ≤ 4 := by
  unfold berthsB at h
  rw [Bool.and_eq_true] at h
  exact of_decide_eq_true h.1
theorem berthsB_long {l : List BerthD} (h : ¬ l.length ≤ 4) : berthsB l = false := by unfold berthsB; rw [decide_eq_false h]; rfl
theorem berthsB_no {l : List BerthD} {i : Nat} {b : BerthD} (hx : l[i]? = some b) (hp : pBerth (l.take i) b = false) : berthsB l = false := by unfold berthsB; rw [run_no hx hp, Bool.and_false]
theorem berthsB_yes {l : List BerthD} (h : l.length ≤ 4) (hr : RunTo pBerth l l.length) : berthsB l = true := by unfold berthsB; rw [decide_eq_true h, hr.all]; rfl
theorem berthsB_at {l : List BerthD} (h : berthsB l = true) {i : Nat} {b : BerthD} (hx : l[i]? = some b) : berthB b = true := by
  unfold berthsB at h
  rw [Bool.and_eq_true] at h
  have := run_at h.2 hx
  unfold pBerth at this
  rw [Bool.and_eq_true] at this
  exact this.1
/-! ### FitsBerth -/
def fitB (b : BerthD) (s : ShipD) : Bool := shipB s && decide (s.length ≤ b.length) && decide (s.draught ≤ b.depth)
/-! ### StaysOk -/
def timeB (s : StayD) : Bool := inB s.fr 0 2880 && decide (s.fr < s.tt) && decide (s.tt ≤ 2880)
def meetB (s o : StayD) : Bool := (o.ship == s.ship || o.berth == s.berth) && decide (max o.fr s.fr < min o.tt s.tt)
def fitAt (bs : List BerthD) (fl : List ShipD) (s : StayD) : Bool := match bs[s.berth.toNat]?, fl[s.ship.toNat]? with
  | some b, some x => fitB b x
  | _, _ => false
def stayB (bs : List BerthD) (fl : List ShipD) (s : StayD) : Bool := inB s.ship 0 ((fl.length : Int) - 1) && inB s.berth 0 ((bs.length : Int) - 1) && timeB s && fitAt bs fl s
def pStay (bs : List BerthD) (fl : List ShipD) (done : List StayD) (s : StayD) : Bool := stayB bs fl s && !done.any (meetB s)
def staysB (bs : List BerthD) (fl : List ShipD) (l : List StayD) : Bool := berthsB bs && fleetB fl && decide (l.length ≤ 12) && runB (pStay bs fl) [] l
theorem staysB_all {bs : List BerthD} {fl : List ShipD} {l : List StayD} (h : staysB bs fl l = true) : berthsB bs = true ∧ fleetB fl = true ∧ l.length ≤ 12 ∧ runB (pStay bs fl) [] l = true := by
  unfold staysB at h
  simp only [Bool.and_eq_true] at h
  exact ⟨h.1.1.1, h.1.1.2, of_decide_eq_true h.1.2, h.2⟩
theorem staysB_mk {bs : List BerthD} {fl : List ShipD} {l : List StayD} (h1 : berthsB bs = true) (h2 : fleetB fl = true) (h3 : l.length ≤ 12) (h4 : runB (pStay bs fl) [] l = true) : staysB bs fl l = true := by
  unfold staysB
  rw [h1, h2, decide_eq_true h3, h4]
  rfl
theorem staysB_part {bs : List BerthD} {fl : List ShipD} {l m : List StayD} (h : staysB bs fl (l ++ m) = true) : staysB bs fl l = true := by
  obtain ⟨h1, h2, h3, h4⟩ := staysB_all h
  rw [List.length_append] at h3
  exact staysB_mk h1 h2 (by omega) (runB_part _ _ h4)
theorem staysB_at {bs : List BerthD} {fl : List ShipD} {l : List StayD} (h : staysB bs fl l = true) {i : Nat} {s : StayD} (hx : l[i]? = some s) : stayB bs fl s = true ∧ (l.take i).any (meetB s) = false := by
  have := run_at (staysB_all h).2.2.2 hx
  unfold pStay at this
  rw [Bool.and_eq_true, Bool.not_eq_true'] at this
  exact this
theorem stayB_true {bs : List BerthD} {fl : List ShipD} {s : StayD} (h : stayB bs fl s = true) : (0 ≤ s.ship ∧ s.ship < fl.length) ∧ (0 ≤ s.berth ∧ s.berth < bs.length) ∧ (0 ≤ s.fr ∧ s.fr < s.tt ∧ s.tt ≤ 2880) ∧ fitAt bs fl s = true := by
  unfold stayB timeB at h
  simp only [Bool.and_eq_true] at h
  obtain ⟨⟨⟨h1, h2⟩, ⟨h3, h4⟩, h5⟩, h6⟩ := h
  have h1 := of_decide_eq_true h1
  have h2 := of_decide_eq_true h2
  have h3 := of_decide_eq_true h3
  have h4 := of_decide_eq_true h4
  have h5 := of_decide_eq_true h5
  exact ⟨⟨h1.1, by omega⟩, ⟨h2.1, by omega⟩, ⟨h3.1, h4, h5⟩, h6⟩
/-! ### FreeTimes -/
def atBerth (b : Int) (s : StayD) : Bool := (s.berth == b) && decide (s.fr < s.tt)
def winOf (s : StayD) : WindowD := ⟨s.fr, s.tt - 1⟩
def usedL (l : List StayD) (b : Int) : List WindowD := (l.filter (atBerth b)).map winOf
theorem usedL_next {l : List StayD} {b : Int} {k : Nat} {s : StayD} (h : l[k]? = some s) : usedL (l.take (k + 1)) b = usedL (l.take k) b ++ if atBerth b s = true then [winOf s] else [] := by
  unfold usedL
  rw [take_snoc' l k s h, List.filter_append, List.map_append]
  by_cases e : atBerth b s = true
  · rw [if_pos e]; simp [e]
  · rw [if_neg e]; simp [e]
theorem usedL_len (l : List StayD) (b : Int) : (usedL l b).length ≤ l.length := by
  unfold usedL
  rw [List.length_map]
  exact List.length_filter_le _ _
/-! ### FindBerth -/
def findI (bs : List BerthD) (fl : List ShipD) (l : List StayD) (ship fr tt : Int) : Int := if staysB bs fl l = true then firstI (fun b => staysB bs fl (l ++ [⟨ship, b, fr, tt⟩])) ((List.range bs.length).map (fun b : Nat => (b : Int))) else -1
/-! ### AllotBerths -/
def allotR (bs : List BerthD) (fl : List ShipD) (asks : List StayD) : Nat → List StayD → Option (List StayD)
  | 0, done => if staysB bs fl done = true then some done else none
  | k + 1, done => match asks[done.length]? with
    | none => none
    | some a => (List.range bs.length).findSome? (fun b => if staysB bs fl (done ++ [⟨a.ship, (b : Int), a.fr, a.tt⟩]) = true then allotR bs fl asks k (done ++ [⟨a.ship, (b : Int), a.fr, a.tt⟩]) else none)
def allotO (bs : List BerthD) (fl : List ShipD) (asks : List StayD) : Option (List StayD) := if asks.length ≤ 6 then allotR bs fl asks asks.length [] else none
/-! ### BerthLoad -/
def loadI (l : List StayD) (b : Int) : Int := l.foldl (fun s x => if (x.berth == b && timeB x) = true then s + x.tt - x.fr else s) 0
theorem loadI_next {l : List StayD} {b : Int} {k : Nat} {s : StayD} (h : l[k]? = some s) : loadI (l.take (k + 1)) b = if (s.berth == b && timeB s) = true then loadI (l.take k) b + s.tt - s.fr else loadI (l.take k) b := by
  unfold loadI
  rw [take_snoc' l k s h, List.foldl_append]
  rfl
theorem loadI_le (l : List StayD) (b : Int) (k : Nat) : 0 ≤ loadI (l.take k) b ∧ loadI (l.take k) b ≤ 2880 * (k : Int) := by
  induction k with
  | zero => simp [loadI]
  | succ k ih =>
    cases hx : l[k]? with
    | none =>
      have : l.take (k + 1) = l.take k := by
        rw [List.getElem?_eq_none_iff] at hx
        rw [List.take_of_length_le hx, List.take_of_length_le (by omega)]
      rw [this]
      push_cast
      omega
    | some s =>
      rw [loadI_next hx]
      split
      · rename_i h
        rw [Bool.and_eq_true] at h
        have h2 := h.2
        unfold timeB at h2
        simp only [Bool.and_eq_true] at h2
        have h3 := of_decide_eq_true h2.1.1
        have h4 := of_decide_eq_true h2.1.2
        have h5 := of_decide_eq_true h2.2
        push_cast
        omega
      · push_cast
        omega
end Go.Proofs.Ytghjfcnboocmjaa
