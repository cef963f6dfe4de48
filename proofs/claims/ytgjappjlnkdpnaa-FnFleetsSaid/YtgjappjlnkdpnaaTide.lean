
/- A tide by value: laws.toTide, laws.szTide, laws.eqTide, TideOk of the program and of the model: contracts. -/
import Derived.Test.YtgjappjlnkdpnaaParts
namespace Go.Proofs.Ytgjappjlnkdpnaa
open Go.RowKit
set_option maxRecDepth 100000

def tideB (m : Int) (l : List PartD) : Bool := decide (-1000 ≤ m ∧ m ≤ 1000 ∧ l.length ≤ 4) && l.all partB
theorem tideB_true {m : Int} {l : List PartD} (h : tideB m l = true) : -1000 ≤ m ∧ m ≤ 1000 ∧ l.length ≤ 4 ∧ ∀ x ∈ l, partB x = true := by
  unfold tideB at h
  rw [Bool.and_eq_true, List.all_eq_true] at h
  have := of_decide_eq_true h.1
  exact ⟨this.1, this.2.1, this.2.2, h.2⟩
theorem tideB_mk {m : Int} {l : List PartD} (h : -1000 ≤ m ∧ m ≤ 1000 ∧ l.length ≤ 4 ∧ ∀ x ∈ l, partB x = true) : tideB m l = true := by
  unfold tideB
  rw [Bool.and_eq_true, List.all_eq_true]
  exact ⟨decide_eq_true ⟨h.1, h.2.1, h.2.2.1⟩, h.2.2.2⟩
theorem tideB_no {m : Int} {l : List PartD} (h : ¬ (-1000 ≤ m ∧ m ≤ 1000 ∧ l.length ≤ 4)) : tideB m l = false := by
  unfold tideB
  rw [decide_eq_false h]; rfl
theorem tideB_bad {m : Int} {l : List PartD} (x : PartD) (i : Nat) (hx : l[i]? = some x) (h : partB x = false) : tideB m l = false := by
  cases e : tideB m l with
  | false => rfl
  | true => rw [(tideB_true e).2.2.2 x (List.mem_of_getElem? hx)] at h; cases h

theorem bcell {W w1 : World} (hb : Below W.heap.size W w1) : (∀ b o, b < W.heap.size → w1.cell? ⟨b, o, none⟩ = W.cell? ⟨b, o, none⟩) ∧ (∀ b o, b < W.heap.size → w1.frozen? ⟨b, o, none⟩ = W.frozen? ⟨b, o, none⟩) :=
  ⟨fun b o h => hb.cell (p := ⟨b, o, none⟩) h, fun b o h => hb.frozen (p := ⟨b, o, none⟩) h⟩

theorem SlP.at {w : World} {v : Value} {l : List PartD} (h : SlP w v l) : ∃ A c, v = .slice A l.length c := SlOf.form h
theorem SlP.below {w w' : World} {v : Value} {l : List PartD} (h : SlP w v l) (hb : Below w.heap.size w w') : SlP w' v l := SlOf.below h hb
theorem OwnP.sl {w : World} {base : Nat} {v : Value} {l : List PartD} (h : OwnP w base v l) (hl : l.length ≤ 1000000000) : SlP w v l := own_sl partLen h hl

theorem set_under {w : World} {base : Nat} {v : Value} {l : List PartD} (h : OwnP w base v l) {a : Addr} (ha : a.block < base) (u : Value) : OwnP (w.setCell a u) base v l := by
  refine World.ownsRow.kept h (row := some a.block) ⟨rfl, rfl, rfl, by simp [World.setCell], fun i hi hne => Below.heap_setCell w _ u i (by rintro rfl; exact hne rfl)⟩ ?_
  cases hv : v.ownBlock with
  | none => exact .inl rfl
  | some g =>
    right
    intro e
    have := (World.ownsRow.lt h g hv).1
    have := Option.some.inj e
    omega

/-- What toTide leaves: a tide over a new list. -/
def NewTide (m : Int) (l : List PartD) (w : World) (e : Ending) (w' : World) : Prop := ∃ v, e = .returned (.agg #[.int .i64 m, v]) ∧ SlP w' v l ∧ Below w.heap.size w w'

end Go.Proofs.Ytgjappjlnkdpnaa
