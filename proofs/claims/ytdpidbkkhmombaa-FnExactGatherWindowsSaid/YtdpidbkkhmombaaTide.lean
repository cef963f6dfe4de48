
/- A tide by value: laws.toTide, laws.szTide, laws.eqTide, TideOk of the program and of the model: contracts. -/
import Derived.Test.YtdpidbkkhmombaaParts
namespace Go.Proofs.Ytdpidbkkhmombaa
open Go.RowKit
set_option maxRecDepth 100000

def tideB (m : Int) (l : List PartD) : Bool := decide (-1000 ≤ m ∧ m ≤ 1000 ∧ l.length ≤ 4) && l.all partB
theorem tideB_true {m : Int} {l : List PartD} (h : tideB m l = true) : -1000 ≤ m ∧ m ≤ 1000 ∧ l.length ≤ 4 ∧ ∀ x ∈ l, partB x = true := by
  unfold tideB at h
  rw [Bool.and_eq_true, List.all_eq_true] at h
  have := of_decide_eq_true h.1
  exact ⟨this.1, this.2.1, this.2.2, h.2⟩
theorem tideB_mk {m : Int} {l : List PartD} (h : -1000 ≤ m ∧ m ≤ 1000 ∧ l.length ≤ 4 ∧ ∀ x ∈ l, partB x = true) : tideB m l = true := by
  unfold tideB
  rw [Bool.and_eq_true, List.all_eq_true]
  exact ⟨decide_eq_true ⟨h.1, h.2.1, h.2.2.1⟩, h.2.2.2⟩
theorem tideB_no {m : Int} {l : List PartD} (h : ¬ (-1000 ≤ m ∧ m ≤ 1000 ∧ l.length ≤ 4)) : tideB m l = false := by
  unfold tideB
  rw [decide_eq_false h]; rfl
theorem tideB_bad {m : Int} {l : List PartD} (x : PartD) (i : Nat) (hx : l[i]? = some x) (h : partB x = false) : tideB m l = false := by
  cases e : tideB m l with
  | false => rfl
  | true => rw [(tideB_true e).2.2.2 x (List.mem_of_getElem? hx)] at h; cases h

theorem bcell {W w1 : World} (hb : Below W.heap.size W w1) : (∀ b o, b < W.heap.size → w1.cell? ⟨b, o, none⟩ = W.cell? ⟨b, o, none⟩) ∧ (∀ b o, b < W.heap.size → w1.frozen? ⟨b, o, none⟩ = W.frozen? ⟨b, o, none⟩) :=
  ⟨fun b o h => hb.cell (p := ⟨b, o, none⟩) h, fun b o h => hb.frozen (p := ⟨b, o, none⟩) h⟩

theorem SlP.at {w : World} {v : Value} {l : List PartD} (h : SlP w v l) : ∃ A c, v = .slice A l.length c := SlOf.form h
theorem SlP.below {w w' : World} {v : Value} {l : List PartD} (h : SlP w v l) (hb : Below w.heap.size w w') : SlP w' v l := SlOf.below h hb
theorem OwnP.sl {w : World} {base : Nat} {v : Value} {l : List PartD} (h : OwnP w base v l) (hl : l.length ≤ 1000000000) : SlP w v l := own_sl partLen h hl

theorem set_under {w : World} {base : Nat} {v : Value} {l : List PartD} (h : OwnP w base v l) {a : Addr} (ha : a.block < base) (u : Value) : OwnP (w.setCell a u) base v l := by
  refine World.ownsRow.kept h (row := some a.block) ⟨rfl, rfl, rfl, by simp [World.setCell], fun i hi hne => Below.heap_setCell w _ u i (by rintro rfl; exact hne rfl)⟩ ?_
  cases hv : v.ownBlock with
  | none => exact .inl rfl
  | some g =>
    right
    intro e
    have := (World.ownsRow.lt h g hv).1
    have := Option.some.inj e
    omega

/-- What toTide leaves: a tide over a new list. -/
def NewTide (m : Int) (l : List PartD) (w : World) (e : Ending) (w' : World) : Prop := ∃ v, e = .returned (.agg #[.int .i64 m, v]) ∧ SlP w' v l ∧ Below w.heap.size w w'

theorem toTide_any (m : Int) (v : Value) (l : List PartD) (w : World) (h : SlP w v l) :
    Calls Try.prog 81 #[.agg #[.int .i64 m, v]] w (NewTide m l w) := by
  have H := Lib.hid h
  have hl := h.1
  obtain ⟨A, c, rfl⟩ := h.at
  clear h
  go_enter Try.func81, Try.ntmps81
  go_wp2_with fail
  refine (toPartS_any _ l _ (H.out.below ?_)).mono ?_
  · repeat (first | exact Below.refl _ _ | refine Below.setCell ?_ (by simp <;> omega) _ | refine Below.alloc ?_ (by simp <;> omega) _)
  rintro e w1 ⟨v1, rfl, ho, hb⟩
  obtain ⟨A1, c1, rfl⟩ := own_form ho
  have S1 := Lib.hid ho
  obtain ⟨hc, hf⟩ := bcell hb
  have hz : w.heap.size + 2 < w1.heap.size := by have := hb.size; simp at this; omega
  clear ho
  go_wp2
  refine bodyPost_ret (v := .agg #[.int .i64 m, .slice A1 l.length c1]) (by simp [results, Try.results81, go_sem, hc]) rfl ⟨_, rfl, ?_, ?_⟩
  · refine OwnP.sl (base := w.heap.size + 3) ?_ hl
    repeat (first | exact Joins.ownsRow_le S1.out (by simp) | refine set_under ?_ (by simp <;> omega) _)
  · repeat (first | exact Below.refl _ _ | refine Below.setCell ?_ (by simp <;> omega) _ | refine Below.alloc ?_ (by simp <;> omega) _ | refine Below.trans ?_ (hb.mono (by simp <;> omega)))

theorem szTide_any (m : Int) (A : Option Addr) (n c : Nat) (w : World) (hn : n ≤ 9223372036854775807) (lim : Int) (h0 : 0 ≤ lim) (h1 : lim ≤ 1048576) :
    Calls Try.prog 77 #[.agg #[.int .i64 m, .slice A n c], .int .i64 lim] w fun e w' => e = .returned (.int .i64 (if lim < (n : Int) then -1 else lim - (n : Int))) ∧ Below w.heap.size w w' := by
  have C := fun W => Lib.hid (szPartS_any A n c W hn lim h0 h1)
  by_cases hlt : lim < (n : Int)
  · rw [if_pos hlt] at C ⊢
    go_enter Try.func77, Try.ntmps77
    go_wp2_with fail
    refine (C _).out.mono ?_
    rintro e w1 ⟨rfl, rfl⟩
    go_wp2
    go_ret
    exact ⟨rfl, Joins.below_alloc1 _ _⟩
  · rw [if_neg hlt] at C ⊢
    go_enter Try.func77, Try.ntmps77
    go_wp2_with fail
    refine (C _).out.mono ?_
    rintro e w1 ⟨rfl, rfl⟩
    go_wp2
    go_ret
    exact ⟨rfl, Joins.below_alloc1 _ _⟩

theorem eqTide_same (m : Int) (va vb : Value) (l : List PartD) (w : World) (ha : SlP w va l) (hb : SlP w vb l) :
    Calls Try.prog 83 #[.agg #[.int .i64 m, va], .agg #[.int .i64 m, vb]] w fun e w' => e = .returned (.bool true) ∧ Below w.heap.size w w' := by
  have HA := Lib.hid ha
  have HB := Lib.hid hb
  obtain ⟨A, c, rfl⟩ := ha.at
  obtain ⟨A', c', rfl⟩ := hb.at
  clear ha hb
  go_enter Try.func83, Try.ntmps83
  go_wp2_with fail
  have hb0 := Joins.below_alloc2 w (.cells #[.int .i64 m, .slice A l.length c] 39) (.cells #[.int .i64 m, .slice A' l.length c'] 39)
  refine (eqPartS_same _ _ l _ (HA.out.below hb0) (HB.out.below hb0)).mono ?_
  rintro e w1 ⟨rfl, hb⟩
  go_wp2
  go_ret
  exact ⟨rfl, hb0.trans (hb.mono hb0.size)⟩

end Go.Proofs.Ytdpidbkkhmombaa
