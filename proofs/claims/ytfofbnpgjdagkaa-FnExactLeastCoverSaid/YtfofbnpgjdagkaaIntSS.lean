
/- Lists of lists of ints: how they read, what owns them; laws.eqIntSS, markIntSS, heldIntSS: contracts. -/
import Derived.Test.YtfofbnpgjdagkaaInts
import Derived.Test.YtfofbnpgjdagkaaTouch
namespace Go.Proofs.Ytfofbnpgjdagkaa
open Go.RowKit
set_option maxRecDepth 100000

/-- Two lists of one length whose elements stand in R, one by one. -/
inductive Both {α β : Type} (R : α → β → Prop) : List α → List β → Prop
  | nil : Both R [] []
  | cons {x : α} {y : β} {l : List α} {m : List β} (h : R x y) (t : Both R l m) : Both R (x :: l) (y :: m)
theorem Both.imp {α β : Type} {R S : α → β → Prop} {l : List α} {m : List β} (h : Both R l m) (f : ∀ x y, R x y → S x y) : Both S l m := by
  induction h with
  | nil => exact .nil
  | cons h _ ih => exact .cons (f _ _ h) ih
theorem Both.snoc {α β : Type} {R : α → β → Prop} {l : List α} {m : List β} (h : Both R l m) {x : α} {y : β} (hxy : R x y) : Both R (l ++ [x]) (m ++ [y]) := by
  induction h with
  | nil => exact .cons hxy .nil
  | cons h _ ih => exact .cons h ih
def headCells : Value → List Value := fun v => [v]
theorem headLen (v : Value) : (headCells v).length = 1 := rfl
/-- The slice v holds the slices vs, which read as the lists of ll. -/
def SlLL (w : World) (v : Value) (vs : List Value) (ll : List (List Int)) : Prop := SlOf 1 headCells w v vs ∧ Both (SlInt w) vs ll
theorem SlLL.below {w w' : World} {v : Value} {vs : List Value} {ll : List (List Int)} (h : SlLL w v vs ll) (hb : Below w.heap.size w w') : SlLL w' v vs ll :=
  ⟨SlOf.below h.1 hb, h.2.imp fun _ _ h => h.below hb⟩
theorem SlLL.touch {w w' : World} {v : Value} {vs : List Value} {ll : List (List Int)} {a b c d : Nat} (h : SlLL w v vs ll) (ht : TouchR w w' a b) (hr : RangeV v c d) (hrs : ∀ u ∈ vs, RangeV u c d) (hd : b ≤ c ∨ d ≤ a) : SlLL w' v vs ll := by
  refine ⟨SlOf.touch h.1 ht hr hd, ?_⟩
  have h2 := h.2
  clear h
  induction h2 with
  | nil => exact .nil
  | cons hx _ ih => exact .cons (SlOf.touch hx ht (hrs _ (by simp)) hd) (ih fun u hu => hrs u (by simp [hu]))
theorem forall2_at {α β : Type} {R : α → β → Prop} {l : List α} {m : List β} (h : Both R l m) : l.length = m.length ∧ ∀ (i : Nat) (x : α), l[i]? = some x → ∃ y : β, m[i]? = some y ∧ R x y := by
  induction h with
  | nil => exact ⟨rfl, fun i x hx => by simp at hx⟩
  | cons hx _ ih =>
    refine ⟨by simp [ih.1], fun i x hi => ?_⟩
    cases i with
    | zero => simp at hi; subst hi; exact ⟨_, rfl, hx⟩
    | succ i => simp at hi ⊢; exact ih.2 i x hi
/-- A new list of lists: over memory that is new since base, every part in a block of its own. -/
def OwnLL (w : World) (base : Nat) (v : Value) (ll : List (List Int)) : Prop :=
  ∃ vs, OwnOf 1 headCells 23 w base v vs ∧ Both (OwnInt w base) vs ll ∧ vs.Pairwise ApartV ∧ ∀ u ∈ vs, ApartV v u

/-- How many ints the first lists hold. -/
def sumLen : List (List Int) → Nat
  | [] => 0
  | l :: ll => l.length + sumLen ll
theorem sumLen_append (a b : List (List Int)) : sumLen (a ++ b) = sumLen a + sumLen b := by
  induction a with
  | nil => simp [sumLen]
  | cons x a ih => simp [sumLen, ih]; omega
theorem sumLen_next {ll : List (List Int)} {k : Nat} {l : List Int} (h : ll[k]? = some l) : sumLen (ll.take (k + 1)) = sumLen (ll.take k) + l.length := by
  rw [take_snoc' ll k l h, sumLen_append]; simp [sumLen]
theorem sumLen_le (ll : List (List Int)) (k : Nat) : sumLen (ll.take k) ≤ sumLen ll := by
  have e := sumLen_append (ll.take k) (ll.drop k)
  rw [List.take_append_drop] at e
  omega
/-- The first j parts are marked, one behind the other. -/
def MarkedTo (w : World) (vs : List Value) (ll : List (List Int)) (k : Int) (j : Nat) : Prop :=
  ∀ i, i < j → ∀ u l, vs[i]? = some u → ll[i]? = some l → MarkedV w u l.length (mvInt (k + (sumLen (ll.take i) : Int)))

/-! ### For the laws: what a new list of lists gives -/
def FreeVs (w : World) (vs : List Value) : Prop := ∀ u ∈ vs, FreeV w u
def RangeVs (vs : List Value) (a b : Nat) : Prop := ∀ u ∈ vs, RangeV u a b
theorem FreeVs.below {w w' : World} {vs : List Value} (h : FreeVs w vs) (hb : Below w.heap.size w w') : FreeVs w' vs := fun u hu => (h u hu).below hb
theorem FreeVs.touch {w w' : World} {vs : List Value} {a b c d : Nat} (h : FreeVs w vs) (ht : TouchR w w' a b) (hr : RangeVs vs c d) (hd : b ≤ c ∨ d ≤ a) : FreeVs w' vs := fun u hu => (h u hu).touch ht (hr u hu) hd
theorem MarkedTo.below {w w' : World} {vs : List Value} {ll : List (List Int)} {k : Int} {j : Nat} (h : MarkedTo w vs ll k j) (hb : Below w.heap.size w w') : MarkedTo w' vs ll k j := fun i hi u l hu hl => (h i hi u l hu hl).below hb
def Shape (vs : List Value) (ll : List (List Int)) : Prop := Both (fun u (l : List Int) => ∃ A c, u = .slice A l.length c) vs ll
theorem sumLen_mem {ll : List (List Int)} {l : List Int} (h : l ∈ ll) : l.length ≤ sumLen ll := by
  induction ll with
  | nil => simp at h
  | cons x ll ih =>
    rcases List.mem_cons.1 h with rfl | h
    · simp [sumLen]
    · have := ih h; simp [sumLen]; omega
theorem Both.mem {α β : Type} {R : α → β → Prop} {l : List α} {m : List β} (h : Both R l m) {x : α} (hx : x ∈ l) : ∃ y ∈ m, R x y := by
  induction h with
  | nil => simp at hx
  | cons h _ ih =>
    rcases List.mem_cons.1 hx with rfl | hx
    · exact ⟨_, by simp, h⟩
    · obtain ⟨y, hy, hr⟩ := ih hx
      exact ⟨y, by simp [hy], hr⟩
theorem both_sl {w : World} {base : Nat} {vs : List Value} {ll : List (List Int)} (h : Both (OwnInt w base) vs ll) (hs : ∀ l ∈ ll, l.length ≤ 1000000000) : Both (SlInt w) vs ll := by
  induction h with
  | nil => exact .nil
  | cons h _ ih => exact .cons (OwnInt.sl h (hs _ (by simp))) (ih fun l hl => hs l (by simp [hl]))
theorem OwnLL.parts {w : World} {base : Nat} {v : Value} {ll : List (List Int)} (h : OwnLL w base v ll) (h1 : ll.length ≤ 10000000) (h2 : sumLen ll ≤ 80000000) :
    ∃ vs A c, v = .slice A vs.length c ∧ vs.length = ll.length ∧ SlLL w v vs ll ∧ RangeV v base w.heap.size ∧ RangeVs vs base w.heap.size ∧ FreeVs w vs ∧ vs.Pairwise ApartV ∧ (∀ u ∈ vs, ApartV v u) ∧ Shape vs ll := by
  obtain ⟨vs, ho, hB, hp, hv⟩ := h
  have hlen := (forall2_at hB).1
  obtain ⟨A, c, e⟩ := own_form ho
  refine ⟨vs, A, c, e, hlen, ⟨own_sl headLen ho (by omega), both_sl hB (fun l hl => by have := sumLen_mem hl; omega)⟩, own_range ho, fun u hu => ?_, fun u hu => ?_, hp, hv, hB.imp fun u l h => own_form h⟩
  · obtain ⟨l, _, h⟩ := hB.mem hu
    exact own_range h
  · obtain ⟨l, _, h⟩ := hB.mem hu
    exact own_freeV h
end Go.Proofs.Ytfofbnpgjdagkaa
