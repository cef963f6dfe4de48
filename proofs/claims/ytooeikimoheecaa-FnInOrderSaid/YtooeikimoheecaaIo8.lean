
/- What InOrderLaw rests on, part 8: contracts and mathematics. -/
import Derived.Test.YtooeikimoheecaaIo6
import Derived.Test.YtooeikimoheecaaIo2
import Derived.Test.YtooeikimoheecaaIo1
import Derived.Test.YtooeikimoheecaaIo0
import Derived.Test.YtooeikimoheecaaIo3
import Derived.Deep.RegionHeld3
import Derived.Deep.AppendLies
import Derived.Deep.RegionLaw
import Derived.Deep.DeepCutAuto
namespace Go.Proofs.Ytooeikimoheecaa
open Go.RowKit
set_option maxRecDepth 100000
def tideB (m : Int) (l : List PartD) : Bool := decide (-1000 ≤ m ∧ m ≤ 1000 ∧ l.length ≤ 4) && l.all partB
theorem tideB_true {m : Int} {l : List PartD} (h : tideB m l = true) : -1000 ≤ m ∧ m ≤ 1000 ∧ l.length ≤ 4 ∧ ∀ x ∈ l, partB x = true := by
  unfold tideB at h
  rw [Bool.and_eq_true, List.all_eq_true] at h
  have := of_decide_eq_true h.1
  exact ⟨this.1, this.2.1, this.2.2, h.2⟩
theorem tideB_mk {m : Int} {l : List PartD} (h : -1000 ≤ m ∧ m ≤ 1000 ∧ l.length ≤ 4 ∧ ∀ x ∈ l, partB x = true) : tideB m l = true := by
  unfold tideB
  rw [Bool.and_eq_true, List.all_eq_true]
  exact ⟨decide_eq_true ⟨h.1, h.2.1, h.2.2.1⟩, h.2.2.2⟩
theorem tideB_no {m : Int} {l : List PartD} (h : ¬ (-1000 ≤ m ∧ m ≤ 1000 ∧ l.length ≤ 4)) : tideB m l = false := by
  unfold tideB
  rw [decide_eq_false h]; rfl
theorem tideB_bad {m : Int} {l : List PartD} (x : PartD) (i : Nat) (hx : l[i]? = some x) (h : partB x = false) : tideB m l = false := by
  cases e : tideB m l with
  | false => rfl
  | true => rw [(tideB_true e).2.2.2 x (List.mem_of_getElem? hx)] at h; cases h
theorem bcell {W w1 : World} (hb : Below W.heap.size W w1) : (∀ b o, b < W.heap.size → w1.cell? ⟨b, o, none⟩ = W.cell? ⟨b, o, none⟩) ∧ (∀ b o, b < W.heap.size → w1.frozen? ⟨b, o, none⟩ = W.frozen? ⟨b, o, none⟩) :=
  ⟨fun b o h => hb.cell (p := ⟨b, o, none⟩) h, fun b o h => hb.frozen (p := ⟨b, o, none⟩) h⟩
theorem SlP.at {w : World} {v : Value} {l : List PartD} (h : SlP w v l) : ∃ A c, v = .slice A l.length c := SlOf.form h
theorem SlP.below {w w' : World} {v : Value} {l : List PartD} (h : SlP w v l) (hb : Below w.heap.size w w') : SlP w' v l := SlOf.below h hb
theorem OwnP.sl {w : World} {base : Nat} {v : Value} {l : List PartD} (h : OwnP w base v l) (hl : l.length ≤ 1000000000) : SlP w v l := own_sl partLen h hl
theorem set_under {w : World} {base : Nat} {v : Value} {l : List PartD} (h : OwnP w base v l) {a : Addr} (ha : a.block < base) (u : Value) : OwnP (w.setCell a u) base v l := by
  refine World.ownsRow.kept h (row := some a.block) ⟨rfl, rfl, rfl, by simp [World.setCell], fun i hi hne => Below.heap_setCell w _ u i (by rintro rfl; exact hne rfl)⟩ ?_
  cases hv : v.ownBlock with
  | none => exact .inl rfl
  | some g =>
    right
    intro e
    have := (World.ownsRow.lt h g hv).1
    have := Option.some.inj e
    omega
end Go.Proofs.Ytooeikimoheecaa
namespace Go.Proofs.Ytooeikimoheecaa
open Go.ChangeShapes Go.WideShapes Go.ChangeAt Go.Deep Go.RowKit
set_option maxRecDepth 100000
structure ChartD where
  points : List PointD
  segs : List SegmentD
/-- The slices read as the lists of d. -/
def RdChart (w : World) (v0 v1 : Value) (d : ChartD) : Prop := SlPoint w v0 d.points ∧ SlSegment w v1 d.segs
theorem RdChart.below {w w' : World} {v0 v1 : Value} {d : ChartD} (h : RdChart w v0 v1 d) (hb : Below w.heap.size w w') : RdChart w' v0 v1 d := ⟨h.1.below hb, h.2.below hb⟩
section
variable {H : Type} {enc : TypeId × Value → H} {w : World} {base : Nat} {spare : Nat → Bool} {held : Bool}
end
end Go.Proofs.Ytooeikimoheecaa
namespace Go.Proofs.Ytooeikimoheecaa
open Go.RowKit
set_option maxRecDepth 100000
/-- Two lists of one length whose elements stand in R, one by one. -/
inductive Both {α β : Type} (R : α → β → Prop) : List α → List β → Prop
  | nil : Both R [] []
  | cons {x : α} {y : β} {l : List α} {m : List β} (h : R x y) (t : Both R l m) : Both R (x :: l) (y :: m)
theorem Both.imp {α β : Type} {R S : α → β → Prop} {l : List α} {m : List β} (h : Both R l m) (f : ∀ x y, R x y → S x y) : Both S l m := by
  induction h with
  | nil => exact .nil
  | cons h _ ih => exact .cons (f _ _ h) ih
theorem Both.snoc {α β : Type} {R : α → β → Prop} {l : List α} {m : List β} (h : Both R l m) {x : α} {y : β} (hxy : R x y) : Both R (l ++ [x]) (m ++ [y]) := by
  induction h with
  | nil => exact .cons hxy .nil
  | cons h _ ih => exact .cons h ih
def headCells : Value → List Value := fun v => [v]
theorem headLen (v : Value) : (headCells v).length = 1 := rfl
/-- The slice v holds the slices vs, which read as the lists of ll. -/
def SlLL (w : World) (v : Value) (vs : List Value) (ll : List (List Int)) : Prop := SlOf 1 headCells w v vs ∧ Both (SlInt w) vs ll
theorem SlLL.below {w w' : World} {v : Value} {vs : List Value} {ll : List (List Int)} (h : SlLL w v vs ll) (hb : Below w.heap.size w w') : SlLL w' v vs ll :=
  ⟨SlOf.below h.1 hb, h.2.imp fun _ _ h => h.below hb⟩
theorem forall2_at {α β : Type} {R : α → β → Prop} {l : List α} {m : List β} (h : Both R l m) : l.length = m.length ∧ ∀ (i : Nat) (x : α), l[i]? = some x → ∃ y : β, m[i]? = some y ∧ R x y := by
  induction h with
  | nil => exact ⟨rfl, fun i x hx => by simp at hx⟩
  | cons hx _ ih =>
    refine ⟨by simp [ih.1], fun i x hi => ?_⟩
    cases i with
    | zero => simp at hi; subst hi; exact ⟨_, rfl, hx⟩
    | succ i => simp at hi ⊢; exact ih.2 i x hi
/-- A new list of lists: over memory that is new since base, every part in a block of its own. -/
def OwnLL (w : World) (base : Nat) (v : Value) (ll : List (List Int)) : Prop :=
  ∃ vs, OwnOf 1 headCells 36 w base v vs ∧ Both (OwnInt w base) vs ll ∧ vs.Pairwise ApartV ∧ ∀ u ∈ vs, ApartV v u
/-- How many ints the first lists hold. -/
def sumLen : List (List Int) → Nat
  | [] => 0
  | l :: ll => l.length + sumLen ll
def FreeVs (w : World) (vs : List Value) : Prop := ∀ u ∈ vs, FreeV w u
def RangeVs (vs : List Value) (a b : Nat) : Prop := ∀ u ∈ vs, RangeV u a b
theorem FreeVs.below {w w' : World} {vs : List Value} (h : FreeVs w vs) (hb : Below w.heap.size w w') : FreeVs w' vs := fun u hu => (h u hu).below hb
def Shape (vs : List Value) (ll : List (List Int)) : Prop := Both (fun u (l : List Int) => ∃ A c, u = .slice A l.length c) vs ll
theorem sumLen_mem {ll : List (List Int)} {l : List Int} (h : l ∈ ll) : l.length ≤ sumLen ll := by
  induction ll with
  | nil => simp at h
  | cons x ll ih =>
    rcases List.mem_cons.1 h with rfl | h
    · simp [sumLen]
    · have := ih h; simp [sumLen]; omega
theorem Both.mem {α β : Type} {R : α → β → Prop} {l : List α} {m : List β} (h : Both R l m) {x : α} (hx : x ∈ l) : ∃ y ∈ m, R x y := by
  induction h with
  | nil => simp at hx
  | cons h _ ih =>
    rcases List.mem_cons.1 hx with rfl | hx
    · exact ⟨_, by simp, h⟩
    · obtain ⟨y, hy, hr⟩ := ih hx
      exact ⟨y, by simp [hy], hr⟩
theorem both_sl {w : World} {base : Nat} {vs : List Value} {ll : List (List Int)} (h : Both (OwnInt w base) vs ll) (hs : ∀ l ∈ ll, l.length ≤ 1000000000) : Both (SlInt w) vs ll := by
  induction h with
  | nil => exact .nil
  | cons h _ ih => exact .cons (OwnInt.sl h (hs _ (by simp))) (ih fun l hl => hs l (by simp [hl]))
theorem OwnLL.parts {w : World} {base : Nat} {v : Value} {ll : List (List Int)} (h : OwnLL w base v ll) (h1 : ll.length ≤ 10000000) (h2 : sumLen ll ≤ 80000000) :
    ∃ vs A c, v = .slice A vs.length c ∧ vs.length = ll.length ∧ SlLL w v vs ll ∧ RangeV v base w.heap.size ∧ RangeVs vs base w.heap.size ∧ FreeVs w vs ∧ vs.Pairwise ApartV ∧ (∀ u ∈ vs, ApartV v u) ∧ Shape vs ll := by
  obtain ⟨vs, ho, hB, hp, hv⟩ := h
  have hlen := (forall2_at hB).1
  obtain ⟨A, c, e⟩ := own_form ho
  refine ⟨vs, A, c, e, hlen, ⟨own_sl headLen ho (by omega), both_sl hB (fun l hl => by have := sumLen_mem hl; omega)⟩, own_range ho, fun u hu => ?_, fun u hu => ?_, hp, hv, hB.imp fun u l h => own_form h⟩
  · obtain ⟨l, _, h⟩ := hB.mem hu
    exact own_range h
  · obtain ⟨l, _, h⟩ := hB.mem hu
    exact own_freeV h
end Go.Proofs.Ytooeikimoheecaa
namespace Go.Proofs.Ytooeikimoheecaa
open Go.RowKit
set_option maxRecDepth 100000
theorem take_all_parts {l : List PartD} {k : Nat} (h : ∀ j x, j < k → l[j]? = some x → partB x = true) (hk : l.length ≤ k) : ∀ x ∈ l, partB x = true := by
  intro x hx
  obtain ⟨j, hj⟩ := List.getElem?_of_mem hx
  exact h j x (Nat.lt_of_lt_of_le (List.getElem?_eq_some_iff.1 hj).1 hk) hj
/-- The first k parts are valid. -/
def FirstOk (l : List PartD) (k : Nat) : Prop := ∀ j x, j < k → l[j]? = some x → partB x = true
theorem FirstOk.next {l : List PartD} {k : Nat} {x : PartD} (h : FirstOk l k) (hx : l[k]? = some x) (hp : partB x = true) : FirstOk l (k + 1) := by
  intro j y hj hy
  by_cases e : j = k
  · subst e; rw [hx] at hy; rw [← Option.some.inj hy]; exact hp
  · exact h j y (by omega) hy
set_option maxHeartbeats 1000000 in
theorem implTideOk (m : Int) (v : Value) (l : List PartD) (w : World) (h : SlP w v l) :
    Calls Try.prog 147 #[.agg #[.int .i64 m, v]] w fun e w' => e = .returned (.bool (tideB m l)) ∧ Below w.heap.size w w' := by
  have H := Lib.hid h
  have hl := h.1
  by_cases h1 : m < -1000
  · obtain ⟨A, c, rfl⟩ := h.at
    have E := Lib.hid (tideB_no (m := m) (l := l) (by omega))
    clear h
    go_enter Try.func147, Try.ntmps147
    go_wp2
    go_ret
    exact ⟨ret_bool E.out.symm, Joins.below_alloc1 _ _⟩
  · by_cases h2 : 1000 < m
    · obtain ⟨A, c, rfl⟩ := h.at
      have E := Lib.hid (tideB_no (m := m) (l := l) (by omega))
      clear h
      go_enter Try.func147, Try.ntmps147
      go_wp2
      go_ret
      exact ⟨ret_bool E.out.symm, Joins.below_alloc1 _ _⟩
    · by_cases h3 : 4 < l.length
      · obtain ⟨A, c, rfl⟩ := h.at
        have E := Lib.hid (tideB_no (m := m) (l := l) (by omega))
        clear h
        go_enter Try.func147, Try.ntmps147
        go_wp2
        go_ret
        exact ⟨ret_bool E.out.symm, Joins.below_alloc1 _ _⟩
      · obtain ⟨_, h⟩ := h
        rcases h with ⟨rfl, A, c, rfl⟩ | ⟨g, o, c, rfl, hp, hcap, hc⟩
        · have E := Lib.hid (tideB_mk (m := m) (l := []) ⟨by omega, by omega, by simp, by simp⟩)
          go_enter Try.func147, Try.ntmps147
          go_wp2
          refine wp_loop_rounds 1 ?_
          rw [rounds_succ]
          go_wp2
          go_ret
          exact ⟨ret_bool E.out.symm, Joins.below_alloc1 _ _⟩
        · have HC := Lib.hid hc
          clear hc
          go_enter Try.func147, Try.ntmps147
          go_wp2
          go_loopw [22] (fun i wr => ∃ k : Nat, k ≤ l.length ∧ i = .int .i64 k ∧ Hid (FirstOk l k) ∧ Below w.heap.size w wr) (fun i _ => l.length - (intOf i).toNat)
          case atStart => exact ⟨0, Nat.zero_le _, rfl, Lib.hid (fun j x hj => absurd hj (by omega)), Joins.below_alloc1 _ _⟩
          case round =>
            obtain ⟨k, hk, rfl, hF, hb⟩ := hrel
            by_cases hlt : k < l.length
            · obtain ⟨x, hx⟩ : ∃ x, l[k]? = some x := ⟨_, List.getElem?_eq_getElem hlt⟩
              obtain ⟨p0, p1, p2⟩ := SlP.cells HC.out k x hx
              have hg : g < w.heap.size := World.block_lt_of_cell? w ⟨g, o + k * 3, none⟩ p0
              have a0 := (hb.cell (p := ⟨g, o + k * 3, none⟩) hg).trans p0
              have a1 := (hb.cell (p := ⟨g, o + k * 3 + 1, none⟩) hg).trans p1
              have a2 := (hb.cell (p := ⟨g, o + k * 3 + 2, none⟩) hg).trans p2
              have hbs := hb.size
              have HX := Lib.hid hx
              have hb' := Lib.hid hb
              clear p0 p1 p2 hx hb
              cases hpx : partB x with
              | false =>
                have E := Lib.hid (tideB_bad (m := m) x k HX.out hpx)
                have HPX := Lib.hid hpx
                clear hpx
                go_wp2_with fail
                refine (implPartOk x _).mono ?_
                rw [HPX.out]
                rintro e w1 ⟨rfl, hb1⟩
                have HB1 := Lib.hid hb1
                clear hb1
                go_wp2
                go_ret
                refine ⟨ret_bool E.out.symm, ?_⟩
                repeat (first | exact hb'.out | refine Below.setCell ?_ (by first | omega | (simp <;> omega)) _ | refine Below.alloc ?_ (by first | omega | (simp <;> omega)) _ | refine Below.trans ?_ (HB1.out.mono (by first | omega | (simp <;> omega))))
              | true =>
                have F := Lib.hid (hF.out.next HX.out hpx)
                have HPX := Lib.hid hpx
                clear hpx
                go_wp2_with fail
                refine (implPartOk x _).mono ?_
                rw [HPX.out]
                rintro e w1 ⟨rfl, hb1⟩
                have HB1 := Lib.hid hb1
                clear hb1
                go_wp2
                go_roundw
                case rel =>
                  refine ⟨k + 1, by omega, by go_num, F, ?_⟩
                  repeat (first | exact hb'.out | refine Below.setCell ?_ (by first | omega | (simp <;> omega)) _ | refine Below.alloc ?_ (by first | omega | (simp <;> omega)) _ | refine Below.trans ?_ (HB1.out.mono (by first | omega | (simp <;> omega))))
                case measure => simp [intOf]; omega
            · have E := Lib.hid (tideB_mk (m := m) (l := l) ⟨by omega, by omega, by omega, take_all_parts hF.out (by omega)⟩)
              go_wp2
              go_ret
              exact ⟨ret_bool E.out.symm, hb⟩
end Go.Proofs.Ytooeikimoheecaa
namespace Go.Proofs.Ytooeikimoheecaa
open Go.RowKit
set_option maxRecDepth 100000
theorem l01Once_any (p : Nat) (n : Int) (w : World) (h0 : 0 < n) (h1 : n ≤ 1000000) (hcur : Cursor w p) :
    Calls Try.prog 88 #[.pointer (some ⟨p, 0, none⟩), .int .i64 n] w fun e w' => ∃ b : Bool, e = .returned (.bool b) ∧ Cursor w' p ∧ w.grownBy w' (some p) := by
  have C := Lib.hid (l01Below_any p n w h0 h1 hcur)
  clear hcur
  go_enter Try.func88, Try.ntmps88
  go_wp2_with fail
  refine C.out.mono ?_
  rintro e w1 ⟨x, rfl, x0, x1, hc1, hg1⟩
  have HC := Lib.hid hc1
  have HG := Lib.hid hg1
  clear hc1 hg1
  go_wp2
  go_ret
  exact ⟨_, rfl, HC.out, HG.out⟩
@[reducible] def sea : ByteArray := ⟨#[115, 101, 97]⟩
@[reducible] def bar : ByteArray := ⟨#[98, 97, 114]⟩
@[reducible] def road : ByteArray := ⟨#[114, 111, 97, 100]⟩
@[reducible] def quay : ByteArray := ⟨#[113, 117, 97, 121]⟩
@[reducible] def dock : ByteArray := ⟨#[100, 111, 99, 107]⟩
section
variable {α : Type} {k : Nat} {cs : α → List Value} {t : TypeId}
theorem own_setO {W : World} {base : Nat} {v : Value} {l : List α} (h : OwnOf k cs t W base v l) {b : Nat} (hne : v.ownBlock ≠ some b) (j : Nat) (u : Value) : OwnOf k cs t (W.setCell ⟨b, j, none⟩ u) base v l :=
  own_kept h (grown_set1 W b j u) (fun g hg e => hne (by rw [hg]; exact e.symm))
end
/-- What holds while a chart is drawn: b2: the result's block, b3: the variable's. -/
def ChDraw (w : World) (p b2 b3 : Nat) (pv sv : Value) (pts : List PointD) (segs : List SegmentD) (W : World) : Prop :=
  Cursor W p ∧ w.grownBy W (some p) ∧ Blk W b2 #[.slice none 0 0, .slice none 0 0] 32 ∧ Blk W b3 #[pv, sv] 32 ∧ OwnPoint W (b2 + 1) pv pts ∧ OwnSegment W (b2 + 1) sv segs ∧
  pv.ownBlock ≠ some b3 ∧ sv.ownBlock ≠ some b3 ∧ (∀ b, pv.ownBlock = some b → sv.ownBlock ≠ some b) ∧ p < b2 ∧ b2 < b3 ∧ w.heap.size ≤ b2
section
variable {w W : World} {p b2 b3 : Nat} {pv sv : Value} {pts : List PointD} {segs : List SegmentD}
theorem ChDraw.cur (h : ChDraw w p b2 b3 pv sv pts segs W) : Cursor W p := h.1
theorem ChDraw.c0 (h : ChDraw w p b2 b3 pv sv pts segs W) : W.cell? ⟨b3, 0, none⟩ = some pv := h.2.2.2.1.cell 0
theorem ChDraw.c1 (h : ChDraw w p b2 b3 pv sv pts segs W) : W.cell? ⟨b3, 1, none⟩ = some sv := h.2.2.2.1.cell 1
theorem ChDraw.f0 (h : ChDraw w p b2 b3 pv sv pts segs W) : W.frozen? ⟨b3, 0, none⟩ = false := h.2.2.2.1.free 0
theorem ChDraw.f1 (h : ChDraw w p b2 b3 pv sv pts segs W) : W.frozen? ⟨b3, 1, none⟩ = false := h.2.2.2.1.free 1
theorem ChDraw.k0 (h : ChDraw w p b2 b3 pv sv pts segs W) : W.cell? ⟨b2, 0, none⟩ = some (.slice none 0 0) := h.2.2.1.cell 0
theorem ChDraw.k1 (h : ChDraw w p b2 b3 pv sv pts segs W) : W.cell? ⟨b2, 1, none⟩ = some (.slice none 0 0) := h.2.2.1.cell 1
theorem ChDraw.g0 (h : ChDraw w p b2 b3 pv sv pts segs W) : W.frozen? ⟨b2, 0, none⟩ = false := h.2.2.1.free 0
theorem ChDraw.g1 (h : ChDraw w p b2 b3 pv sv pts segs W) : W.frozen? ⟨b2, 1, none⟩ = false := h.2.2.1.free 1
theorem ChDraw.lt (h : ChDraw w p b2 b3 pv sv pts segs W) : b3 < W.heap.size := h.2.2.2.1.lt
theorem ChDraw.ownP (h : ChDraw w p b2 b3 pv sv pts segs W) : OwnPoint W (b2 + 1) pv pts := h.2.2.2.2.1
theorem ChDraw.ownS (h : ChDraw w p b2 b3 pv sv pts segs W) : OwnSegment W (b2 + 1) sv segs := h.2.2.2.2.2.1
theorem ChDraw.drew (h : ChDraw w p b2 b3 pv sv pts segs W) : ChDraw w p b2 b3 pv sv pts segs W.drew := by
  obtain ⟨h1, h2, h3, h4, h5, h6, hr⟩ := h
  exact ⟨h1.drew, ⟨h2.os, h2.tape, h2.output, h2.size, h2.block⟩, h3.drew, h4.drew, h5, h6, hr⟩
theorem ChDraw.step {w3 : World} (h : ChDraw w p b2 b3 pv sv pts segs W) (hg : W.grownBy w3 (some p)) (hc : Cursor w3 p) : ChDraw w p b2 b3 pv sv pts segs w3 := by
  obtain ⟨h1, h2, h3, h4, h5, h6, h7, h8, h9, hp, hb, hw⟩ := h
  exact ⟨hc, grown_trans h2 hg, h3.grown hg (by simp; omega), h4.grown hg (by simp; omega), own_kept h5 hg (fun b hv e => by have := (own_ge h5 hv).1; have := Option.some.inj e; omega),
    own_kept h6 hg (fun b hv e => by have := (own_ge h6 hv).1; have := Option.some.inj e; omega), h7, h8, h9, hp, hb, hw⟩
theorem ChDraw.below {w3 : World} (h : ChDraw w p b2 b3 pv sv pts segs W) (hb : Below W.heap.size W w3) : ChDraw w p b2 b3 pv sv pts segs w3 := by
  obtain ⟨h1, h2, h3, h4, h5, h6, hr⟩ := h
  exact ⟨h1.below hb, grown_trans h2 (grown_of_below hb _), h3.below hb, h4.below hb, own_below h5 hb, own_below h6 hb, hr⟩
/-- The list of segments grows by one and is stored. -/
theorem ChDraw.appS {w4 : World} {d : SegmentD} {g4 cap4 : Nat} (h : ChDraw w p b2 b3 pv sv pts segs W)
    (hown : w4.ownsRow (b2 + 1) 123 5 (.slice (some ⟨g4, 0, none⟩) (segs.length + 1) cap4) (segs.length + 1) (segs.flatMap SegmentD.cells ++ d.cells)) (hgr : W.grownBy w4 sv.ownBlock) (hor : sv.ownBlock = some g4 ∨ g4 = W.heap.size) :
    w4.cell? ⟨b3, 1, none⟩ = some sv ∧ w4.frozen? ⟨b3, 1, none⟩ = false ∧ ChDraw w p b2 b3 pv (.slice (some ⟨g4, 0, none⟩) (segs.length + 1) cap4) pts (segs ++ [d]) (w4.setCell ⟨b3, 1, none⟩ (.slice (some ⟨g4, 0, none⟩) (segs.length + 1) cap4)) := by
  obtain ⟨h1, h2, h3, h4, h5, h6, h7, h8, h9, hp, hb, hw⟩ := h
  have r0 : ∀ b, sv.ownBlock = some b → b2 + 1 ≤ b := fun b hv => (own_ge h6 hv).1
  have J4 := h4.grown hgr (fun e => h8 e.symm)
  have K4 := h3.grown hgr (fun e => by have := r0 b2 e.symm; omega)
  have hg3 : g4 ≠ b3 := by
    rcases hor with e | e
    · intro e2; rw [e2] at e; exact h8 e
    · have := h4.lt; omega
  refine ⟨J4.cell 1, J4.free 1, (h1.grown hgr (fun b hv => by have := r0 b hv; omega)).set (by omega) _ _, grown_setNew (grown_young h2 hgr (fun b hv => by have := r0 b hv; omega)) (by omega) _, K4.other (by omega) _ _, J4.set 1 _, ?_, ?_, h7, ?_, ?_, hp, hb, hw⟩
  · exact own_setO (own_kept h5 hgr (fun b hv => h9 b hv)) h7 _ _
  · refine own_setO ?_ (own_blk_ne hg3) _ _
    show World.ownsRow _ _ _ _ _ _ _
    have e : (segs ++ [d]).flatMap SegmentD.cells = segs.flatMap SegmentD.cells ++ d.cells := by simp
    rw [e]
    simpa using hown
  · exact own_blk_ne hg3
  · intro b hv e
    have e' : g4 = b := by rw [own_blk] at e; exact Option.some.inj e
    rcases hor with e2 | e2
    · exact h9 b hv (by rw [e2, e'])
    · have := (own_ge h5 hv).2; omega
/-- The list of points grows by one and is stored. -/
theorem ChDraw.appP {w4 : World} {d : PointD} {g4 cap4 : Nat} (h : ChDraw w p b2 b3 pv sv pts segs W)
    (hown : w4.ownsRow (b2 + 1) 148 2 (.slice (some ⟨g4, 0, none⟩) (pts.length + 1) cap4) (pts.length + 1) (pts.flatMap PointD.cells ++ d.cells)) (hgr : W.grownBy w4 pv.ownBlock) (hor : pv.ownBlock = some g4 ∨ g4 = W.heap.size) :
    w4.cell? ⟨b3, 0, none⟩ = some pv ∧ w4.frozen? ⟨b3, 0, none⟩ = false ∧ ChDraw w p b2 b3 (.slice (some ⟨g4, 0, none⟩) (pts.length + 1) cap4) sv (pts ++ [d]) segs (w4.setCell ⟨b3, 0, none⟩ (.slice (some ⟨g4, 0, none⟩) (pts.length + 1) cap4)) := by
  obtain ⟨h1, h2, h3, h4, h5, h6, h7, h8, h9, hp, hb, hw⟩ := h
  have r0 : ∀ b, pv.ownBlock = some b → b2 + 1 ≤ b := fun b hv => (own_ge h5 hv).1
  have J4 := h4.grown hgr (fun e => h7 e.symm)
  have K4 := h3.grown hgr (fun e => by have := r0 b2 e.symm; omega)
  have hg3 : g4 ≠ b3 := by
    rcases hor with e | e
    · intro e2; rw [e2] at e; exact h7 e
    · have := h4.lt; omega
  refine ⟨J4.cell 0, J4.free 0, (h1.grown hgr (fun b hv => by have := r0 b hv; omega)).set (by omega) _ _, grown_setNew (grown_young h2 hgr (fun b hv => by have := r0 b hv; omega)) (by omega) _, K4.other (by omega) _ _, J4.set 0 _, ?_, ?_, ?_, h8, ?_, hp, hb, hw⟩
  · refine own_setO ?_ (own_blk_ne hg3) _ _
    show World.ownsRow _ _ _ _ _ _ _
    have e : (pts ++ [d]).flatMap PointD.cells = pts.flatMap PointD.cells ++ d.cells := by simp
    rw [e]
    simpa using hown
  · exact own_setO (own_kept h6 hgr (fun b hv e => h9 b e hv)) h8 _ _
  · exact own_blk_ne hg3
  · intro b hv e
    have e' : g4 = b := by rw [own_blk] at hv; exact Option.some.inj hv
    rcases hor with e2 | e2
    · exact h9 g4 e2 (by rw [e, e'])
    · have := (own_ge h6 e).2; omega
/-- A literal of segments is stored. -/
theorem ChDraw.litS {l : List SegmentD} {cells : Array Value} (h : ChDraw w p b2 b3 pv sv pts segs W) (hc : cells.toList = l.flatMap SegmentD.cells) (hs : cells.size = l.length * 5) (hl : l.length ≤ 1000) :
    ChDraw w p b2 b3 pv (.slice (some ⟨W.heap.size, 0, none⟩) l.length l.length) pts l ((W.alloc (.cells cells 123)).setCell ⟨b3, 1, none⟩ (.slice (some ⟨W.heap.size, 0, none⟩) l.length l.length)) := by
  have hlt := h.lt
  obtain ⟨h1, h2, h3, h4, h5, h6, h7, h8, h9, hp, hb, hw⟩ := h
  have hal := Joins.below_alloc1 W (.cells cells 123)
  have ho := World.ownsRow_lit (base := b2 + 1) (e := 123) (size := 5) W cells l.length (by omega) (by unfold maxLen; omega) hs
  rw [hc] at ho
  refine ⟨(h1.below hal).set (by omega) _ _, grown_setNew (grown_trans h2 (grown_of_below hal _)) (by omega) _, (h3.below hal).other (by omega) _ _, (h4.below hal).set 1 _, own_setO (own_below h5 hal) h7 _ _, own_setO ho (own_blk_ne (by omega)) _ _, h7, own_blk_ne (by omega), fun b hv => own_blk_ne (by have := (own_ge h5 hv).2; omega), hp, hb, hw⟩
end
end Go.Proofs.Ytooeikimoheecaa
namespace Go.Proofs.Ytooeikimoheecaa
open Go.RowKit
set_option maxRecDepth 100000
/-- The index of the first point of a name, or -1. -/
def namedI (l : List PointD) (s : ByteArray) : Int := match l.findIdx? (fun p => p.name.toList == s.toList) with | some i => (i : Int) | none => -1
def NoName (l : List PointD) (s : ByteArray) (k : Nat) : Prop := ∀ j, j < k → ∀ y, l[j]? = some y → (y.name.toList == s.toList) = false
theorem NoName.zero (l : List PointD) (s : ByteArray) : NoName l s 0 := fun j hj => absurd hj (by omega)
theorem NoName.next {l : List PointD} {s : ByteArray} {k : Nat} {x : PointD} (h : NoName l s k) (hx : l[k]? = some x) (hn : (x.name.toList == s.toList) = false) : NoName l s (k + 1) := fun j hj y hy => by
  by_cases e : j = k
  · subst e; rw [hx] at hy; cases hy; exact hn
  · exact h j (by omega) y hy
theorem namedI_at {l : List PointD} {s : ByteArray} {k : Nat} {x : PointD} (h : NoName l s k) (hx : l[k]? = some x) (hn : (x.name.toList == s.toList) = true) : namedI l s = k := by
  have : l.findIdx? (fun p => p.name.toList == s.toList) = some k := by
    rw [List.findIdx?_eq_some_iff_getElem]
    obtain ⟨hk, rfl⟩ := List.getElem?_eq_some_iff.1 hx
    exact ⟨hk, hn, fun j hj => by rw [h j hj _ (List.getElem?_eq_getElem (by omega))]; simp⟩
  unfold namedI; rw [this]
/-- The segment joins the two points. -/
def joinsB (s : SegmentD) (a b : Int) : Bool := (s.a == a && s.b == b) || (s.a == b && s.b == a)
/-- The other end of a segment, or -1. -/
def otherI (s : SegmentD) (p : Int) : Int := if p = s.a then s.b else if p = s.b then s.a else -1
end Go.Proofs.Ytooeikimoheecaa
