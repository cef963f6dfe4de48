
/- What InOrderLaw rests on, part 9: contracts and mathematics. -/
import Derived.Test.YtooeikimoheecaaIo8
import Derived.Test.YtooeikimoheecaaIo2
import Derived.Test.YtooeikimoheecaaIo0
import Derived.Test.YtooeikimoheecaaIo6
import Derived.Deep.AppendLies
import Derived.Deep.RegionLaw
namespace Go.Proofs.Ytooeikimoheecaa
open Go.ChangeShapes Go.WideShapes Go.ChangeAt Go.Deep Go.RowKit
set_option maxRecDepth 100000
section
variable {H : Type} {enc : TypeId × Value → H} {w : World} {base : Nat} {spare : Nat → Bool} {held : Bool}
def PartD.wf (d : PartD) : Prop := (Lit.int .i64 d.amp).wf = true ∧ (Lit.int .i64 d.per).wf = true ∧ (Lit.int .i64 d.pha).wf = true
end
end Go.Proofs.Ytooeikimoheecaa
namespace Go.Proofs.Ytooeikimoheecaa
open Go.RowKit
set_option maxRecDepth 100000
/-- From w to w' only blocks of ex have changed, and new ones have come. -/
structure KeepX (ex : Nat → Prop) (w w' : World) : Prop where
  os : w'.os = w.os
  tape : w'.tape = w.tape
  output : w'.output = w.output
  size : w.heap.size ≤ w'.heap.size
  block : ∀ i, i < w.heap.size → ¬ ex i → w'.heap[i]? = w.heap[i]?
theorem KeepX.refl (ex : Nat → Prop) (w : World) : KeepX ex w w := ⟨rfl, rfl, rfl, Nat.le_refl _, fun _ _ _ => rfl⟩
theorem KeepX.trans {ex : Nat → Prop} {a b c : World} (h : KeepX ex a b) (k : KeepX ex b c) : KeepX ex a c :=
  ⟨k.os.trans h.os, k.tape.trans h.tape, k.output.trans h.output, Nat.le_trans h.size k.size, fun i hi hn => (k.block i (Nat.lt_of_lt_of_le hi h.size) hn).trans (h.block i hi hn)⟩
/-- Only blocks that were there count. -/
theorem KeepX.weak {ex ex' : Nat → Prop} {a b : World} (h : KeepX ex a b) (hx : ∀ i, i < a.heap.size → ex i → ex' i) : KeepX ex' a b :=
  ⟨h.os, h.tape, h.output, h.size, fun i hi hn => h.block i hi (fun e => hn (hx i hi e))⟩
theorem KeepX.join {ex ex1 ex2 : Nat → Prop} {a b c : World} (h : KeepX ex1 a b) (k : KeepX ex2 b c) (h1 : ∀ i, i < a.heap.size → ex1 i → ex i) (h2 : ∀ i, i < a.heap.size → ex2 i → ex i) : KeepX ex a c :=
  ⟨k.os.trans h.os, k.tape.trans h.tape, k.output.trans h.output, Nat.le_trans h.size k.size, fun i hi hn => (k.block i (Nat.lt_of_lt_of_le hi h.size) (fun e => hn (h2 i hi e))).trans (h.block i hi (fun e => hn (h1 i hi e)))⟩
theorem KeepX.below {ex : Nat → Prop} {a b : World} (h : Below a.heap.size a b) : KeepX ex a b := ⟨h.os, h.tape, h.output, h.size, fun i hi _ => h.block i hi⟩
theorem KeepX.grown {ex : Nat → Prop} {a b : World} {row : Option Nat} (h : a.grownBy b row) (hr : ∀ g, row = some g → ex g) : KeepX ex a b := ⟨h.os, h.tape, h.output, h.size, fun i hi hn => h.block i hi (fun e => hn (hr i e.symm))⟩
theorem KeepX.alloc {ex : Nat → Prop} (a : World) (o : Obj) : KeepX ex a (a.alloc o) := .below ((Below.refl _ a).alloc (Nat.le_refl _) o)
theorem KeepX.drew {ex : Nat → Prop} (a : World) : KeepX ex a a.drew := ⟨rfl, rfl, rfl, Nat.le_refl _, fun _ _ _ => rfl⟩
/-- Where only blocks from base on change, it is a Below. -/
theorem KeepX.toBelow {ex : Nat → Prop} {base : Nat} {w0 a b : World} (h : KeepX ex a b) (h0 : Below base w0 a) (hb : base ≤ w0.heap.size) (hx : ∀ i, i < base → ¬ ex i) : Below base w0 b :=
  ⟨h.os.trans h0.os, h.tape.trans h0.tape, h.output.trans h0.output, Nat.le_trans h0.size h.size, fun i hi => (h.block i (Nat.lt_of_lt_of_le (Nat.lt_of_lt_of_le hi hb) h0.size) (hx i hi)).trans (h0.block i hi)⟩
theorem own_keep {α : Type} {k : Nat} {cs : α → List Value} {t : TypeId} {ex : Nat → Prop} {w w' : World} {base : Nat} {v : Value} {l : List α} (h : OwnOf k cs t w base v l) (hk : KeepX ex w w') (hv : ∀ g, v.ownBlock = some g → ¬ ex g) : OwnOf k cs t w' base v l := by
  refine ⟨h.1, ?_⟩
  rcases h.2 with hn | ⟨g, cap, cur, rfl, hb, hgg, rest⟩
  · exact .inl hn
  · exact .inr ⟨g, cap, cur, rfl, hb, (hk.block g (Array.getElem?_eq_some_iff.1 hgg).1 (hv g rfl)).trans hgg, rest⟩
theorem Both.imp_mem {α β : Type} {R S : α → β → Prop} {l : List α} {m : List β} (h : Both R l m) (f : ∀ x ∈ l, ∀ y, R x y → S x y) : Both S l m := by
  induction h with
  | nil => exact .nil
  | cons h _ ih => exact .cons (f _ (by simp) _ h) (ih fun x hx y => f x (by simp [hx]) y)
theorem Both.append {α β : Type} {R : α → β → Prop} {l l' : List α} {m m' : List β} (h : Both R l m) (h' : Both R l' m') : Both R (l ++ l') (m ++ m') := by
  induction h with
  | nil => exact h'
  | cons h _ ih => exact .cons h ih
/-- A list of lists from base on, below top. -/
def LLIn (w : World) (base top : Nat) (v : Value) (ll : List (List Int)) : Prop :=
  ∃ vs, OwnOf 1 headCells 36 w base v vs ∧ Both (OwnInt w base) vs ll ∧ vs.Pairwise ApartV ∧ (∀ u ∈ vs, ApartV v u) ∧ RangeV v base top ∧ ∀ u ∈ vs, RangeV u base top
theorem OwnLL.in {w : World} {base : Nat} {v : Value} {ll : List (List Int)} (h : OwnLL w base v ll) : LLIn w base w.heap.size v ll := by
  obtain ⟨vs, ho, hB, hp, hv⟩ := h
  exact ⟨vs, ho, hB, hp, hv, own_range ho, fun u hu => by obtain ⟨l, _, h⟩ := hB.mem hu; exact own_range h⟩
theorem LLIn.own {w : World} {base top : Nat} {v : Value} {ll : List (List Int)} (h : LLIn w base top v ll) : OwnLL w base v ll := by
  obtain ⟨vs, ho, hB, hp, hv, _⟩ := h
  exact ⟨vs, ho, hB, hp, hv⟩
theorem LLIn.keep {ex : Nat → Prop} {w w' : World} {base top : Nat} {v : Value} {ll : List (List Int)} (h : LLIn w base top v ll) (hk : KeepX ex w w') (hx : ∀ g, base ≤ g → g < top → ¬ ex g) : LLIn w' base top v ll := by
  obtain ⟨vs, ho, hB, hp, hv, hr, hrs⟩ := h
  exact ⟨vs, own_keep ho hk (fun g hg => hx g (hr g hg).1 (hr g hg).2), hB.imp_mem (fun u hu l h => own_keep h hk (fun g hg => hx g (hrs u hu g hg).1 (hrs u hu g hg).2)), hp, hv, hr, hrs⟩
theorem LLIn.wide {w : World} {base top top' : Nat} {v : Value} {ll : List (List Int)} (h : LLIn w base top v ll) (ht : top ≤ top') : LLIn w base top' v ll := by
  obtain ⟨vs, ho, hB, hp, hv, hr, hrs⟩ := h
  exact ⟨vs, ho, hB, hp, hv, fun g hg => ⟨(hr g hg).1, Nat.lt_of_lt_of_le (hr g hg).2 ht⟩, fun u hu g hg => ⟨(hrs u hu g hg).1, Nat.lt_of_lt_of_le (hrs u hu g hg).2 ht⟩⟩
theorem LLIn.nil (w : World) (base top : Nat) : LLIn w base top (.slice none 0 0) [] :=
  ⟨[], ⟨by simp, .inl ⟨rfl, rfl⟩⟩, .nil, List.Pairwise.nil, fun u hu => by simp at hu, fun g hg => by simp [Value.ownBlock] at hg, fun u hu => by simp at hu⟩
theorem LLIn.range {w : World} {base top : Nat} {v : Value} {ll : List (List Int)} (h : LLIn w base top v ll) : ∀ g, v.ownBlock = some g → base ≤ g ∧ g < top := by
  obtain ⟨_, _, _, _, _, hr, _⟩ := h
  exact hr
theorem LLIn.form {w : World} {base top : Nat} {v : Value} {ll : List (List Int)} (h : LLIn w base top v ll) : ∃ A c, v = .slice A ll.length c ∧ ll.length ≤ c := by
  obtain ⟨vs, ho, hB, _⟩ := h
  rw [← (forall2_at hB).1]
  rcases ho.2 with ⟨rfl, h0⟩ | ⟨g, cap, cur, rfl, _, _, hc, _⟩
  · exact ⟨none, 0, by rw [h0], by omega⟩
  · exact ⟨_, cap, rfl, hc⟩
theorem info_intS : ∃ i0, Try.prog.info? 36 = some i0 ∧ i0.zero = some (.slice none 0 0) ∧ i0.size = 1 ∧ i0.bytes = 24 := by
  have h : (Try.prog.info? 36).map (fun i => (i.zero, i.size, i.bytes)) = some (some (.slice none 0 0), 1, 24) := by kernel_rfl
  exact info_parts h
theorem flat_head (vs : List Value) : vs.flatMap headCells = vs := by
  induction vs with
  | nil => rfl
  | cons x l ih => rw [List.flatMap_cons, ih]; rfl
theorem LLIn.one {w : World} {base top : Nat} {u : Value} {l : List Int} (h : OwnInt w base u l) (hb : base ≤ w.heap.size) (hr : RangeV u base w.heap.size) (ht : w.heap.size < top) : LLIn (w.alloc (.cells #[u] 36)) base top (.slice (some ⟨w.heap.size, 0, none⟩) 1 1) [l] := by
  have h1 := World.ownsRow_lit (base := base) (e := 36) (size := 1) w #[u] 1 hb (by unfold maxLen; omega) (by simp)
  refine ⟨[u], ?_, .cons (own_below h (Joins.below_alloc1 w _)) .nil, by simp, fun x hx => ?_, fun g hg => ?_, fun x hx g hg => ?_⟩
  · simpa [OwnOf, headCells] using h1
  · simp at hx; subst hx
    intro g hg hg'
    simp [Value.ownBlock] at hg
    have := hr g hg'
    omega
  · simp [Value.ownBlock] at hg
    omega
  · simp at hx; subst hx
    have := hr g hg
    omega
theorem LLIn.lo {w : World} {base base' top : Nat} {v : Value} {ll : List (List Int)} (h : LLIn w base top v ll) (hb : base' ≤ base) : LLIn w base' top v ll := by
  obtain ⟨vs, ho, hB, hp, hv, hr, hrs⟩ := h
  exact ⟨vs, own_lo ho hb, hB.imp fun u l h => own_lo h hb, hp, hv, fun g hg => ⟨Nat.le_trans hb (hr g hg).1, (hr g hg).2⟩, fun u hu g hg => ⟨Nat.le_trans hb (hrs u hu g hg).1, (hrs u hu g hg).2⟩⟩
section
variable (w : World)
/-- The lists of a second list of lists are appended, at a step of a region that draws its order. -/
theorem step_append_LL {ops : Array Oper} {o : Oper} {a : Act} {K : Act → World → Prop} {Q : Exit → Act → World → Prop} {E : Prop} (hgd : o.guard = none) (s x : Operand)
    (ho : o.op = .call { callee := .builtin .append, args := #[s, x], argTypes := #[95, 95] })
    {base base2 top : Nat} {v u : Value} {ll ll2 : List (List Int)} (hv : LLIn w base top v ll) (hu : LLIn w base2 w.heap.size u ll2) (ht : top ≤ base2) (hb : base ≤ base2) (htw : top ≤ w.heap.size)
    (hs : a.eval s = v) (hx : a.eval x = u) (h63 : ll.length + ll2.length ≤ 1000000000) (hbs : base ≤ w.heap.size)
    (h : ∀ A c w', (ll ++ ll2).length ≤ c → LLIn w' base w'.heap.size (.slice A (ll ++ ll2).length c) (ll ++ ll2) → KeepX (fun i => v.ownBlock = some i) w w' → (∀ g, (Value.slice A (ll ++ ll2).length c).ownBlock = some g → v.ownBlock = some g ∨ w.heap.size ≤ g) → K (a.put o.dst (.slice A (ll ++ ll2).length c)) w') :
    if Region.wanted o (yielded ops a.tmps) = true then Oper.wp Try.prog o a w K Q else E := by
  obtain ⟨i0, hi, hz0, hz1, hz2⟩ := info_intS
  obtain ⟨A, c, rfl, hc⟩ := hv.form
  by_cases h0 : ll2 = []
  · subst h0
    obtain ⟨B, c', rfl, _⟩ := hu.form
    refine step_append_none w hgd s x _ ho 36 i0 Try.underlying95 hi A ll.length c hs hc B c' hx ?_
    have h2 := h A c w (by simpa using hc) (by rw [List.append_nil]; exact hv.wide htw) (KeepX.refl _ _) (fun g e => .inl (by cases A with
      | none => cases e
      | some _ => exact e))
    simpa using h2
  · obtain ⟨us, hou, hBu, hpu, hvu, hru, hrus⟩ := hu
    obtain ⟨vs, hov, hBv, hpv, hvv, hrv, hrvs⟩ := hv
    have lv := (forall2_at hBv).1
    have lu := (forall2_at hBu).1
    have hup : 0 < us.length := by
      rw [lu]
      cases ll2 with
      | nil => exact absurd rfl h0
      | cons => simp
    rcases hou.2 with ⟨_, h00⟩ | ⟨gu, cu, curu, rfl, hbu, hgu, hcu, hcum, hcus, htu⟩
    · omega
    · have hcells := World.ownsRow.cells hou (g := gu) rfl
      have hov' : w.ownsRow base 36 1 (.slice A ll.length c) ll.length vs := by
        have := hov
        unfold OwnOf at this
        rw [flat_head, lv] at this
        exact this
      rw [flat_head] at hcells
      refine step_append_keeps w hgd s x _ ho base 36 i0 _ 1 24 Try.underlying95 hi hz0 hz1 hz2 rfl (by omega) (.slice A ll.length c) ll.length vs hs hov' ⟨gu, 0, none⟩ us.length cu us hx (by omega) hcells (fun y hy => ?_) hup (by unfold maxLen; omega) (by omega) hbs ?_
      · obtain ⟨l, _, h⟩ := hBu.mem hy
        obtain ⟨A', c', rfl⟩ := own_form h
        rfl
      · intro g cap w' hown hgrow hor hlt _
        have hk : KeepX (fun i => (Value.slice A ll.length c).ownBlock = some i) w w' := KeepX.grown hgrow (fun g e => e)
        have e1 : ll.length + us.length = (ll ++ ll2).length := by rw [List.length_append, ← lu]
        rw [e1] at hown ⊢
        have hcap : (ll ++ ll2).length ≤ cap := by
          rcases hown.2 with ⟨e, _⟩ | ⟨g', cap', cur', e, _, _, hc', _⟩
          · cases e
          · injection e with _ _ e3; omega
        refine h (some ⟨g, 0, none⟩) cap w' hcap ⟨vs ++ us, ?_, ?_, ?_, ?_, ?_, ?_⟩ hk (fun j e => by
          simp [Value.ownBlock] at e
          subst e
          rcases hor with e | e
          · exact .inl e
          · exact .inr (by omega))
        · unfold OwnOf
          rw [flat_head, show (vs ++ us).length = (ll ++ ll2).length by rw [List.length_append, List.length_append, lv, lu]]
          exact hown
        · refine Both.append (hBv.imp_mem fun y hy l h => own_keep h hk (fun j hj e => hvv y hy j e hj)) (hBu.imp_mem fun y hy l h => own_lo (own_keep h hk (fun j hj e => ?_)) hb)
          have := hrv j e
          have := hrus y hy j hj
          omega
        · rw [List.pairwise_append]
          exact ⟨hpv, hpu, fun y hy z hz j hj hj' => by
            have := hrvs y hy j hj
            have := hrus z hz j hj'
            omega⟩
        · intro y hy j hj hj'
          simp [Value.ownBlock] at hj
          subst hj
          rcases List.mem_append.1 hy with hy | hy
          · rcases hor with e | e
            · exact hvv y hy g e hj'
            · have := hrvs y hy g hj'
              have h3 := own_range (t := 3) (k := 1) (cs := intCells) (v := y) (w := w) (base := base) (l := _) (hBv.mem hy).choose_spec.2
              have := h3 g hj'
              omega
          · rcases hor with e | e
            · have := hrv g e
              have := hrus y hy g hj'
              omega
            · have := hrus y hy g hj'
              omega
        · intro j hj
          simp [Value.ownBlock] at hj
          subst hj
          refine ⟨?_, hlt⟩
          rcases hor with e | e
          · exact (hrv g e).1
          · omega
        · intro y hy j hj
          rcases List.mem_append.1 hy with hy | hy
          · have h3 := own_range (t := 3) (k := 1) (cs := intCells) (v := y) (w := w) (base := base) (l := _) (hBv.mem hy).choose_spec.2
            have := h3 j hj
            have := hk.size
            exact ⟨by omega, by omega⟩
          · have := hrus y hy j hj
            have := hk.size
            exact ⟨by omega, by omega⟩
end
end Go.Proofs.Ytooeikimoheecaa
namespace Go.Proofs.Ytooeikimoheecaa
open Go.RowKit
set_option maxRecDepth 100000
/-- What a drawn part leaves. -/
def DrawsPart (p : Nat) (w : World) (e : Ending) (w' : World) : Prop := ∃ d : PartD, e = .returned d.val ∧ partB d = true ∧ Cursor w' p ∧ w.grownBy w' (some p)
theorem pers_ok (x : Int) (h : x ∈ ([744, 720, 1440, 372, 240] : List Int)) : perB x = true := by
  simp at h
  rcases h with rfl | rfl | rfl | rfl | rfl <;> decide
set_option maxHeartbeats 1000000 in
theorem l02Part_any (p : Nat) (w : World) (hcur : Cursor w p) : Calls Try.prog 129 #[.pointer (some ⟨p, 0, none⟩)] w (DrawsPart p w) := by
  have hb0 := Joins.below_alloc1 w (.cells #[.int .i64 0, .int .i64 0, .int .i64 0] 187)
  have C := Lib.hid (l01Below_any p 300 _ (by omega) (by omega) (hcur.below hb0))
  have hp := hcur.lt
  have G0 := Lib.hid (grown_alloc w (.cells #[.int .i64 0, .int .i64 0, .int .i64 0] 187) (some p))
  have K0 := Lib.hid (Blk.new w #[.int .i64 0, .int .i64 0, .int .i64 0] 187)
  have hnp : some w.heap.size ≠ some p := by simp; omega
  have HNP := Lib.hid hnp
  clear hcur hb0 hnp
  go_enter Try.func129, Try.ntmps129
  go_wp2_with fail
  refine C.out.mono ?_
  rintro e w1 ⟨x, rfl, x0, x1, hc1, hg1⟩
  have hs1 : w.heap.size + 1 ≤ w1.heap.size := by have := hg1.size; simpa using this
  have HC1 := Lib.hid hc1
  have G1 := Lib.hid (grown_trans G0.out hg1)
  have K1 := Lib.hid (K0.out.grown hg1 HNP.out)
  clear hc1 hg1 C
  have hal := Joins.below_alloc1 w1 (.cells #[.int .i64 744, .int .i64 720, .int .i64 1440, .int .i64 372, .int .i64 240] 3)
  go_wp2_with fail
  refine (l01Pick_any p w1.heap.size 0 5 [744, 720, 1440, 372, 240] _ (by decide) (by decide) (by have := HC1.out.lt; omega) ?_ (HC1.out.below hal)).mono ?_
  · intro j y hy
    rw [World.cell?_alloc_at _ _ _ _ rfl]
    match j, hy with
    | 0, hy => simp at hy; subst hy; rfl
    | 1, hy => simp at hy; subst hy; rfl
    | 2, hy => simp at hy; subst hy; rfl
    | 3, hy => simp at hy; subst hy; rfl
    | 4, hy => simp at hy; subst hy; rfl
  rintro e w2 ⟨y, rfl, hy, hc2, hg2⟩
  have hs2 : w1.heap.size + 1 ≤ w2.heap.size := by have := hg2.size; simpa using this
  have HC2 := Lib.hid hc2
  have G2 := Lib.hid (grown_trans G1.out (grown_trans (grown_alloc w1 _ _) hg2))
  have K2 := Lib.hid ((K1.out.below hal).grown hg2 HNP.out)
  have HP := Lib.hid (pers_ok y hy)
  obtain ⟨y0, y1, y2⟩ := perB_true HP.out
  have HY2 := Lib.hid y2
  clear hc2 hg2 hy hal y2
  have hal := Joins.below_alloc1 w2 (.cells #[.int .i64 x, .int .i64 y, .int .i64 0] 187)
  have G3 := Lib.hid (grown_trans G2.out (grown_alloc w2 (.cells #[.int .i64 x, .int .i64 y, .int .i64 0] 187) (some p)))
  have J3 := Lib.hid (Blk.new w2 #[.int .i64 x, .int .i64 y, .int .i64 0] 187)
  have K3 := Lib.hid (K2.out.below hal)
  go_wp2_with fail
  refine (l01Below_any p y _ (by omega) (by omega) (HC2.out.below hal)).mono ?_
  rintro e w3 ⟨z, rfl, z0, z1, hc3, hg3⟩
  have hs3 : w2.heap.size + 1 ≤ w3.heap.size := by have := hg3.size; simpa using this
  have hp2 : p < w2.heap.size := HC2.out.lt
  have HC3 := Lib.hid hc3
  have G4 := Lib.hid (grown_trans G3.out hg3)
  have hnp2 : some w2.heap.size ≠ some p := by simp; omega
  have J4 := Lib.hid (J3.out.grown hg3 hnp2)
  have K4 := Lib.hid (K3.out.grown hg3 HNP.out)
  have b0 : w3.cell? ⟨w2.heap.size, 0, none⟩ = some (.int .i64 x) := J4.out.cell 0
  have b1 : w3.cell? ⟨w2.heap.size, 1, none⟩ = some (.int .i64 y) := J4.out.cell 1
  have b2 : w3.cell? ⟨w2.heap.size, 2, none⟩ = some (.int .i64 0) := J4.out.cell 2
  have f2 : w3.frozen? ⟨w2.heap.size, 2, none⟩ = false := J4.out.free 2
  have k0 : w3.cell? ⟨w.heap.size, 0, none⟩ = some (.int .i64 0) := K4.out.cell 0
  have k1 : w3.cell? ⟨w.heap.size, 1, none⟩ = some (.int .i64 0) := K4.out.cell 1
  have k2 : w3.cell? ⟨w.heap.size, 2, none⟩ = some (.int .i64 0) := K4.out.cell 2
  have q0 : w3.frozen? ⟨w.heap.size, 0, none⟩ = false := K4.out.free 0
  have q1 : w3.frozen? ⟨w.heap.size, 1, none⟩ = false := K4.out.free 1
  have q2 : w3.frozen? ⟨w.heap.size, 2, none⟩ = false := K4.out.free 2
  have hlt2 : w.heap.size < w2.heap.size := by omega
  have hnn : w.heap.size ≠ w2.heap.size := by omega
  have hnn' : w2.heap.size ≠ w.heap.size := by omega
  clear hc3 hg3 hal hnp2
  go_wp2
  refine bodyPost_ret (v := .agg #[.int .i64 x, .int .i64 y, .int .i64 z]) (by simp [results, Try.results129, go_sem, *]) rfl ⟨⟨x, y, z⟩, rfl, ?_, ?_, ?_⟩
  · exact partB_mk ⟨x0, by show x ≤ 1000; omega, HP.out, z0, z1⟩
  · exact (((HC3.out.set hp2 2 (.int .i64 z)).set hp 0 (.int .i64 x)).set hp 1 (.int .i64 y)).set hp 2 (.int .i64 z)
  · exact grown_setNew (grown_setNew (grown_setNew (grown_setNew G4.out (by omega) _) (Nat.le_refl _) _) (Nat.le_refl _) _) (Nat.le_refl _) _
/-- What a drawn tide leaves: a valid tide over a new list. -/
def DrawsTide (p : Nat) (w : World) (e : Ending) (w' : World) : Prop := ∃ (m : Int) (v : Value) (l : List PartD), e = .returned (.agg #[.int .i64 m, v]) ∧ tideB m l = true ∧ OwnP w' w.heap.size v l ∧ Cursor w' p ∧ w.grownBy w' (some p)
/-- What holds at each round of l02Draw. -/
def Drawing (w : World) (p b2 b3 : Nat) (m : Int) (v : Value) (l : List PartD) (wr : World) : Prop :=
  Cursor wr p ∧ w.grownBy wr (some p) ∧ Blk wr b2 #[.int .i64 0, .slice none 0 0] 25 ∧ Blk wr b3 #[.int .i64 m, v] 25 ∧ OwnP wr (b3 + 1) v l ∧ (∀ x ∈ l, partB x = true) ∧ p < b2 ∧ b2 < b3 ∧ w.heap.size ≤ b2
theorem own_over {wr w3 : World} {p B : Nat} {v : Value} {l : List PartD} (h : OwnP wr (B + 1) v l) (hg : wr.drew.grownBy w3 (some p)) (hp : p < B) : OwnP w3 (B + 1) v l := by
  refine World.ownsRow.kept (w := wr.drew) h hg ?_
  cases hv : v.ownBlock with
  | none => exact .inl rfl
  | some g =>
    right
    intro e
    have h1 := (World.ownsRow.lt h g hv).1
    have h2 := Option.some.inj e
    omega
theorem Drawing.next {w wr w3 w4 : World} {p b2 b3 : Nat} {m : Int} {v : Value} {l : List PartD} {d : PartD} {g4 cap4 : Nat} (h : Drawing w p b2 b3 m v l wr) (hg3 : wr.drew.grownBy w3 (some p)) (hc3 : Cursor w3 p) (hd : partB d = true)
    (hown4 : w4.ownsRow (b3 + 1) 187 3 (.slice (some ⟨g4, 0, none⟩) (l.length + 1) cap4) (l.length + 1) (l.flatMap PartD.cells ++ d.cells)) (hgrow4 : (w3.alloc (.cells #[.int .i64 d.amp, .int .i64 d.per, .int .i64 d.pha] 187)).grownBy w4 v.ownBlock) :
    w4.cell? ⟨b3, 1, none⟩ = some v ∧ w4.frozen? ⟨b3, 1, none⟩ = false ∧ Drawing w p b2 b3 m (.slice (some ⟨g4, 0, none⟩) (l.length + 1) cap4) (l ++ [d]) (w4.setCell ⟨b3, 1, none⟩ (.slice (some ⟨g4, 0, none⟩) (l.length + 1) cap4)) := by
  obtain ⟨hc, hg, hk, hj, how, hall, h1, h2, h3⟩ := h
  have hrow : ∀ b, v.ownBlock = some b → b3 < b := fun b hb => by have := (World.ownsRow.lt how b hb).1; omega
  have n3 : some b3 ≠ v.ownBlock := fun e => Nat.lt_irrefl _ (hrow b3 e.symm)
  have n2 : some b2 ≠ v.ownBlock := fun e => by have := hrow b2 e.symm; omega
  have hal := Joins.below_alloc1 w3 (.cells #[.int .i64 d.amp, .int .i64 d.per, .int .i64 d.pha] 187)
  have J4 := ((hj.drew.grown hg3 (by simp; omega)).below hal).grown hgrow4 n3
  have K4 := ((hk.drew.grown hg3 (by simp; omega)).below hal).grown hgrow4 n2
  refine ⟨J4.cell 1, J4.free 1, ?_, ?_, K4.other (by omega) _ _, J4.set 1 _, ?_, ?_, h1, h2, h3⟩
  · exact (((hc3.below hal).grown hgrow4 (fun b hb => by have := hrow b hb; omega))).set (by omega) _ _
  · refine grown_setNew ?_ (by omega) _
    have e1 : w.grownBy w3 (some p) := grown_trans (a := w) (b := wr.drew) ⟨hg.os, hg.tape, hg.output, hg.size, hg.block⟩ hg3
    have e2 := grown_trans e1 (grown_of_below hal (some p))
    refine ⟨hgrow4.os.trans e2.os, hgrow4.tape.trans e2.tape, hgrow4.output.trans e2.output, Nat.le_trans e2.size hgrow4.size, fun i hi hne => (hgrow4.block i (Nat.lt_of_lt_of_le hi e2.size) ?_).trans (e2.block i hi hne)⟩
    intro e
    have := hrow i e.symm
    omega
  · refine set_under ?_ (by simp) _
    show World.ownsRow _ _ _ _ _ _ _
    have e : (l ++ [d]).flatMap PartD.cells = l.flatMap PartD.cells ++ d.cells := by simp
    rw [e]
    simpa using hown4
  · intro x hx
    rw [List.mem_append] at hx
    rcases hx with hx | hx
    · exact hall x hx
    · simp at hx; rw [hx]; exact hd
set_option maxHeartbeats 2000000 in
theorem l02Draw_any (p : Nat) (w : World) (hcur : Cursor w p) : Calls Try.prog 114 #[.pointer (some ⟨p, 0, none⟩)] w (DrawsTide p w) := by
  have hb0 := Joins.below_alloc1 w (.cells #[.int .i64 0, .slice none 0 0] 25)
  have C := Lib.hid (l01Below_any p 300 _ (by omega) (by omega) (hcur.below hb0))
  have hp := hcur.lt
  have G0 := Lib.hid (grown_alloc w (.cells #[.int .i64 0, .slice none 0 0] 25) (some p))
  have K0 := Lib.hid (Blk.new w #[.int .i64 0, .slice none 0 0] 25)
  have HNP := Lib.hid (show some w.heap.size ≠ some p by simp; omega)
  obtain ⟨i0, hi, hz0, hz1, hz2⟩ := info_parts info_part
  have HI := Lib.hid (And.intro hi (And.intro hz0 (And.intro hz1 hz2)))
  clear hcur hb0 hi hz0 hz1 hz2
  go_enter Try.func114, Try.ntmps114
  go_wp2_with fail
  refine C.out.mono ?_
  rintro e w1 ⟨m, rfl, m0, m1, hc1, hg1⟩
  have hs1 : w.heap.size + 1 ≤ w1.heap.size := by have := hg1.size; simpa using this
  have hal := Joins.below_alloc1 w1 (.cells #[.int .i64 m, .slice none 0 0] 25)
  have HC1 := Lib.hid (hc1.below hal)
  have G1 := Lib.hid (grown_trans (grown_trans G0.out hg1) (grown_alloc w1 (.cells #[.int .i64 m, .slice none 0 0] 25) (some p)))
  have K1 := Lib.hid ((K0.out.grown hg1 HNP.out).below hal)
  have J1 := Lib.hid (Blk.new w1 #[.int .i64 m, .slice none 0 0] 25)
  clear hc1 hg1 hal C
  go_wp2_with fail
  refine (l01Below_any p 2 _ (by omega) (by omega) HC1.out).mono ?_
  rintro e w2 ⟨n, rfl, n0, n1, hc2, hg2⟩
  have hst : Drawing w p w.heap.size w1.heap.size m (.slice none 0 0) [] w2 := by
    refine ⟨hc2, grown_trans G1.out hg2, K1.out.grown hg2 HNP.out, J1.out.grown hg2 (by simp; omega), ⟨rfl, .inl ⟨rfl, rfl⟩⟩, by simp, hp, by omega, Nat.le_refl _⟩
  have HST := Lib.hid hst
  clear hc2 hg2 hst
  go_wp2
  go_loopw [4] (fun i wr => ∃ (k : Nat) (v : Value) (l : List PartD), l.length + k ≤ 2 ∧ i = .int .i64 k ∧ Hid (Drawing w p w.heap.size w1.heap.size m v l wr)) (fun i _ => (intOf i).toNat)
  case atStart => exact ⟨(1 + n).toNat, _, [], by simp; omega, by simp; omega, HST⟩
  case round =>
    obtain ⟨k, v, l, hlk, rfl, hD⟩ := hrel
    by_cases hk : 0 < k
    · obtain ⟨dc, dg, dk, dj, dow, dall, _⟩ := hD.out
      have j1 : wr.cell? ⟨w1.heap.size, 1, none⟩ = some v := dj.cell 1
      have P := Lib.hid (l02Part_any p wr.drew dc.drew)
      have hpb : p < w1.heap.size := by omega
      have OW := Lib.hid dow
      have DJ := Lib.hid dj
      have hi := HI.out
      have HI' := Lib.hid hi
      rcases Joins.ownsRow_forms dow with ⟨rfl, hl0⟩ | ⟨g, cap, rfl⟩
      · clear dow dj dc dg dk dall hi hl0
        go_wp2
        go_region_law (first
          | (go_simp; go_at_call 129; refine P.out.mono ?_; rintro e w3 ⟨d, rfl, hd, hc3, hg3⟩; have ow3 := Lib.hid (own_over OW.out hg3 hpb); have j3 : w3.cell? ⟨w1.heap.size, 1, none⟩ = some (.slice none 0 0) := (DJ.out.drew.grown hg3 (by simp; omega)).cell 1; have hs3 : w1.heap.size + 1 ≤ w3.heap.size := Nat.le_trans DJ.out.lt hg3.size; have j4 : (w3.alloc (.cells #[.int .i64 d.amp, .int .i64 d.per, .int .i64 d.pha] 187)).cell? ⟨w1.heap.size, 1, none⟩ = some (.slice none 0 0) := (World.cell?_alloc_lt w3 _ ⟨w1.heap.size, 1, none⟩ hs3).trans j3; have HG3 := Lib.hid hg3; have HC3 := Lib.hid hc3; have HD3 := Lib.hid hd; clear hg3 hc3 hd)
          | (refine step_append_lies _ (by rfl) _ _ _ (by rfl) (w1.heap.size + 1) 187 i0 _ 3 24 Try.underlying23 HI'.out.1 HI'.out.2.1 HI'.out.2.2.1 HI'.out.2.2.2 rfl (by omega) (.slice none 0 0) l.length (l.flatMap PartD.cells) (by rfl) (World.ownsRow.alloc ow3.out _) ⟨w3.heap.size, 0, none⟩ 1 1 d.cells (by rfl) (by rfl) (World.news_of_block (heap_alloc_new w3 _)) (by simp [Value.oneCell']) (by omega) (by unfold maxLen; omega) (by omega) (by simp; omega) _ rfl ?_; intro g4 cap4 w4 hown4 hgrow4 _ _; obtain ⟨t1, t2, t3⟩ := hD.out.next HG3.out HC3.out HD3.out hown4 hgrow4; have T3 := Lib.hid t3; clear hown4 hgrow4 t3))
        all_goals
          go_wp2
          go_roundw
          case rel => exact ⟨k - 1, _, l ++ [d], by simp; omega, by go_num, T3⟩
          case measure => simp [intOf]; omega
      · clear dow dj dc dg dk dall hi
        go_wp2
        go_region_law (first
          | (go_simp; go_at_call 129; refine P.out.mono ?_; rintro e w3 ⟨d, rfl, hd, hc3, hg3⟩; have ow3 := Lib.hid (own_over OW.out hg3 hpb); have j3 : w3.cell? ⟨w1.heap.size, 1, none⟩ = some (.slice (some ⟨g, 0, none⟩) l.length cap) := (DJ.out.drew.grown hg3 (by simp; omega)).cell 1; have hs3 : w1.heap.size + 1 ≤ w3.heap.size := Nat.le_trans DJ.out.lt hg3.size; have j4 : (w3.alloc (.cells #[.int .i64 d.amp, .int .i64 d.per, .int .i64 d.pha] 187)).cell? ⟨w1.heap.size, 1, none⟩ = some (.slice (some ⟨g, 0, none⟩) l.length cap) := (World.cell?_alloc_lt w3 _ ⟨w1.heap.size, 1, none⟩ hs3).trans j3; have HG3 := Lib.hid hg3; have HC3 := Lib.hid hc3; have HD3 := Lib.hid hd; clear hg3 hc3 hd)
          | (refine step_append_lies _ (by rfl) _ _ _ (by rfl) (w1.heap.size + 1) 187 i0 _ 3 24 Try.underlying23 HI'.out.1 HI'.out.2.1 HI'.out.2.2.1 HI'.out.2.2.2 rfl (by omega) (.slice (some ⟨g, 0, none⟩) l.length cap) l.length (l.flatMap PartD.cells) (by rfl) (World.ownsRow.alloc ow3.out _) ⟨w3.heap.size, 0, none⟩ 1 1 d.cells (by rfl) (by rfl) (World.news_of_block (heap_alloc_new w3 _)) (by simp [Value.oneCell']) (by omega) (by unfold maxLen; omega) (by omega) (by simp; omega) _ rfl ?_; intro g4 cap4 w4 hown4 hgrow4 _ _; obtain ⟨t1, t2, t3⟩ := hD.out.next HG3.out HC3.out HD3.out hown4 hgrow4; have T3 := Lib.hid t3; clear hown4 hgrow4 t3))
        all_goals
          go_wp2
          go_roundw
          case rel => exact ⟨k - 1, _, l ++ [d], by simp; omega, by go_num, T3⟩
          case measure => simp [intOf]; omega
    · obtain ⟨dc, dg, dk, dj, dow, dall, _⟩ := hD.out
      obtain ⟨A, c, rfl⟩ := own_form dow
      have j0 : wr.cell? ⟨w1.heap.size, 0, none⟩ = some (.int .i64 m) := dj.cell 0
      have j1 : wr.cell? ⟨w1.heap.size, 1, none⟩ = some (.slice A l.length c) := dj.cell 1
      have k0 : wr.cell? ⟨w.heap.size, 0, none⟩ = some (.int .i64 0) := dk.cell 0
      have k1 : wr.cell? ⟨w.heap.size, 1, none⟩ = some (.slice none 0 0) := dk.cell 1
      have f0 : wr.frozen? ⟨w.heap.size, 0, none⟩ = false := dk.free 0
      have f1 : wr.frozen? ⟨w.heap.size, 1, none⟩ = false := dk.free 1
      have DOW := Lib.hid dow
      have DC := Lib.hid dc
      have DG := Lib.hid dg
      have TB := Lib.hid (tideB_mk (m := m) (l := l) ⟨by omega, by omega, by omega, dall⟩)
      clear dow dc dg dk dj dall hD
      go_wp2
      refine bodyPost_ret (v := .agg #[.int .i64 m, .slice A l.length c]) (by simp [results, Try.results114, go_sem, *]) rfl ⟨m, _, l, rfl, TB.out, ?_, ?_, ?_⟩
      · exact Joins.ownsRow_le (set_under (set_under DOW.out (by simp; omega) _) (by simp; omega) _) (by omega)
      · exact (DC.out.set hp 0 _).set hp 1 _
      · exact grown_setNew (grown_setNew DG.out (Nat.le_refl _) _) (Nat.le_refl _) _
end Go.Proofs.Ytooeikimoheecaa
