
/- What leaves all blocks but some as they were; lists of lists that are appended. Over any program. -/
import Derived.Test.YtgjappjlnkdpnaaIntSS
import Derived.Test.YtgjappjlnkdpnaaAppendKeeps
namespace Go.Proofs.Ytgjappjlnkdpnaa
open Go.RowKit
set_option maxRecDepth 100000

/-- From w to w' only blocks of ex have changed, and new ones have come. -/
structure KeepX (ex : Nat → Prop) (w w' : World) : Prop where
  os : w'.os = w.os
  tape : w'.tape = w.tape
  output : w'.output = w.output
  size : w.heap.size ≤ w'.heap.size
  block : ∀ i, i < w.heap.size → ¬ ex i → w'.heap[i]? = w.heap[i]?
theorem KeepX.refl (ex : Nat → Prop) (w : World) : KeepX ex w w := ⟨rfl, rfl, rfl, Nat.le_refl _, fun _ _ _ => rfl⟩
theorem KeepX.trans {ex : Nat → Prop} {a b c : World} (h : KeepX ex a b) (k : KeepX ex b c) : KeepX ex a c :=
  ⟨k.os.trans h.os, k.tape.trans h.tape, k.output.trans h.output, Nat.le_trans h.size k.size, fun i hi hn => (k.block i (Nat.lt_of_lt_of_le hi h.size) hn).trans (h.block i hi hn)⟩
/-- Only blocks that were there count. -/
theorem KeepX.weak {ex ex' : Nat → Prop} {a b : World} (h : KeepX ex a b) (hx : ∀ i, i < a.heap.size → ex i → ex' i) : KeepX ex' a b :=
  ⟨h.os, h.tape, h.output, h.size, fun i hi hn => h.block i hi (fun e => hn (hx i hi e))⟩
theorem KeepX.join {ex ex1 ex2 : Nat → Prop} {a b c : World} (h : KeepX ex1 a b) (k : KeepX ex2 b c) (h1 : ∀ i, i < a.heap.size → ex1 i → ex i) (h2 : ∀ i, i < a.heap.size → ex2 i → ex i) : KeepX ex a c :=
  ⟨k.os.trans h.os, k.tape.trans h.tape, k.output.trans h.output, Nat.le_trans h.size k.size, fun i hi hn => (k.block i (Nat.lt_of_lt_of_le hi h.size) (fun e => hn (h2 i hi e))).trans (h.block i hi (fun e => hn (h1 i hi e)))⟩
theorem KeepX.below {ex : Nat → Prop} {a b : World} (h : Below a.heap.size a b) : KeepX ex a b := ⟨h.os, h.tape, h.output, h.size, fun i hi _ => h.block i hi⟩
theorem KeepX.grown {ex : Nat → Prop} {a b : World} {row : Option Nat} (h : a.grownBy b row) (hr : ∀ g, row = some g → ex g) : KeepX ex a b := ⟨h.os, h.tape, h.output, h.size, fun i hi hn => h.block i hi (fun e => hn (hr i e.symm))⟩
theorem KeepX.alloc {ex : Nat → Prop} (a : World) (o : Obj) : KeepX ex a (a.alloc o) := .below ((Below.refl _ a).alloc (Nat.le_refl _) o)
theorem KeepX.drew {ex : Nat → Prop} (a : World) : KeepX ex a a.drew := ⟨rfl, rfl, rfl, Nat.le_refl _, fun _ _ _ => rfl⟩
/-- Where only blocks from base on change, it is a Below. -/
theorem KeepX.toBelow {ex : Nat → Prop} {base : Nat} {w0 a b : World} (h : KeepX ex a b) (h0 : Below base w0 a) (hb : base ≤ w0.heap.size) (hx : ∀ i, i < base → ¬ ex i) : Below base w0 b :=
  ⟨h.os.trans h0.os, h.tape.trans h0.tape, h.output.trans h0.output, Nat.le_trans h0.size h.size, fun i hi => (h.block i (Nat.lt_of_lt_of_le (Nat.lt_of_lt_of_le hi hb) h0.size) (hx i hi)).trans (h0.block i hi)⟩
theorem own_keep {α : Type} {k : Nat} {cs : α → List Value} {t : TypeId} {ex : Nat → Prop} {w w' : World} {base : Nat} {v : Value} {l : List α} (h : OwnOf k cs t w base v l) (hk : KeepX ex w w') (hv : ∀ g, v.ownBlock = some g → ¬ ex g) : OwnOf k cs t w' base v l := by
  refine ⟨h.1, ?_⟩
  rcases h.2 with hn | ⟨g, cap, cur, rfl, hb, hgg, rest⟩
  · exact .inl hn
  · exact .inr ⟨g, cap, cur, rfl, hb, (hk.block g (Array.getElem?_eq_some_iff.1 hgg).1 (hv g rfl)).trans hgg, rest⟩
theorem Both.imp_mem {α β : Type} {R S : α → β → Prop} {l : List α} {m : List β} (h : Both R l m) (f : ∀ x ∈ l, ∀ y, R x y → S x y) : Both S l m := by
  induction h with
  | nil => exact .nil
  | cons h _ ih => exact .cons (f _ (by simp) _ h) (ih fun x hx y => f x (by simp [hx]) y)
theorem Both.append {α β : Type} {R : α → β → Prop} {l l' : List α} {m m' : List β} (h : Both R l m) (h' : Both R l' m') : Both R (l ++ l') (m ++ m') := by
  induction h with
  | nil => exact h'
  | cons h _ ih => exact .cons h ih
/-- A list of lists from base on, below top. -/
def LLIn (w : World) (base top : Nat) (v : Value) (ll : List (List Int)) : Prop :=
  ∃ vs, OwnOf 1 headCells 31 w base v vs ∧ Both (OwnInt w base) vs ll ∧ vs.Pairwise ApartV ∧ (∀ u ∈ vs, ApartV v u) ∧ RangeV v base top ∧ ∀ u ∈ vs, RangeV u base top
theorem OwnLL.in {w : World} {base : Nat} {v : Value} {ll : List (List Int)} (h : OwnLL w base v ll) : LLIn w base w.heap.size v ll := by
  obtain ⟨vs, ho, hB, hp, hv⟩ := h
  exact ⟨vs, ho, hB, hp, hv, own_range ho, fun u hu => by obtain ⟨l, _, h⟩ := hB.mem hu; exact own_range h⟩
theorem LLIn.own {w : World} {base top : Nat} {v : Value} {ll : List (List Int)} (h : LLIn w base top v ll) : OwnLL w base v ll := by
  obtain ⟨vs, ho, hB, hp, hv, _⟩ := h
  exact ⟨vs, ho, hB, hp, hv⟩
theorem LLIn.keep {ex : Nat → Prop} {w w' : World} {base top : Nat} {v : Value} {ll : List (List Int)} (h : LLIn w base top v ll) (hk : KeepX ex w w') (hx : ∀ g, base ≤ g → g < top → ¬ ex g) : LLIn w' base top v ll := by
  obtain ⟨vs, ho, hB, hp, hv, hr, hrs⟩ := h
  exact ⟨vs, own_keep ho hk (fun g hg => hx g (hr g hg).1 (hr g hg).2), hB.imp_mem (fun u hu l h => own_keep h hk (fun g hg => hx g (hrs u hu g hg).1 (hrs u hu g hg).2)), hp, hv, hr, hrs⟩
theorem LLIn.wide {w : World} {base top top' : Nat} {v : Value} {ll : List (List Int)} (h : LLIn w base top v ll) (ht : top ≤ top') : LLIn w base top' v ll := by
  obtain ⟨vs, ho, hB, hp, hv, hr, hrs⟩ := h
  exact ⟨vs, ho, hB, hp, hv, fun g hg => ⟨(hr g hg).1, Nat.lt_of_lt_of_le (hr g hg).2 ht⟩, fun u hu g hg => ⟨(hrs u hu g hg).1, Nat.lt_of_lt_of_le (hrs u hu g hg).2 ht⟩⟩
theorem LLIn.nil (w : World) (base top : Nat) : LLIn w base top (.slice none 0 0) [] :=
  ⟨[], ⟨by simp, .inl ⟨rfl, rfl⟩⟩, .nil, List.Pairwise.nil, fun u hu => by simp at hu, fun g hg => by simp [Value.ownBlock] at hg, fun u hu => by simp at hu⟩
theorem LLIn.range {w : World} {base top : Nat} {v : Value} {ll : List (List Int)} (h : LLIn w base top v ll) : ∀ g, v.ownBlock = some g → base ≤ g ∧ g < top := by
  obtain ⟨_, _, _, _, _, hr, _⟩ := h
  exact hr
theorem LLIn.form {w : World} {base top : Nat} {v : Value} {ll : List (List Int)} (h : LLIn w base top v ll) : ∃ A c, v = .slice A ll.length c ∧ ll.length ≤ c := by
  obtain ⟨vs, ho, hB, _⟩ := h
  rw [← (forall2_at hB).1]
  rcases ho.2 with ⟨rfl, h0⟩ | ⟨g, cap, cur, rfl, _, _, hc, _⟩
  · exact ⟨none, 0, by rw [h0], by omega⟩
  · exact ⟨_, cap, rfl, hc⟩
theorem info_intS : ∃ i0, Try.prog.info? 31 = some i0 ∧ i0.zero = some (.slice none 0 0) ∧ i0.size = 1 ∧ i0.bytes = 24 := by
  have h : (Try.prog.info? 31).map (fun i => (i.zero, i.size, i.bytes)) = some (some (.slice none 0 0), 1, 24) := by kernel_rfl
  exact info_parts h
theorem flat_head (vs : List Value) : vs.flatMap headCells = vs := by
  induction vs with
  | nil => rfl
  | cons x l ih => rw [List.flatMap_cons, ih]; rfl
theorem LLIn.one {w : World} {base top : Nat} {u : Value} {l : List Int} (h : OwnInt w base u l) (hb : base ≤ w.heap.size) (hr : RangeV u base w.heap.size) (ht : w.heap.size < top) : LLIn (w.alloc (.cells #[u] 31)) base top (.slice (some ⟨w.heap.size, 0, none⟩) 1 1) [l] := by
  have h1 := World.ownsRow_lit (base := base) (e := 31) (size := 1) w #[u] 1 hb (by unfold maxLen; omega) (by simp)
  refine ⟨[u], ?_, .cons (own_below h (Joins.below_alloc1 w _)) .nil, by simp, fun x hx => ?_, fun g hg => ?_, fun x hx g hg => ?_⟩
  · simpa [OwnOf, headCells] using h1
  · simp at hx; subst hx
    intro g hg hg'
    simp [Value.ownBlock] at hg
    have := hr g hg'
    omega
  · simp [Value.ownBlock] at hg
    omega
  · simp at hx; subst hx
    have := hr g hg
    omega

theorem LLIn.lo {w : World} {base base' top : Nat} {v : Value} {ll : List (List Int)} (h : LLIn w base top v ll) (hb : base' ≤ base) : LLIn w base' top v ll := by
  obtain ⟨vs, ho, hB, hp, hv, hr, hrs⟩ := h
  exact ⟨vs, own_lo ho hb, hB.imp fun u l h => own_lo h hb, hp, hv, fun g hg => ⟨Nat.le_trans hb (hr g hg).1, (hr g hg).2⟩, fun u hu g hg => ⟨Nat.le_trans hb (hrs u hu g hg).1, (hrs u hu g hg).2⟩⟩

section
variable (w : World)
/-- The lists of a second list of lists are appended, at a step of a region that draws its order. -/
theorem step_append_LL {ops : Array Oper} {o : Oper} {a : Act} {K : Act → World → Prop} {Q : Exit → Act → World → Prop} {E : Prop} (hgd : o.guard = none) (s x : Operand)
    (ho : o.op = .call { callee := .builtin .append, args := #[s, x], argTypes := #[29, 29] })
    {base base2 top : Nat} {v u : Value} {ll ll2 : List (List Int)} (hv : LLIn w base top v ll) (hu : LLIn w base2 w.heap.size u ll2) (ht : top ≤ base2) (hb : base ≤ base2) (htw : top ≤ w.heap.size)
    (hs : a.eval s = v) (hx : a.eval x = u) (h63 : ll.length + ll2.length ≤ 1000000000) (hbs : base ≤ w.heap.size)
    (h : ∀ A c w', (ll ++ ll2).length ≤ c → LLIn w' base w'.heap.size (.slice A (ll ++ ll2).length c) (ll ++ ll2) → KeepX (fun i => v.ownBlock = some i) w w' → (∀ g, (Value.slice A (ll ++ ll2).length c).ownBlock = some g → v.ownBlock = some g ∨ w.heap.size ≤ g) → K (a.put o.dst (.slice A (ll ++ ll2).length c)) w') :
    if Region.wanted o (yielded ops a.tmps) = true then Oper.wp Try.prog o a w K Q else E := by
  obtain ⟨i0, hi, hz0, hz1, hz2⟩ := info_intS
  obtain ⟨A, c, rfl, hc⟩ := hv.form
  by_cases h0 : ll2 = []
  · subst h0
    obtain ⟨B, c', rfl, _⟩ := hu.form
    refine step_append_none w hgd s x _ ho 31 i0 Try.underlying29 hi A ll.length c hs hc B c' hx ?_
    have h2 := h A c w (by simpa using hc) (by rw [List.append_nil]; exact hv.wide htw) (KeepX.refl _ _) (fun g e => .inl (by cases A with
      | none => cases e
      | some _ => exact e))
    simpa using h2
  · obtain ⟨us, hou, hBu, hpu, hvu, hru, hrus⟩ := hu
    obtain ⟨vs, hov, hBv, hpv, hvv, hrv, hrvs⟩ := hv
    have lv := (forall2_at hBv).1
    have lu := (forall2_at hBu).1
    have hup : 0 < us.length := by
      rw [lu]
      cases ll2 with
      | nil => exact absurd rfl h0
      | cons => simp
    rcases hou.2 with ⟨_, h00⟩ | ⟨gu, cu, curu, rfl, hbu, hgu, hcu, hcum, hcus, htu⟩
    · omega
    · have hcells := World.ownsRow.cells hou (g := gu) rfl
      have hov' : w.ownsRow base 31 1 (.slice A ll.length c) ll.length vs := by
        have := hov
        unfold OwnOf at this
        rw [flat_head, lv] at this
        exact this
      rw [flat_head] at hcells
      refine step_append_keeps w hgd s x _ ho base 31 i0 _ 1 24 Try.underlying29 hi hz0 hz1 hz2 rfl (by omega) (.slice A ll.length c) ll.length vs hs hov' ⟨gu, 0, none⟩ us.length cu us hx (by omega) hcells (fun y hy => ?_) hup (by unfold maxLen; omega) (by omega) hbs ?_
      · obtain ⟨l, _, h⟩ := hBu.mem hy
        obtain ⟨A', c', rfl⟩ := own_form h
        rfl
      · intro g cap w' hown hgrow hor hlt _
        have hk : KeepX (fun i => (Value.slice A ll.length c).ownBlock = some i) w w' := KeepX.grown hgrow (fun g e => e)
        have e1 : ll.length + us.length = (ll ++ ll2).length := by rw [List.length_append, ← lu]
        rw [e1] at hown ⊢
        have hcap : (ll ++ ll2).length ≤ cap := by
          rcases hown.2 with ⟨e, _⟩ | ⟨g', cap', cur', e, _, _, hc', _⟩
          · cases e
          · injection e with _ _ e3; omega
        refine h (some ⟨g, 0, none⟩) cap w' hcap ⟨vs ++ us, ?_, ?_, ?_, ?_, ?_, ?_⟩ hk (fun j e => by
          simp [Value.ownBlock] at e
          subst e
          rcases hor with e | e
          · exact .inl e
          · exact .inr (by omega))
        · unfold OwnOf
          rw [flat_head, show (vs ++ us).length = (ll ++ ll2).length by rw [List.length_append, List.length_append, lv, lu]]
          exact hown
        · refine Both.append (hBv.imp_mem fun y hy l h => own_keep h hk (fun j hj e => hvv y hy j e hj)) (hBu.imp_mem fun y hy l h => own_lo (own_keep h hk (fun j hj e => ?_)) hb)
          have := hrv j e
          have := hrus y hy j hj
          omega
        · rw [List.pairwise_append]
          exact ⟨hpv, hpu, fun y hy z hz j hj hj' => by
            have := hrvs y hy j hj
            have := hrus z hz j hj'
            omega⟩
        · intro y hy j hj hj'
          simp [Value.ownBlock] at hj
          subst hj
          rcases List.mem_append.1 hy with hy | hy
          · rcases hor with e | e
            · exact hvv y hy g e hj'
            · have := hrvs y hy g hj'
              have h3 := own_range (t := 3) (k := 1) (cs := intCells) (v := y) (w := w) (base := base) (l := _) (hBv.mem hy).choose_spec.2
              have := h3 g hj'
              omega
          · rcases hor with e | e
            · have := hrv g e
              have := hrus y hy g hj'
              omega
            · have := hrus y hy g hj'
              omega
        · intro j hj
          simp [Value.ownBlock] at hj
          subst hj
          refine ⟨?_, hlt⟩
          rcases hor with e | e
          · exact (hrv g e).1
          · omega
        · intro y hy j hj
          rcases List.mem_append.1 hy with hy | hy
          · have h3 := own_range (t := 3) (k := 1) (cs := intCells) (v := y) (w := w) (base := base) (l := _) (hBv.mem hy).choose_spec.2
            have := h3 j hj
            have := hk.size
            exact ⟨by omega, by omega⟩
          · have := hrus y hy j hj
            have := hk.size
            exact ⟨by omega, by omega⟩
end
end Go.Proofs.Ytgjappjlnkdpnaa
