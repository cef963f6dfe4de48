
/- What InOrderLaw rests on, part 2: contracts and mathematics. -/
import Derived.Test.YtooeikimoheecaaIo0
import Derived.Deep.Slices
import Derived.Deep.Fields
import Derived.ChangeSame
import Derived.OrdersHeld
import Derived.BigRegionIn
import Derived.Lib.Hide
import Derived.Test.YtooeikimoheecaaIo1
import Derived.Lib.SmallJoins
import Derived.StillTailTactics
namespace Go.Proofs.Ytooeikimoheecaa
open Go.ChangeShapes Go.WideShapes Go.Deep Go.RowKit
section
variable {H : Type} {enc : TypeId × Value → H} {P : Program} {w : World} {base : Nat} {spare : Nat → Bool} {held : Bool}
/-- A list out of what is known of each place. -/
theorem list_of {α : Type} (n : Nat) (R : Nat → α → Prop) (h : ∀ i, i < n → ∃ d, R i d) : ∃ l : List α, l.length = n ∧ ∀ i x, l[i]? = some x → R i x := by
  induction n with
  | zero => exact ⟨[], rfl, fun i x hx => by simp at hx⟩
  | succ n ih =>
    obtain ⟨l, hl, hr⟩ := ih (fun i hi => h i (by omega))
    obtain ⟨d, hd⟩ := h n (by omega)
    refine ⟨l ++ [d], by simp [hl], fun i x hx => ?_⟩
    rcases Nat.lt_or_ge i l.length with hi | hi
    · rw [List.getElem?_append_left hi] at hx
      exact hr i x hx
    · rw [List.getElem?_append_right hi] at hx
      have : i - l.length = 0 := by
        rcases Nat.eq_zero_or_pos (i - l.length) with h | h
        · exact h
        · rw [List.getElem?_eq_none (by simp; omega)] at hx; cases hx
      rw [this] at hx
      simp at hx
      subst hx
      have : i = n := by omega
      rw [this]; exact hd
/-- A slice that came in, element by element: each element's cells are those of a datum of which Q holds. -/
theorem open_elems {α : Type} (cells : α → List Value) (k : Nat) (Q : α → Prop) {t e : TypeId} {fuel : Nat} {v : Value} {x : DataW H × List MemPlace} (ht : P.underlying t = some (.slice e)) (hC : P.cellsOf e = k) (hlen : ∀ d, (cells d).length = k) (hk0 : 0 < k)
    (dec : ∀ n cs y, DataW.trod enc P w base (fun _ => true) held n e cs = some y → ∃ d, cs = cells d ∧ Q d)
    (h : DataW.trod enc P w base (fun _ => true) held fuel t [v] = some x) :
    ∃ A c l, v = .slice A l.length c ∧ l.length ≤ maxLen ∧ (l.length ≤ 1000000000 → SlOf k cells w (.slice A l.length c) l) ∧ ∀ d ∈ l, Q d := by
  rcases open_slice ht h with ⟨hcs, _⟩ | ⟨a, len, cap, m, n, D, Pl, hcs, _, hl, hm, hmm, _, hi⟩
  · simp at hcs
    subst hcs
    exact ⟨none, 0, [], rfl, by simp, fun h => ⟨h, .inl ⟨rfl, _, _, rfl⟩⟩, by simp⟩
  · simp at hcs
    subst hcs
    simp only [if_true] at hmm
    rw [hmm] at hi
    clear hmm
    rw [hC] at hi
    obtain ⟨l, hll, hr⟩ := list_of len (fun i d => Q d ∧ w.cells? base (a.add (i * k)) k = some (cells d)) (fun i hil => by
      obtain ⟨cs, hc, ht'⟩ := hi i (by omega)
      obtain ⟨d, rfl, hq⟩ := dec _ _ _ ht'
      exact ⟨d, hq, hc⟩)
    subst hll
    refine ⟨some a, cap, l, rfl, by omega, fun h => ⟨h, ?_⟩, fun d hd => ?_⟩
    · rcases Nat.eq_zero_or_pos l.length with h0 | h0
      · exact .inl ⟨List.eq_nil_of_length_eq_zero h0, some a, cap, by rw [h0]⟩
      · right
        obtain ⟨b, off, spot⟩ := a
        have hspot : spot = none := by
          have hq := (hr 0 l[0] (List.getElem?_eq_getElem h0)).2
          obtain ⟨_, hcl, hat⟩ := World.cells?_some hq
          have := hat 0 hk0
          rw [List.getElem?_eq_getElem (by omega)] at this
          simpa [Addr.add] using World.cell?_spot this
        subst hspot
        have hadd : ∀ j, (⟨b, off, none⟩ : Addr).add j = ⟨b, off + j, none⟩ := fun j => by unfold Addr.add; split <;> simp_all
        refine ⟨b, off, cap, rfl, h0, hl, fun i d hd j u hu => ?_⟩
        obtain ⟨_, hcl, hat⟩ := World.cells?_some (hr i d hd).2
        have hj : j < k := by have := (List.getElem?_eq_some_iff.1 hu).1; rw [hlen] at this; exact this
        have := hat j hj
        rw [hadd, hu] at this
        have hadd2 : (⟨b, off + i * k, none⟩ : Addr).add j = ⟨b, off + i * k + j, none⟩ := by unfold Addr.add; split <;> simp_all
        rw [hadd2] at this
        exact this
    · obtain ⟨i, hi⟩ := List.getElem?_of_mem hd
      exact (hr i d hi).1
end
end Go.Proofs.Ytooeikimoheecaa
namespace Go.Proofs.Ytooeikimoheecaa
open Go.RowKit
/-- A cell of an older block is set: what is owned stays owned. -/
theorem own_set_under {α : Type} {k : Nat} {cs : α → List Value} {t : TypeId} {w : World} {base : Nat} {v : Value} {l : List α} (h : OwnOf k cs t w base v l) {a : Addr} (ha : a.block < base) (u : Value) : OwnOf k cs t (w.setCell a u) base v l := by
  refine World.ownsRow.kept h (row := some a.block) ⟨rfl, rfl, rfl, by simp [World.setCell], fun i hi hne => Below.heap_setCell w _ u i (by rintro rfl; exact hne rfl)⟩ ?_
  cases hv : v.ownBlock with
  | none => exact .inl rfl
  | some g =>
    right
    intro e
    have := (World.ownsRow.lt h g hv).1
    have := Option.some.inj e
    omega
end Go.Proofs.Ytooeikimoheecaa
namespace Go.Proofs.Ytooeikimoheecaa
open Go.RowKit
set_option maxRecDepth 100000
section
variable {α : Type} {k : Nat} {cs : α → List Value} {t : TypeId}
theorem own_kept {W w3 : World} {base : Nat} {v : Value} {l : List α} {row : Option Nat} (h : OwnOf k cs t W base v l) (hg : W.grownBy w3 row) (hne : ∀ b, v.ownBlock = some b → row ≠ some b) : OwnOf k cs t w3 base v l := by
  refine World.ownsRow.kept h hg ?_
  cases hv : v.ownBlock with
  | none => exact .inl rfl
  | some g => right; intro e; exact hne g hv e.symm
theorem own_blk (g n c : Nat) : (Value.slice (some ⟨g, 0, none⟩) n c).ownBlock = some g := by simp [Value.ownBlock]
theorem own_blk_ne {g n c b : Nat} (h : g ≠ b) : (Value.slice (some ⟨g, 0, none⟩) n c).ownBlock ≠ some b := by rw [own_blk]; exact fun e => h (Option.some.inj e)
theorem own_ge {W : World} {base : Nat} {v : Value} {l : List α} (h : OwnOf k cs t W base v l) {b : Nat} (hv : v.ownBlock = some b) : base ≤ b ∧ b < W.heap.size := World.ownsRow.lt h b hv
end
/-- A growth into a block that is younger than the first world. -/
theorem grown_young {a w w' : World} {row row' : Option Nat} (h : a.grownBy w row) (hg : w.grownBy w' row') (hy : ∀ b, row' = some b → a.heap.size ≤ b) : a.grownBy w' row :=
  ⟨hg.os.trans h.os, hg.tape.trans h.tape, hg.output.trans h.output, Nat.le_trans h.size hg.size, fun i hi hne => (hg.block i (Nat.lt_of_lt_of_le hi h.size) (fun e => Nat.lt_irrefl _ (Nat.lt_of_lt_of_le hi (hy i e.symm)))).trans (h.block i hi hne)⟩
end Go.Proofs.Ytooeikimoheecaa
namespace Go.Proofs.Ytooeikimoheecaa
open Go.RowKit
theorem isDigit_any (r : Int) (w : World) :
    Calls Try.prog 94 #[.int .i32 r] w fun e w' => e = .returned (.bool (dgI r)) ∧ w = w' := by
  by_cases h1 : 48 ≤ r
  · by_cases h2 : r ≤ 57
    · have hn := Lib.hid (dgI_true h1 h2)
      go_enter Try.func94, Try.ntmps94
      go_wp2
      go_ret
      exact ⟨ret_bool hn.out.symm, rfl⟩
    · have hn := Lib.hid (dgI_false (.inr (by omega : 57 < r)))
      go_enter Try.func94, Try.ntmps94
      go_wp2
      go_ret
      exact ⟨ret_bool hn.out.symm, rfl⟩
  · have hn := Lib.hid (dgI_false (.inl (by omega : r < 48)))
    go_enter Try.func94, Try.ntmps94
    go_wp2
    go_ret
    exact ⟨ret_bool hn.out.symm, rfl⟩
end Go.Proofs.Ytooeikimoheecaa
namespace Go.Proofs.Ytooeikimoheecaa
open Go.RowKit
section
variable {P : Program} {ops : Array Oper} {md : Region.Mode} {F : Fence} {n : Nat} {Q : Exit → Act → World → Prop} {S : World → Prop}
theorem yieldsIf_opIn (L : Lets F n P) (hd : noDefer ops = true) {i : Nat} {o : Oper} {v : Value} {a : Act} (hi : ops[i]? = some o) (hy : YieldsIf P ops S o v a)
    {K : Act → World → Prop} {w : World} (hS : S w) (h : K (a.put o.dst v) w) : wpOpIn F n P ops Q i K a w := by
  unfold Go.wpOpIn
  simp only [hi]
  rcases hy with ⟨hw, hv⟩ | ⟨hw, rfl⟩
  · simp only [hw, if_true, Oper.wpIn]
    refine ⟨fun f _ => L.fn f, ?_⟩
    rw [Oper.semAt_eq _ _ _ (noDefer_at hd hi), hv w hS]
    exact h
  · simp only [hw, Bool.false_eq_true, if_false]; exact ⟨fun f _ => L.fn f, h⟩
theorem opIn_putIf (L : Lets F n P) (hd : noDefer ops = true) {j : Nat} {oi oj : Oper} {v : Value} (hj : ops[j]? = some oj) (hap : oi.apart ops oj = true)
    (hsi : ∀ cs b, oi.op ≠ .select cs b) (hsj : ∀ cs b, oj.op ≠ .select cs b)
    (hQ : ∀ c a w, Q (.panic c) (a.put oi.dst v) w → Q (.panic c) a w) {K : Act → World → Prop} {a : Act} {w : World}
    (hy : YieldsIf P ops S oi v a) (h : wpOpIn F n P ops Q j K (a.put oi.dst v) w) :
    wpOpIn F n P ops Q j (fun a' w' => YieldsIf P ops S oi v a' ∧ K (a'.put oi.dst v) w') a w := by
  obtain ⟨h1, h2, h3⟩ := Oper.apart_spec hap
  have hnd := noDefer_at hd hj
  have keep : ∀ (a : Act), YieldsIf P ops S oi v a → ∀ u, YieldsIf P ops S oi v (a.put oj.dst u) := fun a hy u =>
    hy.of_same (execOp_put oi hsi a oj.dst u h3) (wanted_put oi a oj.dst u h3)
  have keepD : ∀ d, YieldsIf P ops S oi v { a with defers := d :: a.defers } := fun d => hy.of_same rfl rfl
  unfold wpOpIn at *
  simp only [hj] at *
  rw [wanted_put oj a oi.dst v h1] at h
  split
  · rename_i hw
    simp only [hw, if_true] at h
    unfold Oper.wpIn at *
    refine ⟨fun f _ => L.fn f, ?_⟩
    have h := h.2
    rw [Oper.semAt_eq _ _ _ hnd, execOp_put oj hsj a oi.dst v h1] at h
    rw [Oper.semAt_eq _ _ _ hnd]
    generalize (execOp a.eval oj).run P w = r at *
    cases r with
    | ok x w' =>
      cases x <;> simp only [Oper.uponIn] at h ⊢
      case value u => exact ⟨keep a hy u, by rw [← Act.put_comm a v u h2]; exact h⟩
      case skip => exact ⟨keep a hy _, by rw [← Act.put_comm a v undef h2]; exact h⟩
      case defer d =>
        refine ⟨keep _ (keepD d) _, ?_⟩
        rw [← Act.put_comm _ v undef h2, ← Act.put_defers]
        exact h
      case enter f args =>
        refine ⟨h.1, CallsIn.mono h.2 fun e w'' he => ?_⟩
        cases e with
        | returned u => exact ⟨keep a hy u, by rw [← Act.put_comm a v u h2]; exact he⟩
        | panicked c => exact hQ _ _ _ he
        | outgrown => exact he
      case row row args => exact ⟨h.1, RowsIn.mono h.2 fun u w'' he => ⟨keep a hy u, by rw [← Act.put_comm a v u h2]; exact he⟩⟩
      case round l f tmps assign body =>
        refine ⟨h.1, RoundIn.mono h.2 fun e w'' he => ?_⟩
        cases e with
        | returned u => exact ⟨keep a hy u, by rw [← Act.put_comm a v u h2]; exact he⟩
        | panicked c => exact hQ _ _ _ he
        | outgrown => exact he
    | halt x w' =>
      cases x <;> simp only [Oper.uponIn] at h ⊢
      case panic u => exact hQ _ _ _ h
  · rename_i hw
    simp only [hw] at h
    exact ⟨fun f _ => L.fn f, keep a hy _, by rw [← Act.put_comm a v undef h2]; exact h.2⟩
/-- Only the way straight on. -/
def onlyN (K : Act → World → Prop) : Exit → Act → World → Prop
  | .normal, a, w => K a w
  | _, _, _ => False
end
end Go.Proofs.Ytooeikimoheecaa
namespace Go.Proofs.Ytooeikimoheecaa
open Go.ChangeShapes Go.WideShapes Go.ChangeAt Go.RowKit
theorem cells_u8 : Try.prog.cellsOf 5 = 1 := by kernel_rfl
set_option maxRecDepth 100000 in
theorem open_code_arg {H : Type} {enc : TypeId × Value → H} {W : World} {r : Reach} {b0 : Nat} {v : Value} {d : DataW H} {ps : List MemPlace}
    (hval : Value.okWide Try.prog W r b0 22 v) (hd : DataW.Trod enc Try.prog W 0 (fun _ => true) true 22 v d ps) :
    ∃ A n c, v = .slice A n c ∧ n ≤ maxLen ∧ (n ≤ 1048576 → CodeAt W A n) := by
  obtain ⟨A, len, cap, rfl⟩ := okWide_slice Try.underlying22 hval
  obtain ⟨fuel, hf⟩ := hd
  rcases open_ints Try.underlying22 Try.underlying5 cells_u8 hf with ⟨hcs, _⟩ | ⟨a, len', cap', zs, hcs, _, hl, hm, hz, _, hcell, hwf⟩
  · simp [Value.cells] at hcs
    obtain ⟨rfl, rfl, rfl⟩ := hcs
    exact ⟨none, 0, 0, rfl, by decide, fun h => ⟨h, fun h0 => absurd h0 (by omega)⟩⟩
  · simp [Value.cells] at hcs
    obtain ⟨rfl, rfl, rfl⟩ := hcs
    simp only [if_true] at hz
    refine ⟨some a, len, cap, rfl, by omega, fun h => ⟨h, fun h0 => ?_⟩⟩
    obtain ⟨b, off, spot⟩ := a
    have hspot : spot = none := by simpa [Addr.add] using World.cell?_spot (hcell 0 (by omega))
    subst hspot
    have hadd : ∀ j, (⟨b, off, none⟩ : Addr).add j = ⟨b, off + j, none⟩ := fun j => by unfold Addr.add; split <;> simp_all
    refine ⟨b, off, rfl, ?_, fun j hj => ?_⟩
    · have := World.block_lt_of_cell? W _ (hcell 0 (by omega))
      rwa [hadd] at this
    · have hc := hcell j (by omega)
      rw [hadd] at hc
      have hw : (Lit.int .u8 (zs.getD j 0)).wf = true := by
        have hjz : j < zs.length := by omega
        rw [List.getD_eq_getElem?_getD, List.getElem?_eq_getElem hjz]
        exact hwf _ (List.getElem_mem hjz)
      obtain ⟨x0, x1⟩ := bounds_u8 hw
      exact ⟨_, x0, x1, hc⟩
end Go.Proofs.Ytooeikimoheecaa
namespace Go.Proofs.Ytooeikimoheecaa
open Go.RowKit
set_option maxRecDepth 100000
/-- What a draw out of a list leaves. -/
def Picks (p : Nat) (vals : List Int) (w : World) (e : Ending) (w' : World) : Prop := ∃ x : Int, e = .returned (.int .i64 x) ∧ x ∈ vals ∧ Cursor w' p ∧ w.grownBy w' (some p)
theorem l01Pick_any (p g o c : Nat) (vals : List Int) (w : World) (h0 : 0 < vals.length) (h1 : vals.length ≤ 1000) (hne : g ≠ p) (hv : ∀ j x, vals[j]? = some x → w.cell? ⟨g, o + j, none⟩ = some (.int .i64 x)) (hcur : Cursor w p) :
    Calls Try.prog 139 #[.pointer (some ⟨p, 0, none⟩), .slice (some ⟨g, o, none⟩) vals.length c] w (Picks p vals w) := by
  have HV := Lib.hid hv
  have C := Lib.hid (l01Below_any p vals.length w (by omega) (by omega) hcur)
  clear hv hcur
  go_enter Try.func139, Try.ntmps139
  go_wp2_with fail
  refine C.out.mono ?_
  rintro e w1 ⟨i, rfl, i0, i1, hc1, hg1⟩
  obtain ⟨k, rfl⟩ : ∃ k : Nat, i = (k : Int) := ⟨i.toNat, by omega⟩
  obtain ⟨x, hx⟩ : ∃ x, vals[k]? = some x := ⟨_, List.getElem?_eq_getElem (by omega)⟩
  have hcell : w1.cell? ⟨g, o + k, none⟩ = some (.int .i64 x) := hg1.cell (HV.out k x hx) (fun e => hne (Option.some.inj e))
  have HC := Lib.hid hc1
  have HG := Lib.hid hg1
  have HX := Lib.hid (List.mem_of_getElem? hx)
  clear hc1 hg1 hx
  go_wp2
  go_ret
  exact ⟨x, rfl, HX.out, HC.out, HG.out⟩
end Go.Proofs.Ytooeikimoheecaa
namespace Go.Proofs.Ytooeikimoheecaa
open Go.RowKit
set_option maxRecDepth 100000
theorem grown_alloc (w : World) (o : Obj) (row : Option Nat) : w.grownBy (w.alloc o) row := grown_of_below ((Below.refl _ _).alloc (Nat.le_refl _) o) row
theorem Cursor.lt {w : World} {p : Nat} (h : Cursor w p) : p < w.heap.size := by
  obtain ⟨A, n, c, i, q, hc, _⟩ := h
  exact hc.lt
theorem grown_setNew {a w : World} {row : Option Nat} {b j : Nat} (h : a.grownBy w row) (hb : a.heap.size ≤ b) (u : Value) : a.grownBy (w.setCell ⟨b, j, none⟩ u) row :=
  ⟨h.os, h.tape, h.output, by simpa [World.setCell] using h.size, fun i hi hne => (Below.heap_setCell w ⟨b, j, none⟩ u i (by show i ≠ b; omega)).trans (h.block i hi hne)⟩
/-- A cursor stays one when only blocks are written that are younger than it. -/
theorem Cursor.grown {w w' : World} {p : Nat} {row : Option Nat} (h : Cursor w p) (hg : w.grownBy w' row) (hne : ∀ b, row = some b → p < b) : Cursor w' p := by
  have hp := h.lt
  obtain ⟨A, n, c, i, q, hc, h0, h1, hB⟩ := h
  refine ⟨A, n, c, i, q, (hg.block p hp (fun e => Nat.lt_irrefl _ (hne p e.symm))).trans hc, h0, h1, hB.1, fun hn => ?_⟩
  obtain ⟨g, o, rfl, hgp, hx⟩ := hB.2 hn
  refine ⟨g, o, rfl, hgp, fun k hk => ?_⟩
  obtain ⟨x, x0, x1, hcell⟩ := hx k hk
  exact ⟨x, x0, x1, hg.cell hcell (fun e => Nat.lt_asymm hgp (hne g e.symm))⟩
theorem grown_set1 (w : World) (b j : Nat) (u : Value) : w.grownBy (w.setCell ⟨b, j, none⟩ u) (some b) :=
  ⟨rfl, rfl, rfl, by simp [World.setCell], fun i _ hne => Below.heap_setCell w ⟨b, j, none⟩ u i (fun e => hne (by rw [e]))⟩
theorem Cursor.set {w : World} {p b : Nat} (h : Cursor w p) (hne : p < b) (j : Nat) (u : Value) : Cursor (w.setCell ⟨b, j, none⟩ u) p :=
  h.grown (grown_set1 w b j u) (fun k e => by rw [← Option.some.inj e]; exact hne)
theorem Cursor.drew {w : World} {p : Nat} (h : Cursor w p) : Cursor w.drew p := h
end Go.Proofs.Ytooeikimoheecaa
namespace Go.Proofs.Ytooeikimoheecaa
open Go.RowKit
/-- A part's numbers. -/
structure PartD where
  amp : Int
  per : Int
  pha : Int
@[reducible] def PartD.val (d : PartD) : Value := .agg #[.int .i64 d.amp, .int .i64 d.per, .int .i64 d.pha]
def partB (d : PartD) : Bool := decide (0 ≤ d.amp ∧ d.amp ≤ 1000 ∧ perB d.per = true ∧ 0 ≤ d.pha ∧ d.pha < d.per)
theorem partB_mk {d : PartD} (h : 0 ≤ d.amp ∧ d.amp ≤ 1000 ∧ perB d.per = true ∧ 0 ≤ d.pha ∧ d.pha < d.per) : partB d = true := decide_eq_true h
theorem partB_no {d : PartD} (h : ¬ (0 ≤ d.amp ∧ d.amp ≤ 1000 ∧ perB d.per = true ∧ 0 ≤ d.pha ∧ d.pha < d.per)) : partB d = false := decide_eq_false h
theorem partB_true {d : PartD} (h : partB d = true) : 0 ≤ d.amp ∧ d.amp ≤ 1000 ∧ perB d.per = true ∧ 0 ≤ d.pha ∧ d.pha < d.per := of_decide_eq_true h
def inB (x lo hi : Int) : Bool := decide (lo ≤ x ∧ x ≤ hi)
theorem inB_mk {x lo hi : Int} (h1 : lo ≤ x) (h2 : x ≤ hi) : inB x lo hi = true := decide_eq_true ⟨h1, h2⟩
theorem inB_no {x lo hi : Int} (h : x < lo ∨ hi < x) : inB x lo hi = false := decide_eq_false (by omega)
theorem implPartOk (d : PartD) (w : World) : Calls Try.prog 151 #[d.val] w fun e w' => e = .returned (.bool (partB d)) ∧ Below w.heap.size w w' := by
  obtain ⟨a, p, h⟩ := d
  by_cases h1 : 0 ≤ a
  · by_cases h2 : a ≤ 1000
    · cases hp : perB p with
      | false =>
        have H := Lib.hid (partB_no (d := ⟨a, p, h⟩) (by simp [hp]))
        have HP := Lib.hid hp
        clear hp
        go_enter Try.func151, Try.ntmps151
        go_wp2_with fail
        refine (isPeriod_any p _).mono ?_
        rintro e w1 ⟨rfl, rfl⟩
        rw [HP.out]
        go_wp2
        go_ret
        exact ⟨ret_bool H.out.symm, Joins.below_alloc1 _ _⟩
      | true =>
        by_cases h3 : 0 ≤ h
        · by_cases h4 : h < p
          · have H := Lib.hid (partB_mk (d := ⟨a, p, h⟩) ⟨h1, h2, hp, h3, h4⟩)
            have HP := Lib.hid hp
            clear hp
            go_enter Try.func151, Try.ntmps151
            go_wp2_with fail
            refine (isPeriod_any p _).mono ?_
            rintro e w1 ⟨rfl, rfl⟩
            rw [HP.out]
            go_wp2
            go_ret
            exact ⟨ret_bool H.out.symm, Joins.below_alloc1 _ _⟩
          · have H := Lib.hid (partB_no (d := ⟨a, p, h⟩) (by simp; omega))
            have h5 : decide (h < p) = false := decide_eq_false h4
            have HP := Lib.hid hp
            clear hp
            go_enter Try.func151, Try.ntmps151
            go_wp2_with fail
            refine (isPeriod_any p _).mono ?_
            rintro e w1 ⟨rfl, rfl⟩
            rw [HP.out]
            go_wp2
            go_ret
            exact ⟨ret_bool H.out.symm, Joins.below_alloc1 _ _⟩
        · have H := Lib.hid (partB_no (d := ⟨a, p, h⟩) (by simp; omega))
          have HP := Lib.hid hp
          clear hp
          go_enter Try.func151, Try.ntmps151
          go_wp2_with fail
          refine (isPeriod_any p _).mono ?_
          rintro e w1 ⟨rfl, rfl⟩
          rw [HP.out]
          go_wp2
          go_ret
          exact ⟨ret_bool H.out.symm, Joins.below_alloc1 _ _⟩
    · have H := Lib.hid (partB_no (d := ⟨a, p, h⟩) (by simp; omega))
      go_enter Try.func151, Try.ntmps151
      go_wp2
      go_ret
      exact ⟨ret_bool H.out.symm, Joins.below_alloc1 _ _⟩
  · have H := Lib.hid (partB_no (d := ⟨a, p, h⟩) (by simp; omega))
    go_enter Try.func151, Try.ntmps151
    go_wp2
    go_ret
    exact ⟨ret_bool H.out.symm, Joins.below_alloc1 _ _⟩
end Go.Proofs.Ytooeikimoheecaa
namespace Go.Proofs.Ytooeikimoheecaa
open Go.ChangeShapes Go.WideShapes Go.ChangeAt Go.Deep Go.RowKit
set_option maxRecDepth 100000
structure SurgeD where
  fr : Int
  lo : Int
  hi : Int
@[reducible] def SurgeD.val (d : SurgeD) : Value := .agg #[.int .i64 d.fr, .int .i64 d.lo, .int .i64 d.hi]
@[reducible] def SurgeD.cells (d : SurgeD) : List Value := [.int .i64 d.fr, .int .i64 d.lo, .int .i64 d.hi]
theorem surgeLen (d : SurgeD) : d.cells.length = 3 := rfl
def SlSurge : World → Value → List SurgeD → Prop := SlOf 3 SurgeD.cells
def OwnSurge : World → Nat → Value → List SurgeD → Prop := OwnOf 3 SurgeD.cells 169
theorem SlSurge.at {w : World} {v : Value} {l : List SurgeD} (h : SlSurge w v l) : ∃ A c, v = .slice A l.length c := SlOf.form h
theorem SlSurge.below {w w' : World} {v : Value} {l : List SurgeD} (h : SlSurge w v l) (hb : Below w.heap.size w w') : SlSurge w' v l := SlOf.below h hb
theorem OwnSurge.sl {w : World} {base : Nat} {v : Value} {l : List SurgeD} (h : OwnSurge w base v l) (hl : l.length ≤ 1000000000) : SlSurge w v l := own_sl surgeLen h hl
theorem SlSurge.cells {w : World} {l : List SurgeD} {g o : Nat} (hc : ∀ i x, l[i]? = some x → ∀ j u, (SurgeD.cells x)[j]? = some u → w.cell? ⟨g, o + i * 3 + j, none⟩ = some u) (i : Nat) (x : SurgeD) (hx : l[i]? = some x) :
    w.cell? ⟨g, o + i * 3, none⟩ = some (.int .i64 x.fr) ∧ w.cell? ⟨g, o + i * 3 + 1, none⟩ = some (.int .i64 x.lo) ∧ w.cell? ⟨g, o + i * 3 + 2, none⟩ = some (.int .i64 x.hi) :=
  ⟨hc i x hx 0 _ rfl, hc i x hx 1 _ rfl, hc i x hx 2 _ rfl⟩
theorem info_surge : (Try.prog.info? 169).map (fun i => (i.zero, i.size, i.bytes)) = some (some (.agg #[.int .i64 0, .int .i64 0, .int .i64 0]), 3, 24) := by kernel_rfl
section
variable {H : Type} {enc : TypeId × Value → H} {w : World} {base : Nat} {spare : Nat → Bool} {held : Bool}
def SurgeD.wf (d : SurgeD) : Prop := (Lit.int .i64 d.fr).wf = true ∧ (Lit.int .i64 d.lo).wf = true ∧ (Lit.int .i64 d.hi).wf = true
end
end Go.Proofs.Ytooeikimoheecaa
namespace Go.Proofs.Ytooeikimoheecaa
open Go.RowKit
/-- Two slices in different blocks. -/
def ApartV (v u : Value) : Prop := ∀ g, v.ownBlock = some g → u.ownBlock ≠ some g
theorem cell_onV {a b : World} {p : Addr} {v : Value} (h : a.cell? p = some v) (hb : Below a.heap.size a b) : b.cell? p = some v := (hb.cell (World.block_lt_of_cell? a _ h)).trans h
/-- A slice whose block nothing has frozen. -/
def FreeV (w : World) (v : Value) : Prop := ∀ g, v.ownBlock = some g → (∀ j, w.frozen? ⟨g, j, none⟩ = false) ∧ g < w.heap.size
theorem FreeV.below {w w' : World} {v : Value} (h : FreeV w v) (hb : Below w.heap.size w w') : FreeV w' v := fun g hg =>
  ⟨fun j => (hb.frozen (p := ⟨g, j, none⟩) (h g hg).2).trans ((h g hg).1 j), Nat.lt_of_lt_of_le (h g hg).2 hb.size⟩
theorem FreeV.grown {w w' : World} {v : Value} {row : Option Nat} (h : FreeV w v) (hg : w.grownBy w' row) (hne : v.ownBlock = none ∨ v.ownBlock ≠ row) : FreeV w' v := fun g hgv => by
  have e := hg.block g (h g hgv).2 (fun e => by
    rcases hne with hn | hn
    · rw [hgv] at hn; cases hn
    · exact hn (hgv.trans e))
  refine ⟨fun j => ?_, Nat.lt_of_lt_of_le (h g hgv).2 hg.size⟩
  have := (h g hgv).1 j
  simpa [World.frozen?, e] using this
theorem own_freeV {α : Type} {k : Nat} {cs : α → List Value} {t : TypeId} {w : World} {base : Nat} {v : Value} {l : List α} (h : OwnOf k cs t w base v l) : FreeV w v := by
  intro g hg
  rcases Joins.ownsRow_forms h with ⟨rfl, _⟩ | ⟨g', cap, rfl⟩
  · simp [Value.ownBlock] at hg
  · have e : g' = g := by simpa [Value.ownBlock] using hg
    subst e
    exact ⟨fun j => World.ownsRow.frozenAt h _, (World.ownsRow.lt h g' hg).2⟩
end Go.Proofs.Ytooeikimoheecaa
namespace Go.Proofs.Ytooeikimoheecaa
open Go.ChangeShapes Go.WideShapes Go.ChangeAt Go.Deep Go.RowKit
set_option maxRecDepth 100000
structure PointD where
  name : ByteArray
  wait : Bool
@[reducible] def PointD.val (d : PointD) : Value := .agg #[.string d.name, .bool d.wait]
@[reducible] def PointD.cells (d : PointD) : List Value := [.string d.name, .bool d.wait]
theorem pointLen (d : PointD) : d.cells.length = 2 := rfl
def SlPoint : World → Value → List PointD → Prop := SlOf 2 PointD.cells
def OwnPoint : World → Nat → Value → List PointD → Prop := OwnOf 2 PointD.cells 148
theorem SlPoint.at {w : World} {v : Value} {l : List PointD} (h : SlPoint w v l) : ∃ A c, v = .slice A l.length c := SlOf.form h
theorem SlPoint.below {w w' : World} {v : Value} {l : List PointD} (h : SlPoint w v l) (hb : Below w.heap.size w w') : SlPoint w' v l := SlOf.below h hb
theorem OwnPoint.sl {w : World} {base : Nat} {v : Value} {l : List PointD} (h : OwnPoint w base v l) (hl : l.length ≤ 1000000000) : SlPoint w v l := own_sl pointLen h hl
theorem SlPoint.cells {w : World} {l : List PointD} {g o : Nat} (hc : ∀ i x, l[i]? = some x → ∀ j u, (PointD.cells x)[j]? = some u → w.cell? ⟨g, o + i * 2 + j, none⟩ = some u) (i : Nat) (x : PointD) (hx : l[i]? = some x) :
    w.cell? ⟨g, o + i * 2, none⟩ = some (.string x.name) ∧ w.cell? ⟨g, o + i * 2 + 1, none⟩ = some (.bool x.wait) :=
  ⟨hc i x hx 0 _ rfl, hc i x hx 1 _ rfl⟩
theorem info_point : (Try.prog.info? 148).map (fun i => (i.zero, i.size, i.bytes)) = some (some (.agg #[.string ⟨#[]⟩, .bool false]), 2, 24) := by kernel_rfl
section
variable {H : Type} {enc : TypeId × Value → H} {w : World} {base : Nat} {spare : Nat → Bool} {held : Bool}
def PointD.wf (d : PointD) : Prop := d.name.size ≤ maxLen
end
end Go.Proofs.Ytooeikimoheecaa
