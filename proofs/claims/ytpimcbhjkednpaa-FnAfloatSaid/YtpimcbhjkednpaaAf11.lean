
/- What AfloatLaw rests on, part 11: contracts and mathematics. -/
import Derived.StillTailTactics
import Derived.OrdersIn
import Derived.RangeFuncNested
import Derived.Shelf.Abstract
import Derived.WalkKit
import Derived.TacticsInMore
import Derived.Test.YtpimcbhjkednpaaAf10
import Derived.Sort.CutIn
import Derived.OrdersHeld
import Derived.BigRegionIn
import Derived.Lib.Hide
import Derived.Test.YtpimcbhjkednpaaAf1
import Derived.Test.YtpimcbhjkednpaaAf2
import Derived.Test.YtpimcbhjkednpaaAf0
import Derived.Deep.RegionHeld3
namespace Go.Proofs.Ytpimcbhjkednpaa
open Go.RowKit
/-- A proposition that nobody looks into. -/
structure Shut (p : Prop) : Prop where
  out : p
section
variable {P : Program} {ops : Array Oper} {md : Region.Mode} {w : World} {F : Fence} {n : Nat}
/-- The fence lets every function in, at every depth. -/
structure Lets (F : Fence) (n : Nat) (P : Program) : Prop where
  fn : ∀ f, F.fn f
  room : F.depth.isSome = true → 1 ≤ n
  calls : ∀ {f : FuncId} {args : Array Value} {w : World} {R : Ending → World → Prop}, Calls P f args w R → CallsIn F (n - 1) P f args w R
theorem lets_wide (n : Nat) (P : Program) : Lets Fence.wide n P := ⟨fun _ => trivial, fun h => (by cases h), fun h => callsIn_wide.2 h⟩
theorem lets_round (l n : Nat) (P : Program) : Lets (Fence.wide.inRound l) n P := ⟨fun _ => trivial, fun h => (by cases h), fun h => CallsIn.inRound l (callsIn_wide.2 h)⟩
def noDefer (ops : Array Oper) : Bool := ops.toList.all fun o => match o.op with | .defer _ => false | _ => true
theorem noDefer_at (h : noDefer ops = true) {i : Nat} {o : Oper} (ho : ops[i]? = some o) : ∀ c, o.op ≠ .defer c := by
  intro c e
  unfold noDefer at h
  rw [List.all_eq_true] at h
  have := h o (by rw [← Array.getElem?_toList] at ho; exact List.mem_of_getElem? ho)
  rw [e] at this
  cases this
theorem opIn_of_still (L : Lets F n P) {i : Nat} {a : Act} {K : Act → Prop} {K' : Act → World → Prop} {Q' : Exit → Act → World → Prop} (hd : noDefer ops = true) (h : ∀ a, K a → K' a w) (hh : stOp P ops w i K a) : wpOpIn F n P ops Q' i K' a w := by
  unfold stOp at hh
  unfold wpOpIn
  split
  · rename_i ho; simp only [ho] at hh; exact h _ hh
  · rename_i o ho
    simp only [ho] at hh
    split
    · rename_i hw
      simp only [hw, if_true] at hh
      unfold Oper.still at hh
      unfold Oper.wpIn
      refine ⟨fun f _ => L.fn f, ?_⟩
      rw [Oper.semAt_eq _ _ _ (noDefer_at hd ho)]
      generalize (execOp a.eval o).run P w = r at *
      cases r with
      | ok x w' =>
        cases x <;> simp only [Oper.stillUpon] at hh <;> simp only [Oper.uponIn]
        case enter f args =>
          obtain ⟨rfl, v, hc, hn⟩ := hh
          exact ⟨L.room, L.calls (hc.mono fun e w'' ⟨he, hw⟩ => by subst he; subst hw; exact h _ hn)⟩
        all_goals (obtain ⟨rfl, h2⟩ := hh; exact h _ h2)
      | halt x w' => simp only [Oper.stillUpon] at hh
    · rename_i hw; simp only [hw] at hh; exact ⟨fun f _ => L.fn f, h _ hh⟩
theorem anyIn_of_still (L : Lets F n P) (hd : noDefer ops = true) {Q : Act → Prop} {Q' : Exit → Act → World → Prop} (hQ : ∀ a, Q a → Q' .normal a w) : ∀ (fuel : Nat) (listed : Array Bool) (a : Act),
    wpAnyS P md ops w Q fuel listed a → wpAnyIn F n P md ops Q' fuel listed a w
  | 0, _, _, h => ⟨h.1, hQ _ h.2⟩
  | fuel + 1, _, _, h => ⟨fun h0 => hQ _ (h.1 h0), fun i hi => opIn_of_still L hd (fun a' => anyIn_of_still L hd hQ fuel _ a') (h.2 i hi)⟩
theorem wpIn_region_still (L : Lets F n P) {id : Nat} {Q : Exit → Act → World → Prop} {a : Act} {l : List Oper} (hm : P.follows .mixedOrders = true) (hB : Region.lexB .any l.toArray = true) (hd : noDefer l.toArray = true)
    (h : Shut (wpStill P l.toArray w.drew (fun a' => Q .normal a' w.drew) l a)) : (Code.region id l.toArray true).wpIn F n P Q a w := by
  simp only [Region.lexB, Bool.and_eq_true] at hB
  refine wpIn_region_any hm (anyIn_of_still L hd (Q := fun a' => Q .normal a' w.drew) (fun _ h => h) _ _ _ ?_)
  have := wpAnyS_lex (md := .any) hB.1 l 0 (Array.replicate l.toArray.size false) a (by simp) (by simpa using hB.2) h.out
  simpa using this
theorem anyIn_of_seq {Q' : Exit → Act → World → Prop} : ∀ (l : List Oper) (k : Nat) (listed : Array Bool) (a : Act) (w : World), (∀ j, l[j]? = ops[k + j]?) →
    Region.seqB md ops l.length k listed = true → wpListIn F n P ops Q' l a w → wpAnyIn F n P md ops Q' l.length listed a w
  | [], _, _, _, _, _, hB, h => ⟨by simpa [Region.seqB] using hB, h⟩
  | o :: l, k, listed, a, w, hl, hB, h => by
    have h0 : ops[k]? = some o := by simpa using (hl 0).symm
    simp only [List.length_cons, Region.seqB, Bool.and_eq_true, decide_eq_true_eq] at hB
    refine ⟨fun h1 => (by rw [hB.1] at h1; cases h1), fun i hi => ?_⟩
    rw [hB.1] at hi
    have hik : i = k := by simpa using hi
    subst hik
    have hw : wpOpIn F n P ops Q' i (wpListIn F n P ops Q' l) a w := by unfold wpOpIn; simp only [h0]; exact h
    exact wpOpIn_mono (fun a' w' h' => anyIn_of_seq l (i + 1) _ a' w' (fun j => by have := hl (j + 1); simpa [Nat.add_assoc, Nat.add_comm 1 j] using this) hB.2 h') hw
theorem anyIn_of_head (L : Lets F n P) (hd : noDefer ops = true) {k g : Nat} {R : Array Bool → Act → Prop} {Q' : Exit → Act → World → Prop} (hL : ∀ listed a, R listed a → wpAnyIn F n P md ops Q' g listed a w) :
    ∀ (f : Nat) (listed : Array Bool) (a : Act), wpAnyL P md ops w k R f listed a → wpAnyIn F n P md ops Q' (f + g) listed a w
  | 0, listed, a, h => by rw [Nat.zero_add]; exact hL _ _ h
  | f + 1, listed, a, h => by
    rw [show f + 1 + g = (f + g) + 1 by omega]
    exact ⟨fun h0 => absurd h0 h.1, fun i hi => opIn_of_still L hd (fun a' h' => anyIn_of_head L hd hL f _ a' h') (h.2 i hi).2⟩
theorem wpIn_region_still_tail (L : Lets F n P) {id : Nat} {Q : Exit → Act → World → Prop} {a : Act} {l : List Oper} (k : Nat) (hm : P.follows .mixedOrders = true) (hB : Region.lexTailB .any l.toArray k = true) (hd : noDefer l.toArray = true)
    (h : Shut (wpStill P l.toArray w.drew (fun a' => wpListIn F n P l.toArray Q (l.drop k) a' w.drew) (l.take k) a)) : (Code.region id l.toArray true).wpIn F n P Q a w := by
  simp only [Region.lexTailB, Bool.and_eq_true, decide_eq_true_eq] at hB
  obtain ⟨⟨⟨⟨hsel, hk⟩, hs⟩, hc⟩, hlex⟩ := hB
  have hk' : k < l.length := by simpa using hk
  have htl : (l.take k).length = k := by simp; omega
  have hdl : (l.drop k).length = l.toArray.size - k := by simp
  have inv0 : HeadInv .any l.toArray k (Array.replicate l.toArray.size false) :=
    ⟨by simp, fun j oj _ hl => (by rw [getD_replicate_false] at hl; cases hl), fun t _ ht => getD_in (by simpa using ht) (getD_replicate_false _ _)⟩
  have H := wpAnyL_lex (md := .any) (g := l.toArray.size - k) hsel hs hc hk (l.take k) 0 _ a (fun j hj => by
    have hj' : j < k := by rw [htl] at hj; exact hj
    simp [hj']) (by simpa using htl) inv0 (by rw [htl]; exact hlex) h.out
  refine wpIn_region_any hm ?_
  have := anyIn_of_head L hd (Q' := Q) (g := l.toArray.size - k) (fun listed a' hL => by
    have := anyIn_of_seq (F := F) (n := n) (md := .any) (Q' := Q) (l.drop k) k listed a' w.drew (fun j => by simp [List.getElem?_drop]) (by rw [hdl]; exact hL.1) hL.2
    rwa [hdl] at this) _ _ _ H
  rw [htl, show k + (l.toArray.size - k) = l.toArray.size by omega] at this
  exact this
/-- The steps, with what is still to come out of the sight of whoever looks at the goal (an operation that is passed over would be walked by the looking). -/
theorem hidStill_step {Q : Act → Prop} {a : Act} {o : Oper} {rest : List Oper}
    (h : ∀ K : Act → Prop, (∀ a, Shut (wpStill P ops w Q rest a) → K a) → if Region.wanted o (yielded ops a.tmps) then o.still P a w K else K (a.put o.dst undef)) : Shut (wpStill P ops w Q (o :: rest) a) :=
  Shut.mk (wpStill_step fun K hK => h K fun a ha => hK a ha.out)
theorem hidStill_nil {Q : Act → Prop} {a : Act} (h : Q a) : Shut (wpStill P ops w Q [] a) := Shut.mk (wpStill_nil h)
end
end Go.Proofs.Ytpimcbhjkednpaa
namespace Go.Proofs.Ytpimcbhjkednpaa
open Go.RowKit Go.Shelf
set_option maxRecDepth 100000
attribute [local go_sem] Oper.semAt_some
theorem flat_last (acc : List WindowD) (y : WindowD) : ((acc ++ [y]).flatMap WindowD.cells)[acc.length * 2]? = some (.int .i64 y.fr) ∧ ((acc ++ [y]).flatMap WindowD.cells)[acc.length * 2 + 1]? = some (.int .i64 y.tt) := by
  have hl : (acc.flatMap WindowD.cells).length = acc.length * 2 := by
    induction acc with
    | nil => rfl
    | cons x acc ih => simp [List.flatMap_cons, ih]; omega
  rw [List.flatMap_append]
  constructor
  · rw [List.getElem?_append_right (by omega), hl]; simp
  · rw [List.getElem?_append_right (by omega), hl]; simp
theorem flat_snoc (acc : List WindowD) (y : WindowD) : (acc ++ [y]).flatMap WindowD.cells = acc.flatMap WindowD.cells ++ y.cells := by simp [List.flatMap_append]
theorem flat_set (acc : List WindowD) (y : WindowD) (t : Int) : ((acc ++ [y]).flatMap WindowD.cells).set (acc.length * 2 + 1) (.int .i64 t) = (acc ++ [(⟨y.fr, t⟩ : WindowD)]).flatMap WindowD.cells := by
  have hl : (acc.flatMap WindowD.cells).length = acc.length * 2 := by
    induction acc with
    | nil => rfl
    | cons x acc ih => simp [List.flatMap_cons, ih]; omega
  rw [List.flatMap_append, List.flatMap_append, List.set_append_right _ _ (by omega), hl]
  simp
set_option maxHeartbeats 8000000 in
theorem merge_any (g : Nat) (lb : Array Value) (n₀ N : Nat) (xs : List WindowD) (w : World) (hseq : SeqW g lb (Below n₀) N xs w) (hn₀ : n₀ ≤ w.heap.size) (eg : ∀ args w, (callFunc g args).run Try.prog w = .ok (.enter g args) w) (hlen : N ≤ 4000000000) :
    Calls Try.prog 102 #[.func (.func g) #[] lb] w (NewWindow (mergeF xs) w) := by
  refine (callsIn_wide (n := 9)).1 ?_
  obtain ⟨i0, hi, hz0, hz1, hz2⟩ := info_parts info_window
  refine callsIn_of_wp_marks Try.func102 rfl trivial ?_ rfl
  simp only [Try.ntmps102, List.size_toArray, List.length_cons, List.length_nil, Nat.reduceAdd, Nat.reduceSub, Array.replicate_succ, Array.replicate_zero, List.push_toArray, List.append_toArray, List.nil_append, List.cons_append]
  gi_wp2
  have bO := Boxed.new w 46 (.slice none 0 0)
  have hB0 : Below w.heap.size w (w.alloc (.cells #[.slice none 0 0] 46)) := (Below.refl _ w).alloc (Nat.le_refl _) _
  refine wpIn_rangeFunc_ownH rfl (by omega) (gf := g) (lb := lb) rfl trivial eg
    (hseq.later hB0 8 (by omega)) belowK_t (belowK_b (by simp; omega)) (Below.refl _ _) (fun _ => rfl)
    (fun (pre : List WindowD) W => (∃ v, Boxed W w.heap.size 46 v ∧ W.ownsRow w.heap.size 80 2 v (mergeF pre).length ((mergeF pre).flatMap WindowD.cells) ∧ True) ∧ Below w.heap.size w W)
    (fun _ _ _ => False)
    (OwnFrom.and (Own.from (holdsRow_own w.heap.size w.heap.size 46 80 2 (fun pre : List WindowD => (mergeF pre).length) (fun pre : List WindowD => (mergeF pre).flatMap WindowD.cells) (fun _ _ => True)) _) (ownFrom_below (Nat.le_refl _) (by simp)))
    (fun _ _ _ _ _ hs _ _ => hs)
    ⟨⟨_, bO, World.ownsRow_nil _ _ _ _, trivial⟩, hB0⟩
    (fun x a' W => ∃ Bx, w.heap.size < Bx ∧ Blk W Bx #[.int .i64 x.fr, .int .i64 x.tt] 80 ∧ a' = { tmps := #[.func (.func g) #[] lb, undef, .slice none 0 0, .pointer (some ⟨w.heap.size, 0, none⟩), .pointer (some ⟨Bx, 0, none⟩), undef, .func (.func g) #[] lb, .agg #[.int .i64 x.fr, .int .i64 x.tt], undef, undef, undef, undef, undef, undef, undef, undef, undef, undef, undef, undef, undef, undef, undef, undef, undef, undef, undef, undef, undef, undef, undef, undef, undef, undef, undef, undef, undef, undef, undef, undef, undef], defers := [] })
    (fun x a' _ X Y row hs hg hr => by obtain ⟨Bx, h1, h2, h3⟩ := hs; exact ⟨Bx, h1, blk_own Bx 80 (fun (_ : Unit) => #[Value.int .i64 x.fr, .int .i64 x.tt]) () X Y row h2 hg (fun r e => (hr r e).2), h3⟩)
    ?assign ?body ?done ?stop
  case assign =>
    rintro l pre x W K ⟨⟨v, bv, hrow, _⟩, hB1⟩ hK
    gi_wp2
    exact hK _ _ ((KeepsOthers.alloc _ _).from _) (((Below.refl _ W).alloc (Nat.le_refl _) _).mono (Nat.le_trans hn₀ hB1.size)) ⟨⟨v, bv.alloc _, hrow.alloc _, trivial⟩, hB1.alloc hB1.size _⟩ ⟨W.heap.size, bv.lt, Blk.new W _ _, rfl⟩
  case body =>
    rintro l pre x a' W hl ⟨r, hr⟩ ⟨⟨v, hv, hrow, _⟩, hB⟩ ⟨Bx, hBx, bX, rfl⟩ hlt
    have hsz := hB.size
    have c0 : W.cell? ⟨Bx, 0, none⟩ = some (.int .i64 x.fr) := bX.cell 0
    have c1 : W.cell? ⟨Bx, 1, none⟩ = some (.int .i64 x.tt) := bX.cell 1
    have hml := mergeF_len pre
    rcases snoc_or (mergeF pre) with hE | ⟨acc, y, hE⟩
    · rw [hE] at hrow
      replace hrow : W.ownsRow w.heap.size 80 2 v 0 [] := hrow
      have EX := Lib.hid ((mergeF_snoc pre x).trans (by rw [hE, mergeStep_nil]))
      obtain ⟨A, c, rfl⟩ : ∃ A c, v = .slice A 0 c := by
        rcases hrow.2 with ⟨rfl, _⟩ | ⟨g', cap, cur, rfl, _⟩
        · exact ⟨_, _, rfl⟩
        · exact ⟨_, _, rfl⟩
      have hc := hv.cell
      have HV := Lib.hid hv
      have HRW := Lib.hid hrow
      have HB := Lib.hid hB
      have HX := Lib.hid bX
      clear hE hl hr hv hrow hB bX hml
      gi_upto_region 5 with fail
      refine wpIn_region_still (lets_round l _ _) (by kernel_rfl) (by kernel_rfl) (by kernel_rfl) ?_
      refine hidStill_step (fun K hK => ?_)
      go_simp
      refine hK _ ?_
      clear hK K
      refine hidStill_step (fun K hK => ?_)
      go_simp
      refine hK _ ?_
      clear hK K
      refine hidStill_step (fun K hK => ?_)
      go_simp
      refine hK _ ?_
      clear hK K
      refine hidStill_step (fun K hK => ?_)
      rw [if_neg (by exact Bool.false_ne_true)]
      refine hK _ ?_
      clear hK K
      try simp only [Act.put, List.setIfInBounds_toArray, List.set_cons_zero, List.set_cons_succ]
      refine hidStill_step (fun K hK => ?_)
      rw [if_neg (by exact Bool.false_ne_true)]
      refine hK _ ?_
      clear hK K
      try simp only [Act.put, List.setIfInBounds_toArray, List.set_cons_zero, List.set_cons_succ]
      refine hidStill_step (fun K hK => ?_)
      rw [if_neg (by exact Bool.false_ne_true)]
      refine hK _ ?_
      clear hK K
      try simp only [Act.put, List.setIfInBounds_toArray, List.set_cons_zero, List.set_cons_succ]
      refine hidStill_step (fun K hK => ?_)
      rw [if_neg (by exact Bool.false_ne_true)]
      refine hK _ ?_
      clear hK K
      try simp only [Act.put, List.setIfInBounds_toArray, List.set_cons_zero, List.set_cons_succ]
      refine hidStill_step (fun K hK => ?_)
      rw [if_neg (by exact Bool.false_ne_true)]
      refine hK _ ?_
      clear hK K
      try simp only [Act.put, List.setIfInBounds_toArray, List.set_cons_zero, List.set_cons_succ]
      refine hidStill_step (fun K hK => ?_)
      rw [if_neg (by exact Bool.false_ne_true)]
      refine hK _ ?_
      clear hK K
      try simp only [Act.put, List.setIfInBounds_toArray, List.set_cons_zero, List.set_cons_succ]
      refine hidStill_step (fun K hK => ?_)
      rw [if_neg (by exact Bool.false_ne_true)]
      refine hK _ ?_
      clear hK K
      try simp only [Act.put, List.setIfInBounds_toArray, List.set_cons_zero, List.set_cons_succ]
      refine hidStill_step (fun K hK => ?_)
      rw [if_neg (by exact Bool.false_ne_true)]
      refine hK _ ?_
      clear hK K
      try simp only [Act.put, List.setIfInBounds_toArray, List.set_cons_zero, List.set_cons_succ]
      refine hidStill_step (fun K hK => ?_)
      rw [if_neg (by exact Bool.false_ne_true)]
      refine hK _ ?_
      clear hK K
      try simp only [Act.put, List.setIfInBounds_toArray, List.set_cons_zero, List.set_cons_succ]
      refine hidStill_step (fun K hK => ?_)
      go_simp
      refine hK _ ?_
      clear hK K
      refine hidStill_nil ?_
      obtain ⟨W2, hW2⟩ : ∃ W2, W2 = W.drew := ⟨_, rfl⟩
      rw [← hW2]
      replace HV := Lib.hid (show Boxed W2 _ _ _ by rw [hW2]; exact HV.out)
      replace HRW := Lib.hid (show W2.ownsRow _ _ _ _ _ _ by rw [hW2]; exact HRW.out)
      replace HB := Lib.hid (show Below w.heap.size w W2 by rw [hW2]; exact HB.out.drew)
      replace HX := Lib.hid (show Blk W2 _ _ _ by rw [hW2]; exact HX.out)
      have K02 := Lib.hid (show KeepsOthers W W2 by rw [hW2]; exact KeepsOthers.drew W)
      have B02 := Lib.hid (show Below n₀ W W2 by rw [hW2]; exact (Below.refl _ W).drew)
      clear hW2 hc c0 c1
      have hc := HV.out.cell
      have c0 : W2.cell? ⟨Bx, 0, none⟩ = some (.int .i64 x.fr) := HX.out.cell 0
      have c1 : W2.cell? ⟨Bx, 1, none⟩ = some (.int .i64 x.tt) := HX.out.cell 1
      gi_wp2_with (gi_at_builtin; refine wpListIn_append_own _ rfl _ _ 46 rfl w.heap.size 80 i0 _ 2 16 Try.underlying46 hi hz0 hz1 hz2 rfl (by decide) _ _ _ rfl (HRW.out.alloc _) ⟨W2.heap.size, 0, none⟩ 1 1 (WindowD.cells x) rfl rfl (World.news_of_block (heap_alloc_new _ _)) (window_one _) (by unfold maxLen; omega) (by omega) (by have := HB.out.size; simp; omega) ?_; intro v' w1 hown' hgrow _; obtain ⟨g', cap', rfl⟩ := ownsRow_succ hown'; obtain ⟨hv1, hv2, hr2, hk2, hb2⟩ := HV.out.appended (by decide) HRW.out HB.out.size (Nat.le_refl _) hown' hgrow; have hc1 := hv1.cell; have hf1 := hv1.frozen)
      exact ⟨(K02.out.trans hk2).from _, B02.out.trans (hb2.mono hn₀), ⟨_, hv2, by rw [EX.out]; simpa using hr2, trivial⟩, HB.out.trans hb2⟩
    · rw [hE, show (acc ++ [y]).length = acc.length + 1 by simp] at hrow
      rw [hE] at hml
      obtain ⟨g', cap, rfl⟩ : ∃ g' cap, v = .slice (some ⟨g', 0, none⟩) (acc.length + 1) cap := by
        rcases hrow.2 with ⟨rfl, h0⟩ | ⟨g', cap, cur, rfl, _⟩
        · simp at h0
        · exact ⟨g', cap, rfl⟩
      have q1 : W.cell? ⟨g', acc.length * 2 + 1, none⟩ = some (.int .i64 y.tt) := (World.ownsRow.cellAt hrow (acc.length * 2 + 1) (by omega)).trans (flat_last acc y).2
      have hgb : w.heap.size ≤ g' := (World.ownsRow.lt hrow g' rfl).1
      have hgl : g' < W.heap.size := (World.ownsRow.lt hrow g' rfl).2
      have hal : acc.length + 1 ≤ pre.length := by simpa using hml
      have hidx : (acc.length : Int) < (acc.length : Int) + 1 := by omega
      have hc := hv.cell
      have HV := Lib.hid hv
      have HRW := Lib.hid hrow
      have HB := Lib.hid hB
      have HX := Lib.hid bX
      by_cases hj : x.fr ≤ IntKind.i64.wrap (y.tt + 1)
      · have EX := Lib.hid ((mergeF_snoc pre x).trans (by rw [hE, mergeStep_join hj]))
        clear hE hl hr hv hrow hB bX hml
        gi_upto_region 5 with fail
        refine wpIn_region_still (lets_round l _ _) (by kernel_rfl) (by kernel_rfl) (by kernel_rfl) ?_
        refine hidStill_step (fun K hK => ?_)
        go_simp
        refine hK _ ?_
        clear hK K
        refine hidStill_step (fun K hK => ?_)
        go_simp
        refine hK _ ?_
        clear hK K
        refine hidStill_step (fun K hK => ?_)
        go_simp
        refine hK _ ?_
        clear hK K
        refine hidStill_step (fun K hK => ?_)
        rw [if_pos (by rfl)]
        go_simp
        refine hK _ ?_
        clear hK K
        refine hidStill_step (fun K hK => ?_)
        rw [if_pos (by rfl)]
        go_simp
        refine hK _ ?_
        clear hK K
        refine hidStill_step (fun K hK => ?_)
        rw [if_pos (by rfl)]
        go_simp
        refine hK _ ?_
        clear hK K
        refine hidStill_step (fun K hK => ?_)
        rw [if_pos (by rfl)]
        go_simp
        refine hK _ ?_
        clear hK K
        refine hidStill_step (fun K hK => ?_)
        rw [if_pos (by rfl)]
        go_simp
        refine hK _ ?_
        clear hK K
        refine hidStill_step (fun K hK => ?_)
        rw [if_pos (by rfl)]
        go_simp
        refine hK _ ?_
        clear hK K
        refine hidStill_step (fun K hK => ?_)
        rw [if_pos (by rfl)]
        go_simp
        refine hK _ ?_
        clear hK K
        refine hidStill_step (fun K hK => ?_)
        rw [if_pos (by rfl)]
        go_simp
        refine hK _ ?_
        clear hK K
        refine hidStill_step (fun K hK => ?_)
        rw [if_pos (by rfl)]
        go_simp
        refine hK _ ?_
        clear hK K
        refine hidStill_step (fun K hK => ?_)
        go_simp
        refine hK _ ?_
        clear hK K
        refine hidStill_nil ?_
        obtain ⟨W2, hW2⟩ : ∃ W2, W2 = W.drew := ⟨_, rfl⟩
        rw [← hW2]
        replace HV := Lib.hid (show Boxed W2 _ _ _ by rw [hW2]; exact HV.out)
        replace HRW := Lib.hid (show W2.ownsRow _ _ _ _ _ _ by rw [hW2]; exact HRW.out)
        replace HB := Lib.hid (show Below w.heap.size w W2 by rw [hW2]; exact HB.out.drew)
        replace HX := Lib.hid (show Blk W2 _ _ _ by rw [hW2]; exact HX.out)
        have K02 := Lib.hid (show KeepsOthers W W2 by rw [hW2]; exact KeepsOthers.drew W)
        have B02 := Lib.hid (show Below n₀ W W2 by rw [hW2]; exact (Below.refl _ W).drew)
        clear hW2 hc c0 c1
        have hc := HV.out.cell
        have c0 : W2.cell? ⟨Bx, 0, none⟩ = some (.int .i64 x.fr) := HX.out.cell 0
        have c1 : W2.cell? ⟨Bx, 1, none⟩ = some (.int .i64 x.tt) := HX.out.cell 1
        clear q1
        have q1 : W2.cell? ⟨g', acc.length * 2 + 1, none⟩ = some (.int .i64 y.tt) := (World.ownsRow.cellAt HRW.out (acc.length * 2 + 1) (by omega)).trans (flat_last acc y).2
        gi_upto_region 6 with fail
        refine wpIn_region_still_tail (lets_round l _ _) 12 (by kernel_rfl) (by kernel_rfl) (by kernel_rfl) ?_
        simp only [List.take_succ_cons, List.take_zero, List.drop_succ_cons, List.drop_zero]
        refine hidStill_step (fun K hK => ?_)
        go_simp
        refine hK _ ?_
        clear hK K
        refine hidStill_step (fun K hK => ?_)
        go_simp
        refine hK _ ?_
        clear hK K
        refine hidStill_step (fun K hK => ?_)
        go_simp
        refine hK _ ?_
        clear hK K
        refine hidStill_step (fun K hK => ?_)
        go_simp
        refine hK _ ?_
        clear hK K
        refine hidStill_step (fun K hK => ?_)
        go_simp
        refine hK _ ?_
        clear hK K
        refine hidStill_step (fun K hK => ?_)
        go_simp
        refine hK _ ?_
        clear hK K
        refine hidStill_step (fun K hK => ?_)
        go_simp
        refine hK _ ?_
        clear hK K
        refine hidStill_step (fun K hK => ?_)
        go_simp
        refine hK _ ?_
        clear hK K
        refine hidStill_step (fun K hK => ?_)
        go_simp
        refine hK _ ?_
        clear hK K
        refine hidStill_step (fun K hK => ?_)
        go_simp
        refine hK _ ?_
        clear hK K
        refine hidStill_step (fun K hK => ?_)
        go_simp
        refine hK _ ?_
        clear hK K
        refine hidStill_step (fun K hK => ?_)
        go_simp
        refine hK _ ?_
        clear hK K
        refine hidStill_nil ?_
        rw [show (if y.tt < x.tt then x.tt else y.tt) = max y.tt x.tt by split <;> omega]
        obtain ⟨M, hM⟩ : ∃ M, max y.tt x.tt = M := ⟨_, rfl⟩
        rw [hM] at EX ⊢
        clear hM
        obtain ⟨W3, hW3⟩ : ∃ W3, W3 = W2.drew := ⟨_, rfl⟩
        rw [← hW3]
        replace HV := Lib.hid (show Boxed W3 _ _ _ by rw [hW3]; exact HV.out)
        replace HRW := Lib.hid (show W3.ownsRow _ _ _ _ _ _ by rw [hW3]; exact HRW.out)
        replace HB := Lib.hid (show Below w.heap.size w W3 by rw [hW3]; exact HB.out.drew)
        replace K02 := Lib.hid (show KeepsOthers W W3 by rw [hW3]; exact K02.out.trans (KeepsOthers.drew W2))
        replace B02 := Lib.hid (show Below n₀ W W3 by rw [hW3]; exact B02.out.drew)
        clear hW3 hc c0 c1 q1 HX
        have q3 : W3.cell? ⟨g', acc.length * 2 + 1, none⟩ = some (.int .i64 y.tt) := (World.ownsRow.cellAt HRW.out (acc.length * 2 + 1) (by omega)).trans (flat_last acc y).2
        have f3 : W3.frozen? ⟨g', acc.length * 2 + 1, none⟩ = false := World.ownsRow.frozenAt HRW.out _
        have hne : w.heap.size ≠ g' := fun e => HV.out.not_row (by decide) HRW.out (by rw [e]; rfl)
        have hst := (World.ownsRow.stored HRW.out (acc.length * 2 + 1) (.int .i64 M)).1
        rw [flat_set] at hst
        have HST := Lib.hid hst
        have HV3 := Lib.hid (show Boxed (W3.setCell ⟨g', acc.length * 2 + 1, none⟩ (.int .i64 M)) w.heap.size _ _ from (Below.heap_setCell W3 ⟨g', acc.length * 2 + 1, none⟩ (.int .i64 M) w.heap.size hne).trans HV.out)
        clear hst
        gi_wp2
        exact ⟨(K02.out.trans (KeepsOthers.setCell _ _ _)).from _, B02.out.setCell (p := ⟨g', acc.length * 2 + 1, none⟩) (Nat.le_trans hn₀ hgb) _, ⟨_, HV3.out, by rw [EX.out, show (acc ++ [(⟨y.fr, M⟩ : WindowD)]).length = acc.length + 1 by simp]; exact HST.out, trivial⟩, HB.out.setCell (p := ⟨g', acc.length * 2 + 1, none⟩) hgb _⟩
      · have EX := Lib.hid ((mergeF_snoc pre x).trans (by rw [hE, mergeStep_apart hj]))
        clear hE hl hr hv hrow hB bX hml
        gi_upto_region 5 with fail
        refine wpIn_region_still (lets_round l _ _) (by kernel_rfl) (by kernel_rfl) (by kernel_rfl) ?_
        refine hidStill_step (fun K hK => ?_)
        go_simp
        refine hK _ ?_
        clear hK K
        refine hidStill_step (fun K hK => ?_)
        go_simp
        refine hK _ ?_
        clear hK K
        refine hidStill_step (fun K hK => ?_)
        go_simp
        refine hK _ ?_
        clear hK K
        refine hidStill_step (fun K hK => ?_)
        rw [if_pos (by rfl)]
        go_simp
        refine hK _ ?_
        clear hK K
        refine hidStill_step (fun K hK => ?_)
        rw [if_pos (by rfl)]
        go_simp
        refine hK _ ?_
        clear hK K
        refine hidStill_step (fun K hK => ?_)
        rw [if_pos (by rfl)]
        go_simp
        refine hK _ ?_
        clear hK K
        refine hidStill_step (fun K hK => ?_)
        rw [if_pos (by rfl)]
        go_simp
        refine hK _ ?_
        clear hK K
        refine hidStill_step (fun K hK => ?_)
        rw [if_pos (by rfl)]
        go_simp
        refine hK _ ?_
        clear hK K
        refine hidStill_step (fun K hK => ?_)
        rw [if_pos (by rfl)]
        go_simp
        refine hK _ ?_
        clear hK K
        refine hidStill_step (fun K hK => ?_)
        rw [if_pos (by rfl)]
        go_simp
        refine hK _ ?_
        clear hK K
        refine hidStill_step (fun K hK => ?_)
        rw [if_pos (by rfl)]
        go_simp
        refine hK _ ?_
        clear hK K
        refine hidStill_step (fun K hK => ?_)
        rw [if_pos (by rfl)]
        go_simp
        refine hK _ ?_
        clear hK K
        refine hidStill_step (fun K hK => ?_)
        go_simp
        refine hK _ ?_
        clear hK K
        refine hidStill_nil ?_
        obtain ⟨W2, hW2⟩ : ∃ W2, W2 = W.drew := ⟨_, rfl⟩
        rw [← hW2]
        replace HV := Lib.hid (show Boxed W2 _ _ _ by rw [hW2]; exact HV.out)
        replace HRW := Lib.hid (show W2.ownsRow _ _ _ _ _ _ by rw [hW2]; exact HRW.out)
        replace HB := Lib.hid (show Below w.heap.size w W2 by rw [hW2]; exact HB.out.drew)
        replace HX := Lib.hid (show Blk W2 _ _ _ by rw [hW2]; exact HX.out)
        have K02 := Lib.hid (show KeepsOthers W W2 by rw [hW2]; exact KeepsOthers.drew W)
        have B02 := Lib.hid (show Below n₀ W W2 by rw [hW2]; exact (Below.refl _ W).drew)
        clear hW2 hc c0 c1
        have hc := HV.out.cell
        have c0 : W2.cell? ⟨Bx, 0, none⟩ = some (.int .i64 x.fr) := HX.out.cell 0
        have c1 : W2.cell? ⟨Bx, 1, none⟩ = some (.int .i64 x.tt) := HX.out.cell 1
        gi_wp2_with (gi_at_builtin; refine wpListIn_append_own _ rfl _ _ 46 rfl w.heap.size 80 i0 _ 2 16 Try.underlying46 hi hz0 hz1 hz2 rfl (by decide) _ _ _ rfl (HRW.out.alloc _) ⟨W2.heap.size, 0, none⟩ 1 1 (WindowD.cells x) rfl rfl (World.news_of_block (heap_alloc_new _ _)) (window_one _) (by unfold maxLen; omega) (by omega) (by have := HB.out.size; simp; omega) ?_; intro v' w1 hown' hgrow _; obtain ⟨g', cap', rfl⟩ := ownsRow_succ hown'; obtain ⟨hv1, hv2, hr2, hk2, hb2⟩ := HV.out.appended (by decide) HRW.out HB.out.size (Nat.le_refl _) hown' hgrow; have hc1 := hv1.cell; have hf1 := hv1.frozen)
        exact ⟨(K02.out.trans hk2).from _, B02.out.trans (hb2.mono hn₀), ⟨_, hv2, by rw [EX.out, flat_snoc, show (acc ++ [y] ++ [x]).length = acc.length + 1 + 1 by simp]; exact hr2⟩, HB.out.trans hb2⟩
  case done =>
    rintro D ys W hD rfl ⟨⟨v, hv, hrow, _⟩, hB⟩ hK
    have hc := hv.cell
    gi_wp2
    refine ⟨by simp, .inl ⟨_, _, rfl, run_takeDeferred hK, ?_⟩⟩
    exact ⟨_, results_tmp rfl _ _ _, v, rfl, ownsRow_putObj hrow _ hK rfl, hB.trans (belowK_b (w := w) (Nat.le_refl _) W D _ _ (by simp at hD; omega) hK rfl rfl)⟩
  case stop =>
    rintro D c pre W _ _ h _
    exact h.elim
end Go.Proofs.Ytpimcbhjkednpaa
namespace Go.Proofs.Ytpimcbhjkednpaa
open Go.RowKit
section
variable {P : Program} {ops : Array Oper} {md : Region.Mode} {F : Fence} {n : Nat} {Q : Exit → Act → World → Prop} {S : World → Prop}
theorem yieldsIf_opIn (L : Lets F n P) (hd : noDefer ops = true) {i : Nat} {o : Oper} {v : Value} {a : Act} (hi : ops[i]? = some o) (hy : YieldsIf P ops S o v a)
    {K : Act → World → Prop} {w : World} (hS : S w) (h : K (a.put o.dst v) w) : wpOpIn F n P ops Q i K a w := by
  unfold Go.wpOpIn
  simp only [hi]
  rcases hy with ⟨hw, hv⟩ | ⟨hw, rfl⟩
  · simp only [hw, if_true, Oper.wpIn]
    refine ⟨fun f _ => L.fn f, ?_⟩
    rw [Oper.semAt_eq _ _ _ (noDefer_at hd hi), hv w hS]
    exact h
  · simp only [hw, Bool.false_eq_true, if_false]; exact ⟨fun f _ => L.fn f, h⟩
theorem opIn_putIf (L : Lets F n P) (hd : noDefer ops = true) {j : Nat} {oi oj : Oper} {v : Value} (hj : ops[j]? = some oj) (hap : oi.apart ops oj = true)
    (hsi : ∀ cs b, oi.op ≠ .select cs b) (hsj : ∀ cs b, oj.op ≠ .select cs b)
    (hQ : ∀ c a w, Q (.panic c) (a.put oi.dst v) w → Q (.panic c) a w) {K : Act → World → Prop} {a : Act} {w : World}
    (hy : YieldsIf P ops S oi v a) (h : wpOpIn F n P ops Q j K (a.put oi.dst v) w) :
    wpOpIn F n P ops Q j (fun a' w' => YieldsIf P ops S oi v a' ∧ K (a'.put oi.dst v) w') a w := by
  obtain ⟨h1, h2, h3⟩ := Oper.apart_spec hap
  have hnd := noDefer_at hd hj
  have keep : ∀ (a : Act), YieldsIf P ops S oi v a → ∀ u, YieldsIf P ops S oi v (a.put oj.dst u) := fun a hy u =>
    hy.of_same (execOp_put oi hsi a oj.dst u h3) (wanted_put oi a oj.dst u h3)
  have keepD : ∀ d, YieldsIf P ops S oi v { a with defers := d :: a.defers } := fun d => hy.of_same rfl rfl
  unfold wpOpIn at *
  simp only [hj] at *
  rw [wanted_put oj a oi.dst v h1] at h
  split
  · rename_i hw
    simp only [hw, if_true] at h
    unfold Oper.wpIn at *
    refine ⟨fun f _ => L.fn f, ?_⟩
    have h := h.2
    rw [Oper.semAt_eq _ _ _ hnd, execOp_put oj hsj a oi.dst v h1] at h
    rw [Oper.semAt_eq _ _ _ hnd]
    generalize (execOp a.eval oj).run P w = r at *
    cases r with
    | ok x w' =>
      cases x <;> simp only [Oper.uponIn] at h ⊢
      case value u => exact ⟨keep a hy u, by rw [← Act.put_comm a v u h2]; exact h⟩
      case skip => exact ⟨keep a hy _, by rw [← Act.put_comm a v undef h2]; exact h⟩
      case defer d =>
        refine ⟨keep _ (keepD d) _, ?_⟩
        rw [← Act.put_comm _ v undef h2, ← Act.put_defers]
        exact h
      case enter f args =>
        refine ⟨h.1, CallsIn.mono h.2 fun e w'' he => ?_⟩
        cases e with
        | returned u => exact ⟨keep a hy u, by rw [← Act.put_comm a v u h2]; exact he⟩
        | panicked c => exact hQ _ _ _ he
        | outgrown => exact he
      case row row args => exact ⟨h.1, RowsIn.mono h.2 fun u w'' he => ⟨keep a hy u, by rw [← Act.put_comm a v u h2]; exact he⟩⟩
      case round l f tmps assign body =>
        refine ⟨h.1, RoundIn.mono h.2 fun e w'' he => ?_⟩
        cases e with
        | returned u => exact ⟨keep a hy u, by rw [← Act.put_comm a v u h2]; exact he⟩
        | panicked c => exact hQ _ _ _ he
        | outgrown => exact he
    | halt x w' =>
      cases x <;> simp only [Oper.uponIn] at h ⊢
      case panic u => exact hQ _ _ _ h
  · rename_i hw
    simp only [hw] at h
    exact ⟨fun f _ => L.fn f, keep a hy _, by rw [← Act.put_comm a v undef h2]; exact h.2⟩
/-- Only the way straight on. -/
def onlyN (K : Act → World → Prop) : Exit → Act → World → Prop
  | .normal, a, w => K a w
  | _, _, _ => False
end
end Go.Proofs.Ytpimcbhjkednpaa
namespace Go.Proofs.Ytpimcbhjkednpaa
open Go.ChangeShapes Go.WideShapes Go.ChangeAt Go.Deep Go.RowKit
set_option maxRecDepth 100000
section
variable {H : Type} {enc : TypeId × Value → H} {w : World} {base : Nat} {spare : Nat → Bool} {held : Bool}
def PartD.wf (d : PartD) : Prop := (Lit.int .i64 d.amp).wf = true ∧ (Lit.int .i64 d.per).wf = true ∧ (Lit.int .i64 d.pha).wf = true
end
end Go.Proofs.Ytpimcbhjkednpaa
namespace Go.Proofs.Ytpimcbhjkednpaa
open Go.ChangeShapes Go.WideShapes Go.ChangeAt Go.Deep Go.RowKit
set_option maxRecDepth 100000
/-- The block b holds the forecast of mean m over the slices v and u, which read as l and s. -/
def FBox (w : World) (b : Nat) (m : Int) (v u : Value) (l : List PartD) (s : List SurgeD) : Prop :=
  w.cell? ⟨b, 0, none⟩ = some (.int .i64 m) ∧ w.cell? ⟨b, 1, none⟩ = some v ∧ w.cell? ⟨b, 2, none⟩ = some u ∧ SlP w v l ∧ SlSurge w u s
theorem FBox.below {w w' : World} {b : Nat} {m : Int} {v u : Value} {l : List PartD} {s : List SurgeD} (h : FBox w b m v u l s) (hb : Below w.heap.size w w') : FBox w' b m v u l s := by
  obtain ⟨h0, h1, h2, h3, h4⟩ := h
  exact ⟨(hb.cell (World.block_lt_of_cell? w _ h0)).trans h0, (hb.cell (World.block_lt_of_cell? w _ h1)).trans h1, (hb.cell (World.block_lt_of_cell? w _ h2)).trans h2, h3.below hb, h4.below hb⟩
theorem FBox.new {w : World} {m : Int} {v u : Value} {l : List PartD} {s : List SurgeD} (t : TypeId) (h : SlP w v l) (h' : SlSurge w u s) : FBox (w.alloc (.cells #[.int .i64 m, v, u] t)) w.heap.size m v u l s := by
  refine ⟨?_, ?_, ?_, h.below (Joins.below_alloc1 _ _), h'.below (Joins.below_alloc1 _ _)⟩
  · rw [World.cell?_alloc_at _ _ _ _ rfl]; rfl
  · rw [World.cell?_alloc_at _ _ _ _ rfl]; rfl
  · rw [World.cell?_alloc_at _ _ _ _ rfl]; rfl
section
variable {H : Type} {enc : TypeId × Value → H} {w : World} {base : Nat} {spare : Nat → Bool} {held : Bool}
end
end Go.Proofs.Ytpimcbhjkednpaa
