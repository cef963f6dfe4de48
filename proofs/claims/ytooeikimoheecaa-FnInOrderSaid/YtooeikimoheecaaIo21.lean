
/- What InOrderLaw rests on, part 21: contracts and mathematics. -/
import Derived.Test.YtooeikimoheecaaIo17
import Derived.Test.YtooeikimoheecaaIo18
import Derived.Test.YtooeikimoheecaaIo16
import Derived.Test.YtooeikimoheecaaIo0
import Derived.Sort.CutIn
namespace Go.Proofs.Ytooeikimoheecaa
/-- Two windows of a valid list are the same or lie apart. -/
theorem WOk.cmp {l : List WindowD} (h : WOk l) {x y : WindowD} (hx : x ∈ l) (hy : y ∈ l) : x = y ∨ x.tt + 1 < y.fr ∨ y.tt + 1 < x.fr := by
  obtain ⟨i, hi, rfl⟩ := List.getElem_of_mem hx
  obtain ⟨j, hj, rfl⟩ := List.getElem_of_mem hy
  have hp := List.pairwise_iff_getElem.1 h.2
  rcases Nat.lt_trichotomy i j with e | e | e
  · exact .inr (.inl (hp i j hi hj e))
  · subst e; exact .inl rfl
  · exact .inr (.inr (hp j i hj hi e))
theorem mem_shr {n : Int} {l : List WindowD} {z : WindowD} : z ∈ shrW n l ↔ ∃ x ∈ l, n ≤ x.tt - x.fr ∧ z = ⟨x.fr, x.tt - n⟩ := by
  unfold shrW longB cutW
  rw [List.mem_map]
  constructor
  · rintro ⟨x, hx, rfl⟩
    rw [List.mem_filter] at hx
    exact ⟨x, hx.1, of_decide_eq_true hx.2, rfl⟩
  · rintro ⟨x, hx, h, rfl⟩
    exact ⟨x, List.mem_filter.2 ⟨hx, decide_eq_true h⟩, rfl⟩
theorem shr_ok {n : Int} {l : List WindowD} (h : WOk l) (hn : 0 ≤ n) : WOk (shrW n l) := by
  refine ⟨fun z hz => ?_, ?_⟩
  · obtain ⟨x, hx, hp, rfl⟩ := mem_shr.1 hz
    obtain ⟨a, b, c⟩ := h.1 x hx
    exact ⟨a, by simp only; omega, by simp only; omega⟩
  · unfold shrW
    refine List.Pairwise.map _ (fun x y (hxy : x.tt + 1 < y.fr) => ?_) (h.2.filter _)
    show x.tt - n + 1 < y.fr
    omega
end Go.Proofs.Ytooeikimoheecaa
namespace Go.Proofs.Ytooeikimoheecaa
open Go.RowKit Go.Shelf
set_option maxRecDepth 100000
attribute [local go_sem] Oper.semAt_some
theorem flat_last (acc : List WindowD) (y : WindowD) : ((acc ++ [y]).flatMap WindowD.cells)[acc.length * 2]? = some (.int .i64 y.fr) ∧ ((acc ++ [y]).flatMap WindowD.cells)[acc.length * 2 + 1]? = some (.int .i64 y.tt) := by
  have hl : (acc.flatMap WindowD.cells).length = acc.length * 2 := by
    induction acc with
    | nil => rfl
    | cons x acc ih => simp [List.flatMap_cons, ih]; omega
  rw [List.flatMap_append]
  constructor
  · rw [List.getElem?_append_right (by omega), hl]; simp
  · rw [List.getElem?_append_right (by omega), hl]; simp
theorem flat_snoc (acc : List WindowD) (y : WindowD) : (acc ++ [y]).flatMap WindowD.cells = acc.flatMap WindowD.cells ++ y.cells := by simp [List.flatMap_append]
theorem flat_set (acc : List WindowD) (y : WindowD) (t : Int) : ((acc ++ [y]).flatMap WindowD.cells).set (acc.length * 2 + 1) (.int .i64 t) = (acc ++ [(⟨y.fr, t⟩ : WindowD)]).flatMap WindowD.cells := by
  have hl : (acc.flatMap WindowD.cells).length = acc.length * 2 := by
    induction acc with
    | nil => rfl
    | cons x acc ih => simp [List.flatMap_cons, ih]; omega
  rw [List.flatMap_append, List.flatMap_append, List.set_append_right _ _ (by omega), hl]
  simp
set_option maxHeartbeats 8000000 in
theorem merge_any (g : Nat) (lb : Array Value) (n₀ N : Nat) (xs : List WindowD) (w : World) (hseq : SeqW g lb (Below n₀) N xs w) (hn₀ : n₀ ≤ w.heap.size) (eg : ∀ args w, (callFunc g args).run Try.prog w = .ok (.enter g args) w) (hlen : N ≤ 4000000000) :
    Calls Try.prog 145 #[.func (.func g) #[] lb] w (NewWindow (mergeF xs) w) := by
  refine (callsIn_wide (n := 9)).1 ?_
  obtain ⟨i0, hi, hz0, hz1, hz2⟩ := info_parts info_window
  refine callsIn_of_wp_marks Try.func145 rfl trivial ?_ rfl
  simp only [Try.ntmps145, List.size_toArray, List.length_cons, List.length_nil, Nat.reduceAdd, Nat.reduceSub, Array.replicate_succ, Array.replicate_zero, List.push_toArray, List.append_toArray, List.nil_append, List.cons_append]
  gi_wp2
  have bO := Boxed.new w 143 (.slice none 0 0)
  have hB0 : Below w.heap.size w (w.alloc (.cells #[.slice none 0 0] 143)) := (Below.refl _ w).alloc (Nat.le_refl _) _
  refine wpIn_rangeFunc_ownH rfl (by omega) (gf := g) (lb := lb) rfl trivial eg
    (hseq.later hB0 8 (by omega)) belowK_t (belowK_b (by simp; omega)) (Below.refl _ _) (fun _ => rfl)
    (fun (pre : List WindowD) W => (∃ v, Boxed W w.heap.size 143 v ∧ W.ownsRow w.heap.size 174 2 v (mergeF pre).length ((mergeF pre).flatMap WindowD.cells) ∧ True) ∧ Below w.heap.size w W)
    (fun _ _ _ => False)
    (OwnFrom.and (Own.from (holdsRow_own w.heap.size w.heap.size 143 174 2 (fun pre : List WindowD => (mergeF pre).length) (fun pre : List WindowD => (mergeF pre).flatMap WindowD.cells) (fun _ _ => True)) _) (ownFrom_below (Nat.le_refl _) (by simp)))
    (fun _ _ _ _ _ hs _ _ => hs)
    ⟨⟨_, bO, World.ownsRow_nil _ _ _ _, trivial⟩, hB0⟩
    (fun x a' W => ∃ Bx, w.heap.size < Bx ∧ Blk W Bx #[.int .i64 x.fr, .int .i64 x.tt] 174 ∧ a' = { tmps := #[.func (.func g) #[] lb, undef, .slice none 0 0, .pointer (some ⟨w.heap.size, 0, none⟩), .pointer (some ⟨Bx, 0, none⟩), undef, .func (.func g) #[] lb, .agg #[.int .i64 x.fr, .int .i64 x.tt], undef, undef, undef, undef, undef, undef, undef, undef, undef, undef, undef, undef, undef, undef, undef, undef, undef, undef, undef, undef, undef, undef, undef, undef, undef, undef, undef, undef, undef, undef, undef, undef, undef], defers := [] })
    (fun x a' _ X Y row hs hg hr => by obtain ⟨Bx, h1, h2, h3⟩ := hs; exact ⟨Bx, h1, blk_own Bx 174 (fun (_ : Unit) => #[Value.int .i64 x.fr, .int .i64 x.tt]) () X Y row h2 hg (fun r e => (hr r e).2), h3⟩)
    ?assign ?body ?done ?stop
  case assign =>
    rintro l pre x W K ⟨⟨v, bv, hrow, _⟩, hB1⟩ hK
    gi_wp2
    exact hK _ _ ((KeepsOthers.alloc _ _).from _) (((Below.refl _ W).alloc (Nat.le_refl _) _).mono (Nat.le_trans hn₀ hB1.size)) ⟨⟨v, bv.alloc _, hrow.alloc _, trivial⟩, hB1.alloc hB1.size _⟩ ⟨W.heap.size, bv.lt, Blk.new W _ _, rfl⟩
  case body =>
    rintro l pre x a' W hl ⟨r, hr⟩ ⟨⟨v, hv, hrow, _⟩, hB⟩ ⟨Bx, hBx, bX, rfl⟩ hlt
    have hsz := hB.size
    have c0 : W.cell? ⟨Bx, 0, none⟩ = some (.int .i64 x.fr) := bX.cell 0
    have c1 : W.cell? ⟨Bx, 1, none⟩ = some (.int .i64 x.tt) := bX.cell 1
    have hml := mergeF_len pre
    rcases snoc_or (mergeF pre) with hE | ⟨acc, y, hE⟩
    · rw [hE] at hrow
      replace hrow : W.ownsRow w.heap.size 174 2 v 0 [] := hrow
      have EX := Lib.hid ((mergeF_snoc pre x).trans (by rw [hE, mergeStep_nil]))
      obtain ⟨A, c, rfl⟩ : ∃ A c, v = .slice A 0 c := by
        rcases hrow.2 with ⟨rfl, _⟩ | ⟨g', cap, cur, rfl, _⟩
        · exact ⟨_, _, rfl⟩
        · exact ⟨_, _, rfl⟩
      have hc := hv.cell
      have HV := Lib.hid hv
      have HRW := Lib.hid hrow
      have HB := Lib.hid hB
      have HX := Lib.hid bX
      clear hE hl hr hv hrow hB bX hml
      gi_upto_region 5 with fail
      refine wpIn_region_still (lets_round l _ _) (by kernel_rfl) (by kernel_rfl) (by kernel_rfl) ?_
      refine hidStill_step (fun K hK => ?_)
      go_simp
      refine hK _ ?_
      clear hK K
      refine hidStill_step (fun K hK => ?_)
      go_simp
      refine hK _ ?_
      clear hK K
      refine hidStill_step (fun K hK => ?_)
      go_simp
      refine hK _ ?_
      clear hK K
      refine hidStill_step (fun K hK => ?_)
      rw [if_neg (by exact Bool.false_ne_true)]
      refine hK _ ?_
      clear hK K
      try simp only [Act.put, List.setIfInBounds_toArray, List.set_cons_zero, List.set_cons_succ]
      refine hidStill_step (fun K hK => ?_)
      rw [if_neg (by exact Bool.false_ne_true)]
      refine hK _ ?_
      clear hK K
      try simp only [Act.put, List.setIfInBounds_toArray, List.set_cons_zero, List.set_cons_succ]
      refine hidStill_step (fun K hK => ?_)
      rw [if_neg (by exact Bool.false_ne_true)]
      refine hK _ ?_
      clear hK K
      try simp only [Act.put, List.setIfInBounds_toArray, List.set_cons_zero, List.set_cons_succ]
      refine hidStill_step (fun K hK => ?_)
      rw [if_neg (by exact Bool.false_ne_true)]
      refine hK _ ?_
      clear hK K
      try simp only [Act.put, List.setIfInBounds_toArray, List.set_cons_zero, List.set_cons_succ]
      refine hidStill_step (fun K hK => ?_)
      rw [if_neg (by exact Bool.false_ne_true)]
      refine hK _ ?_
      clear hK K
      try simp only [Act.put, List.setIfInBounds_toArray, List.set_cons_zero, List.set_cons_succ]
      refine hidStill_step (fun K hK => ?_)
      rw [if_neg (by exact Bool.false_ne_true)]
      refine hK _ ?_
      clear hK K
      try simp only [Act.put, List.setIfInBounds_toArray, List.set_cons_zero, List.set_cons_succ]
      refine hidStill_step (fun K hK => ?_)
      rw [if_neg (by exact Bool.false_ne_true)]
      refine hK _ ?_
      clear hK K
      try simp only [Act.put, List.setIfInBounds_toArray, List.set_cons_zero, List.set_cons_succ]
      refine hidStill_step (fun K hK => ?_)
      rw [if_neg (by exact Bool.false_ne_true)]
      refine hK _ ?_
      clear hK K
      try simp only [Act.put, List.setIfInBounds_toArray, List.set_cons_zero, List.set_cons_succ]
      refine hidStill_step (fun K hK => ?_)
      rw [if_neg (by exact Bool.false_ne_true)]
      refine hK _ ?_
      clear hK K
      try simp only [Act.put, List.setIfInBounds_toArray, List.set_cons_zero, List.set_cons_succ]
      refine hidStill_step (fun K hK => ?_)
      go_simp
      refine hK _ ?_
      clear hK K
      refine hidStill_nil ?_
      obtain ⟨W2, hW2⟩ : ∃ W2, W2 = W.drew := ⟨_, rfl⟩
      rw [← hW2]
      replace HV := Lib.hid (show Boxed W2 _ _ _ by rw [hW2]; exact HV.out)
      replace HRW := Lib.hid (show W2.ownsRow _ _ _ _ _ _ by rw [hW2]; exact HRW.out)
      replace HB := Lib.hid (show Below w.heap.size w W2 by rw [hW2]; exact HB.out.drew)
      replace HX := Lib.hid (show Blk W2 _ _ _ by rw [hW2]; exact HX.out)
      have K02 := Lib.hid (show KeepsOthers W W2 by rw [hW2]; exact KeepsOthers.drew W)
      have B02 := Lib.hid (show Below n₀ W W2 by rw [hW2]; exact (Below.refl _ W).drew)
      clear hW2 hc c0 c1
      have hc := HV.out.cell
      have c0 : W2.cell? ⟨Bx, 0, none⟩ = some (.int .i64 x.fr) := HX.out.cell 0
      have c1 : W2.cell? ⟨Bx, 1, none⟩ = some (.int .i64 x.tt) := HX.out.cell 1
      gi_wp2_with (gi_at_builtin; refine wpListIn_append_own _ rfl _ _ 143 rfl w.heap.size 174 i0 _ 2 16 Try.underlying143 hi hz0 hz1 hz2 rfl (by decide) _ _ _ rfl (HRW.out.alloc _) ⟨W2.heap.size, 0, none⟩ 1 1 (WindowD.cells x) rfl rfl (World.news_of_block (heap_alloc_new _ _)) (window_one _) (by unfold maxLen; omega) (by omega) (by have := HB.out.size; simp; omega) ?_; intro v' w1 hown' hgrow _; obtain ⟨g', cap', rfl⟩ := ownsRow_succ hown'; obtain ⟨hv1, hv2, hr2, hk2, hb2⟩ := HV.out.appended (by decide) HRW.out HB.out.size (Nat.le_refl _) hown' hgrow; have hc1 := hv1.cell; have hf1 := hv1.frozen)
      exact ⟨(K02.out.trans hk2).from _, B02.out.trans (hb2.mono hn₀), ⟨_, hv2, by rw [EX.out]; simpa using hr2, trivial⟩, HB.out.trans hb2⟩
    · rw [hE, show (acc ++ [y]).length = acc.length + 1 by simp] at hrow
      rw [hE] at hml
      obtain ⟨g', cap, rfl⟩ : ∃ g' cap, v = .slice (some ⟨g', 0, none⟩) (acc.length + 1) cap := by
        rcases hrow.2 with ⟨rfl, h0⟩ | ⟨g', cap, cur, rfl, _⟩
        · simp at h0
        · exact ⟨g', cap, rfl⟩
      have q1 : W.cell? ⟨g', acc.length * 2 + 1, none⟩ = some (.int .i64 y.tt) := (World.ownsRow.cellAt hrow (acc.length * 2 + 1) (by omega)).trans (flat_last acc y).2
      have hgb : w.heap.size ≤ g' := (World.ownsRow.lt hrow g' rfl).1
      have hgl : g' < W.heap.size := (World.ownsRow.lt hrow g' rfl).2
      have hal : acc.length + 1 ≤ pre.length := by simpa using hml
      have hidx : (acc.length : Int) < (acc.length : Int) + 1 := by omega
      have hc := hv.cell
      have HV := Lib.hid hv
      have HRW := Lib.hid hrow
      have HB := Lib.hid hB
      have HX := Lib.hid bX
      by_cases hj : x.fr ≤ IntKind.i64.wrap (y.tt + 1)
      · have EX := Lib.hid ((mergeF_snoc pre x).trans (by rw [hE, mergeStep_join hj]))
        clear hE hl hr hv hrow hB bX hml
        gi_upto_region 5 with fail
        refine wpIn_region_still (lets_round l _ _) (by kernel_rfl) (by kernel_rfl) (by kernel_rfl) ?_
        refine hidStill_step (fun K hK => ?_)
        go_simp
        refine hK _ ?_
        clear hK K
        refine hidStill_step (fun K hK => ?_)
        go_simp
        refine hK _ ?_
        clear hK K
        refine hidStill_step (fun K hK => ?_)
        go_simp
        refine hK _ ?_
        clear hK K
        refine hidStill_step (fun K hK => ?_)
        rw [if_pos (by rfl)]
        go_simp
        refine hK _ ?_
        clear hK K
        refine hidStill_step (fun K hK => ?_)
        rw [if_pos (by rfl)]
        go_simp
        refine hK _ ?_
        clear hK K
        refine hidStill_step (fun K hK => ?_)
        rw [if_pos (by rfl)]
        go_simp
        refine hK _ ?_
        clear hK K
        refine hidStill_step (fun K hK => ?_)
        rw [if_pos (by rfl)]
        go_simp
        refine hK _ ?_
        clear hK K
        refine hidStill_step (fun K hK => ?_)
        rw [if_pos (by rfl)]
        go_simp
        refine hK _ ?_
        clear hK K
        refine hidStill_step (fun K hK => ?_)
        rw [if_pos (by rfl)]
        go_simp
        refine hK _ ?_
        clear hK K
        refine hidStill_step (fun K hK => ?_)
        rw [if_pos (by rfl)]
        go_simp
        refine hK _ ?_
        clear hK K
        refine hidStill_step (fun K hK => ?_)
        rw [if_pos (by rfl)]
        go_simp
        refine hK _ ?_
        clear hK K
        refine hidStill_step (fun K hK => ?_)
        rw [if_pos (by rfl)]
        go_simp
        refine hK _ ?_
        clear hK K
        refine hidStill_step (fun K hK => ?_)
        go_simp
        refine hK _ ?_
        clear hK K
        refine hidStill_nil ?_
        obtain ⟨W2, hW2⟩ : ∃ W2, W2 = W.drew := ⟨_, rfl⟩
        rw [← hW2]
        replace HV := Lib.hid (show Boxed W2 _ _ _ by rw [hW2]; exact HV.out)
        replace HRW := Lib.hid (show W2.ownsRow _ _ _ _ _ _ by rw [hW2]; exact HRW.out)
        replace HB := Lib.hid (show Below w.heap.size w W2 by rw [hW2]; exact HB.out.drew)
        replace HX := Lib.hid (show Blk W2 _ _ _ by rw [hW2]; exact HX.out)
        have K02 := Lib.hid (show KeepsOthers W W2 by rw [hW2]; exact KeepsOthers.drew W)
        have B02 := Lib.hid (show Below n₀ W W2 by rw [hW2]; exact (Below.refl _ W).drew)
        clear hW2 hc c0 c1
        have hc := HV.out.cell
        have c0 : W2.cell? ⟨Bx, 0, none⟩ = some (.int .i64 x.fr) := HX.out.cell 0
        have c1 : W2.cell? ⟨Bx, 1, none⟩ = some (.int .i64 x.tt) := HX.out.cell 1
        clear q1
        have q1 : W2.cell? ⟨g', acc.length * 2 + 1, none⟩ = some (.int .i64 y.tt) := (World.ownsRow.cellAt HRW.out (acc.length * 2 + 1) (by omega)).trans (flat_last acc y).2
        gi_upto_region 6 with fail
        refine wpIn_region_still_tail (lets_round l _ _) 12 (by kernel_rfl) (by kernel_rfl) (by kernel_rfl) ?_
        simp only [List.take_succ_cons, List.take_zero, List.drop_succ_cons, List.drop_zero]
        refine hidStill_step (fun K hK => ?_)
        go_simp
        refine hK _ ?_
        clear hK K
        refine hidStill_step (fun K hK => ?_)
        go_simp
        refine hK _ ?_
        clear hK K
        refine hidStill_step (fun K hK => ?_)
        go_simp
        refine hK _ ?_
        clear hK K
        refine hidStill_step (fun K hK => ?_)
        go_simp
        refine hK _ ?_
        clear hK K
        refine hidStill_step (fun K hK => ?_)
        go_simp
        refine hK _ ?_
        clear hK K
        refine hidStill_step (fun K hK => ?_)
        go_simp
        refine hK _ ?_
        clear hK K
        refine hidStill_step (fun K hK => ?_)
        go_simp
        refine hK _ ?_
        clear hK K
        refine hidStill_step (fun K hK => ?_)
        go_simp
        refine hK _ ?_
        clear hK K
        refine hidStill_step (fun K hK => ?_)
        go_simp
        refine hK _ ?_
        clear hK K
        refine hidStill_step (fun K hK => ?_)
        go_simp
        refine hK _ ?_
        clear hK K
        refine hidStill_step (fun K hK => ?_)
        go_simp
        refine hK _ ?_
        clear hK K
        refine hidStill_step (fun K hK => ?_)
        go_simp
        refine hK _ ?_
        clear hK K
        refine hidStill_nil ?_
        rw [show (if y.tt < x.tt then x.tt else y.tt) = max y.tt x.tt by split <;> omega]
        obtain ⟨M, hM⟩ : ∃ M, max y.tt x.tt = M := ⟨_, rfl⟩
        rw [hM] at EX ⊢
        clear hM
        obtain ⟨W3, hW3⟩ : ∃ W3, W3 = W2.drew := ⟨_, rfl⟩
        rw [← hW3]
        replace HV := Lib.hid (show Boxed W3 _ _ _ by rw [hW3]; exact HV.out)
        replace HRW := Lib.hid (show W3.ownsRow _ _ _ _ _ _ by rw [hW3]; exact HRW.out)
        replace HB := Lib.hid (show Below w.heap.size w W3 by rw [hW3]; exact HB.out.drew)
        replace K02 := Lib.hid (show KeepsOthers W W3 by rw [hW3]; exact K02.out.trans (KeepsOthers.drew W2))
        replace B02 := Lib.hid (show Below n₀ W W3 by rw [hW3]; exact B02.out.drew)
        clear hW3 hc c0 c1 q1 HX
        have q3 : W3.cell? ⟨g', acc.length * 2 + 1, none⟩ = some (.int .i64 y.tt) := (World.ownsRow.cellAt HRW.out (acc.length * 2 + 1) (by omega)).trans (flat_last acc y).2
        have f3 : W3.frozen? ⟨g', acc.length * 2 + 1, none⟩ = false := World.ownsRow.frozenAt HRW.out _
        have hne : w.heap.size ≠ g' := fun e => HV.out.not_row (by decide) HRW.out (by rw [e]; rfl)
        have hst := (World.ownsRow.stored HRW.out (acc.length * 2 + 1) (.int .i64 M)).1
        rw [flat_set] at hst
        have HST := Lib.hid hst
        have HV3 := Lib.hid (show Boxed (W3.setCell ⟨g', acc.length * 2 + 1, none⟩ (.int .i64 M)) w.heap.size _ _ from (Below.heap_setCell W3 ⟨g', acc.length * 2 + 1, none⟩ (.int .i64 M) w.heap.size hne).trans HV.out)
        clear hst
        gi_wp2
        exact ⟨(K02.out.trans (KeepsOthers.setCell _ _ _)).from _, B02.out.setCell (p := ⟨g', acc.length * 2 + 1, none⟩) (Nat.le_trans hn₀ hgb) _, ⟨_, HV3.out, by rw [EX.out, show (acc ++ [(⟨y.fr, M⟩ : WindowD)]).length = acc.length + 1 by simp]; exact HST.out, trivial⟩, HB.out.setCell (p := ⟨g', acc.length * 2 + 1, none⟩) hgb _⟩
      · have EX := Lib.hid ((mergeF_snoc pre x).trans (by rw [hE, mergeStep_apart hj]))
        clear hE hl hr hv hrow hB bX hml
        gi_upto_region 5 with fail
        refine wpIn_region_still (lets_round l _ _) (by kernel_rfl) (by kernel_rfl) (by kernel_rfl) ?_
        refine hidStill_step (fun K hK => ?_)
        go_simp
        refine hK _ ?_
        clear hK K
        refine hidStill_step (fun K hK => ?_)
        go_simp
        refine hK _ ?_
        clear hK K
        refine hidStill_step (fun K hK => ?_)
        go_simp
        refine hK _ ?_
        clear hK K
        refine hidStill_step (fun K hK => ?_)
        rw [if_pos (by rfl)]
        go_simp
        refine hK _ ?_
        clear hK K
        refine hidStill_step (fun K hK => ?_)
        rw [if_pos (by rfl)]
        go_simp
        refine hK _ ?_
        clear hK K
        refine hidStill_step (fun K hK => ?_)
        rw [if_pos (by rfl)]
        go_simp
        refine hK _ ?_
        clear hK K
        refine hidStill_step (fun K hK => ?_)
        rw [if_pos (by rfl)]
        go_simp
        refine hK _ ?_
        clear hK K
        refine hidStill_step (fun K hK => ?_)
        rw [if_pos (by rfl)]
        go_simp
        refine hK _ ?_
        clear hK K
        refine hidStill_step (fun K hK => ?_)
        rw [if_pos (by rfl)]
        go_simp
        refine hK _ ?_
        clear hK K
        refine hidStill_step (fun K hK => ?_)
        rw [if_pos (by rfl)]
        go_simp
        refine hK _ ?_
        clear hK K
        refine hidStill_step (fun K hK => ?_)
        rw [if_pos (by rfl)]
        go_simp
        refine hK _ ?_
        clear hK K
        refine hidStill_step (fun K hK => ?_)
        rw [if_pos (by rfl)]
        go_simp
        refine hK _ ?_
        clear hK K
        refine hidStill_step (fun K hK => ?_)
        go_simp
        refine hK _ ?_
        clear hK K
        refine hidStill_nil ?_
        obtain ⟨W2, hW2⟩ : ∃ W2, W2 = W.drew := ⟨_, rfl⟩
        rw [← hW2]
        replace HV := Lib.hid (show Boxed W2 _ _ _ by rw [hW2]; exact HV.out)
        replace HRW := Lib.hid (show W2.ownsRow _ _ _ _ _ _ by rw [hW2]; exact HRW.out)
        replace HB := Lib.hid (show Below w.heap.size w W2 by rw [hW2]; exact HB.out.drew)
        replace HX := Lib.hid (show Blk W2 _ _ _ by rw [hW2]; exact HX.out)
        have K02 := Lib.hid (show KeepsOthers W W2 by rw [hW2]; exact KeepsOthers.drew W)
        have B02 := Lib.hid (show Below n₀ W W2 by rw [hW2]; exact (Below.refl _ W).drew)
        clear hW2 hc c0 c1
        have hc := HV.out.cell
        have c0 : W2.cell? ⟨Bx, 0, none⟩ = some (.int .i64 x.fr) := HX.out.cell 0
        have c1 : W2.cell? ⟨Bx, 1, none⟩ = some (.int .i64 x.tt) := HX.out.cell 1
        gi_wp2_with (gi_at_builtin; refine wpListIn_append_own _ rfl _ _ 143 rfl w.heap.size 174 i0 _ 2 16 Try.underlying143 hi hz0 hz1 hz2 rfl (by decide) _ _ _ rfl (HRW.out.alloc _) ⟨W2.heap.size, 0, none⟩ 1 1 (WindowD.cells x) rfl rfl (World.news_of_block (heap_alloc_new _ _)) (window_one _) (by unfold maxLen; omega) (by omega) (by have := HB.out.size; simp; omega) ?_; intro v' w1 hown' hgrow _; obtain ⟨g', cap', rfl⟩ := ownsRow_succ hown'; obtain ⟨hv1, hv2, hr2, hk2, hb2⟩ := HV.out.appended (by decide) HRW.out HB.out.size (Nat.le_refl _) hown' hgrow; have hc1 := hv1.cell; have hf1 := hv1.frozen)
        exact ⟨(K02.out.trans hk2).from _, B02.out.trans (hb2.mono hn₀), ⟨_, hv2, by rw [EX.out, flat_snoc, show (acc ++ [y] ++ [x]).length = acc.length + 1 + 1 by simp]; exact hr2⟩, HB.out.trans hb2⟩
  case done =>
    rintro D ys W hD rfl ⟨⟨v, hv, hrow, _⟩, hB⟩ hK
    have hc := hv.cell
    gi_wp2
    refine ⟨by simp, .inl ⟨_, _, rfl, run_takeDeferred hK, ?_⟩⟩
    exact ⟨_, results_tmp rfl _ _ _, v, rfl, ownsRow_putObj hrow _ hK rfl, hB.trans (belowK_b (w := w) (Nat.le_refl _) W D _ _ (by simp at hD; omega) hK rfl rfl)⟩
  case stop =>
    rintro D c pre W _ _ h _
    exact h.elim
end Go.Proofs.Ytooeikimoheecaa
