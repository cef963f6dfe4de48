
/- What ExactFreeTimes and BerthsLaw rests on, part 13: contracts and mathematics. -/
import Derived.Test.YtghjfcnboocmjaaBc10
import Derived.Test.YtghjfcnboocmjaaBc0
import Derived.Sort.CutIn
import Derived.Test.YtghjfcnboocmjaaBc6
import Derived.Test.YtghjfcnboocmjaaBc8
import Derived.Test.YtghjfcnboocmjaaBc2
import Derived.Test.YtghjfcnboocmjaaBc4
import Derived.Deep.DeepCutAuto
namespace Go.Proofs.Ytghjfcnboocmjaa
open Go.RowKit Go.Shelf
set_option maxRecDepth 100000
attribute [local go_sem] Oper.semAt_some
theorem flat_last (acc : List WindowD) (y : WindowD) : ((acc ++ [y]).flatMap WindowD.cells)[acc.length * 2]? = some (.int .i64 y.fr) ∧ ((acc ++ [y]).flatMap WindowD.cells)[acc.length * 2 + 1]? = some (.int .i64 y.tt) := by
  have hl : (acc.flatMap WindowD.cells).length = acc.length * 2 := by
    induction acc with
    | nil => rfl
    | cons x acc ih => simp [List.flatMap_cons, ih]; omega
  rw [List.flatMap_append]
  constructor
  · rw [List.getElem?_append_right (by omega), hl]; simp
  · rw [List.getElem?_append_right (by omega), hl]; simp
theorem flat_snoc (acc : List WindowD) (y : WindowD) : (acc ++ [y]).flatMap WindowD.cells = acc.flatMap WindowD.cells ++ y.cells := by simp [List.flatMap_append]
theorem flat_set (acc : List WindowD) (y : WindowD) (t : Int) : ((acc ++ [y]).flatMap WindowD.cells).set (acc.length * 2 + 1) (.int .i64 t) = (acc ++ [(⟨y.fr, t⟩ : WindowD)]).flatMap WindowD.cells := by
  have hl : (acc.flatMap WindowD.cells).length = acc.length * 2 := by
    induction acc with
    | nil => rfl
    | cons x acc ih => simp [List.flatMap_cons, ih]; omega
  rw [List.flatMap_append, List.flatMap_append, List.set_append_right _ _ (by omega), hl]
  simp
set_option maxHeartbeats 8000000 in
theorem merge_any (g : Nat) (lb : Array Value) (n₀ N : Nat) (xs : List WindowD) (w : World) (hseq : SeqW g lb (Below n₀) N xs w) (hn₀ : n₀ ≤ w.heap.size) (eg : ∀ args w, (callFunc g args).run Try.prog w = .ok (.enter g args) w) (hlen : N ≤ 4000000000) :
    Calls Try.prog 90 #[.func (.func g) #[] lb] w (NewWindow (mergeF xs) w) := by
  refine (callsIn_wide (n := 9)).1 ?_
  obtain ⟨i0, hi, hz0, hz1, hz2⟩ := info_parts info_window
  refine callsIn_of_wp_marks Try.func90 rfl trivial ?_ rfl
  simp only [Try.ntmps90, List.size_toArray, List.length_cons, List.length_nil, Nat.reduceAdd, Nat.reduceSub, Array.replicate_succ, Array.replicate_zero, List.push_toArray, List.append_toArray, List.nil_append, List.cons_append]
  gi_wp2
  have bO := Boxed.new w 35 (.slice none 0 0)
  have hB0 : Below w.heap.size w (w.alloc (.cells #[.slice none 0 0] 35)) := (Below.refl _ w).alloc (Nat.le_refl _) _
  refine wpIn_rangeFunc_ownH rfl (by omega) (gf := g) (lb := lb) rfl trivial eg
    (hseq.later hB0 8 (by omega)) belowK_t (belowK_b (by simp; omega)) (Below.refl _ _) (fun _ => rfl)
    (fun (pre : List WindowD) W => (∃ v, Boxed W w.heap.size 35 v ∧ W.ownsRow w.heap.size 86 2 v (mergeF pre).length ((mergeF pre).flatMap WindowD.cells) ∧ True) ∧ Below w.heap.size w W)
    (fun _ _ _ => False)
    (OwnFrom.and (Own.from (holdsRow_own w.heap.size w.heap.size 35 86 2 (fun pre : List WindowD => (mergeF pre).length) (fun pre : List WindowD => (mergeF pre).flatMap WindowD.cells) (fun _ _ => True)) _) (ownFrom_below (Nat.le_refl _) (by simp)))
    (fun _ _ _ _ _ hs _ _ => hs)
    ⟨⟨_, bO, World.ownsRow_nil _ _ _ _, trivial⟩, hB0⟩
    (fun x a' W => ∃ Bx, w.heap.size < Bx ∧ Blk W Bx #[.int .i64 x.fr, .int .i64 x.tt] 86 ∧ a' = { tmps := #[.func (.func g) #[] lb, undef, .slice none 0 0, .pointer (some ⟨w.heap.size, 0, none⟩), .pointer (some ⟨Bx, 0, none⟩), undef, .func (.func g) #[] lb, .agg #[.int .i64 x.fr, .int .i64 x.tt], undef, undef, undef, undef, undef, undef, undef, undef, undef, undef, undef, undef, undef, undef, undef, undef, undef, undef, undef, undef, undef, undef, undef, undef, undef, undef, undef, undef, undef, undef, undef, undef, undef], defers := [] })
    (fun x a' _ X Y row hs hg hr => by obtain ⟨Bx, h1, h2, h3⟩ := hs; exact ⟨Bx, h1, blk_own Bx 86 (fun (_ : Unit) => #[Value.int .i64 x.fr, .int .i64 x.tt]) () X Y row h2 hg (fun r e => (hr r e).2), h3⟩)
    ?assign ?body ?done ?stop
  case assign =>
    rintro l pre x W K ⟨⟨v, bv, hrow, _⟩, hB1⟩ hK
    gi_wp2
    exact hK _ _ ((KeepsOthers.alloc _ _).from _) (((Below.refl _ W).alloc (Nat.le_refl _) _).mono (Nat.le_trans hn₀ hB1.size)) ⟨⟨v, bv.alloc _, hrow.alloc _, trivial⟩, hB1.alloc hB1.size _⟩ ⟨W.heap.size, bv.lt, Blk.new W _ _, rfl⟩
  case body =>
    rintro l pre x a' W hl ⟨r, hr⟩ ⟨⟨v, hv, hrow, _⟩, hB⟩ ⟨Bx, hBx, bX, rfl⟩ hlt
    have hsz := hB.size
    have c0 : W.cell? ⟨Bx, 0, none⟩ = some (.int .i64 x.fr) := bX.cell 0
    have c1 : W.cell? ⟨Bx, 1, none⟩ = some (.int .i64 x.tt) := bX.cell 1
    have hml := mergeF_len pre
    rcases snoc_or (mergeF pre) with hE | ⟨acc, y, hE⟩
    · rw [hE] at hrow
      replace hrow : W.ownsRow w.heap.size 86 2 v 0 [] := hrow
      have EX := Lib.hid ((mergeF_snoc pre x).trans (by rw [hE, mergeStep_nil]))
      obtain ⟨A, c, rfl⟩ : ∃ A c, v = .slice A 0 c := by
        rcases hrow.2 with ⟨rfl, _⟩ | ⟨g', cap, cur, rfl, _⟩
        · exact ⟨_, _, rfl⟩
        · exact ⟨_, _, rfl⟩
      have hc := hv.cell
      have HV := Lib.hid hv
      have HRW := Lib.hid hrow
      have HB := Lib.hid hB
      have HX := Lib.hid bX
      clear hE hl hr hv hrow hB bX hml
      gi_upto_region 5 with fail
      refine wpIn_region_still (lets_round l _ _) (by kernel_rfl) (by kernel_rfl) (by kernel_rfl) ?_
      refine hidStill_step (fun K hK => ?_)
      go_simp
      refine hK _ ?_
      clear hK K
      refine hidStill_step (fun K hK => ?_)
      go_simp
      refine hK _ ?_
      clear hK K
      refine hidStill_step (fun K hK => ?_)
      go_simp
      refine hK _ ?_
      clear hK K
      refine hidStill_step (fun K hK => ?_)
      rw [if_neg (by exact Bool.false_ne_true)]
      refine hK _ ?_
      clear hK K
      try simp only [Act.put, List.setIfInBounds_toArray, List.set_cons_zero, List.set_cons_succ]
      refine hidStill_step (fun K hK => ?_)
      rw [if_neg (by exact Bool.false_ne_true)]
      refine hK _ ?_
      clear hK K
      try simp only [Act.put, List.setIfInBounds_toArray, List.set_cons_zero, List.set_cons_succ]
      refine hidStill_step (fun K hK => ?_)
      rw [if_neg (by exact Bool.false_ne_true)]
      refine hK _ ?_
      clear hK K
      try simp only [Act.put, List.setIfInBounds_toArray, List.set_cons_zero, List.set_cons_succ]
      refine hidStill_step (fun K hK => ?_)
      rw [if_neg (by exact Bool.false_ne_true)]
      refine hK _ ?_
      clear hK K
      try simp only [Act.put, List.setIfInBounds_toArray, List.set_cons_zero, List.set_cons_succ]
      refine hidStill_step (fun K hK => ?_)
      rw [if_neg (by exact Bool.false_ne_true)]
      refine hK _ ?_
      clear hK K
      try simp only [Act.put, List.setIfInBounds_toArray, List.set_cons_zero, List.set_cons_succ]
      refine hidStill_step (fun K hK => ?_)
      rw [if_neg (by exact Bool.false_ne_true)]
      refine hK _ ?_
      clear hK K
      try simp only [Act.put, List.setIfInBounds_toArray, List.set_cons_zero, List.set_cons_succ]
      refine hidStill_step (fun K hK => ?_)
      rw [if_neg (by exact Bool.false_ne_true)]
      refine hK _ ?_
      clear hK K
      try simp only [Act.put, List.setIfInBounds_toArray, List.set_cons_zero, List.set_cons_succ]
      refine hidStill_step (fun K hK => ?_)
      rw [if_neg (by exact Bool.false_ne_true)]
      refine hK _ ?_
      clear hK K
      try simp only [Act.put, List.setIfInBounds_toArray, List.set_cons_zero, List.set_cons_succ]
      refine hidStill_step (fun K hK => ?_)
      rw [if_neg (by exact Bool.false_ne_true)]
      refine hK _ ?_
      clear hK K
      try simp only [Act.put, List.setIfInBounds_toArray, List.set_cons_zero, List.set_cons_succ]
      refine hidStill_step (fun K hK => ?_)
      go_simp
      refine hK _ ?_
      clear hK K
      refine hidStill_nil ?_
      obtain ⟨W2, hW2⟩ : ∃ W2, W2 = W.drew := ⟨_, rfl⟩
      rw [← hW2]
      replace HV := Lib.hid (show Boxed W2 _ _ _ by rw [hW2]; exact HV.out)
      replace HRW := Lib.hid (show W2.ownsRow _ _ _ _ _ _ by rw [hW2]; exact HRW.out)
      replace HB := Lib.hid (show Below w.heap.size w W2 by rw [hW2]; exact HB.out.drew)
      replace HX := Lib.hid (show Blk W2 _ _ _ by rw [hW2]; exact HX.out)
      have K02 := Lib.hid (show KeepsOthers W W2 by rw [hW2]; exact KeepsOthers.drew W)
      have B02 := Lib.hid (show Below n₀ W W2 by rw [hW2]; exact (Below.refl _ W).drew)
      clear hW2 hc c0 c1
      have hc := HV.out.cell
      have c0 : W2.cell? ⟨Bx, 0, none⟩ = some (.int .i64 x.fr) := HX.out.cell 0
      have c1 : W2.cell? ⟨Bx, 1, none⟩ = some (.int .i64 x.tt) := HX.out.cell 1
      gi_wp2_with (gi_at_builtin; refine wpListIn_append_own _ rfl _ _ 35 rfl w.heap.size 86 i0 _ 2 16 Try.underlying35 hi hz0 hz1 hz2 rfl (by decide) _ _ _ rfl (HRW.out.alloc _) ⟨W2.heap.size, 0, none⟩ 1 1 (WindowD.cells x) rfl rfl (World.news_of_block (heap_alloc_new _ _)) (window_one _) (by unfold maxLen; omega) (by omega) (by have := HB.out.size; simp; omega) ?_; intro v' w1 hown' hgrow _; obtain ⟨g', cap', rfl⟩ := ownsRow_succ hown'; obtain ⟨hv1, hv2, hr2, hk2, hb2⟩ := HV.out.appended (by decide) HRW.out HB.out.size (Nat.le_refl _) hown' hgrow; have hc1 := hv1.cell; have hf1 := hv1.frozen)
      exact ⟨(K02.out.trans hk2).from _, B02.out.trans (hb2.mono hn₀), ⟨_, hv2, by rw [EX.out]; simpa using hr2, trivial⟩, HB.out.trans hb2⟩
    · rw [hE, show (acc ++ [y]).length = acc.length + 1 by simp] at hrow
      rw [hE] at hml
      obtain ⟨g', cap, rfl⟩ : ∃ g' cap, v = .slice (some ⟨g', 0, none⟩) (acc.length + 1) cap := by
        rcases hrow.2 with ⟨rfl, h0⟩ | ⟨g', cap, cur, rfl, _⟩
        · simp at h0
        · exact ⟨g', cap, rfl⟩
      have q1 : W.cell? ⟨g', acc.length * 2 + 1, none⟩ = some (.int .i64 y.tt) := (World.ownsRow.cellAt hrow (acc.length * 2 + 1) (by omega)).trans (flat_last acc y).2
      have hgb : w.heap.size ≤ g' := (World.ownsRow.lt hrow g' rfl).1
      have hgl : g' < W.heap.size := (World.ownsRow.lt hrow g' rfl).2
      have hal : acc.length + 1 ≤ pre.length := by simpa using hml
      have hidx : (acc.length : Int) < (acc.length : Int) + 1 := by omega
      have hc := hv.cell
      have HV := Lib.hid hv
      have HRW := Lib.hid hrow
      have HB := Lib.hid hB
      have HX := Lib.hid bX
      by_cases hj : x.fr ≤ IntKind.i64.wrap (y.tt + 1)
      · have EX := Lib.hid ((mergeF_snoc pre x).trans (by rw [hE, mergeStep_join hj]))
        clear hE hl hr hv hrow hB bX hml
        gi_upto_region 5 with fail
        refine wpIn_region_still (lets_round l _ _) (by kernel_rfl) (by kernel_rfl) (by kernel_rfl) ?_
        refine hidStill_step (fun K hK => ?_)
        go_simp
        refine hK _ ?_
        clear hK K
        refine hidStill_step (fun K hK => ?_)
        go_simp
        refine hK _ ?_
        clear hK K
        refine hidStill_step (fun K hK => ?_)
        go_simp
        refine hK _ ?_
        clear hK K
        refine hidStill_step (fun K hK => ?_)
        rw [if_pos (by rfl)]
        go_simp
        refine hK _ ?_
        clear hK K
        refine hidStill_step (fun K hK => ?_)
        rw [if_pos (by rfl)]
        go_simp
        refine hK _ ?_
        clear hK K
        refine hidStill_step (fun K hK => ?_)
        rw [if_pos (by rfl)]
        go_simp
        refine hK _ ?_
        clear hK K
        refine hidStill_step (fun K hK => ?_)
        rw [if_pos (by rfl)]
        go_simp
        refine hK _ ?_
        clear hK K
        refine hidStill_step (fun K hK => ?_)
        rw [if_pos (by rfl)]
        go_simp
        refine hK _ ?_
        clear hK K
        refine hidStill_step (fun K hK => ?_)
        rw [if_pos (by rfl)]
        go_simp
        refine hK _ ?_
        clear hK K
        refine hidStill_step (fun K hK => ?_)
        rw [if_pos (by rfl)]
        go_simp
        refine hK _ ?_
        clear hK K
        refine hidStill_step (fun K hK => ?_)
        rw [if_pos (by rfl)]
        go_simp
        refine hK _ ?_
        clear hK K
        refine hidStill_step (fun K hK => ?_)
        rw [if_pos (by rfl)]
        go_simp
        refine hK _ ?_
        clear hK K
        refine hidStill_step (fun K hK => ?_)
        go_simp
        refine hK _ ?_
        clear hK K
        refine hidStill_nil ?_
        obtain ⟨W2, hW2⟩ : ∃ W2, W2 = W.drew := ⟨_, rfl⟩
        rw [← hW2]
        replace HV := Lib.hid (show Boxed W2 _ _ _ by rw [hW2]; exact HV.out)
        replace HRW := Lib.hid (show W2.ownsRow _ _ _ _ _ _ by rw [hW2]; exact HRW.out)
        replace HB := Lib.hid (show Below w.heap.size w W2 by rw [hW2]; exact HB.out.drew)
        replace HX := Lib.hid (show Blk W2 _ _ _ by rw [hW2]; exact HX.out)
        have K02 := Lib.hid (show KeepsOthers W W2 by rw [hW2]; exact KeepsOthers.drew W)
        have B02 := Lib.hid (show Below n₀ W W2 by rw [hW2]; exact (Below.refl _ W).drew)
        clear hW2 hc c0 c1
        have hc := HV.out.cell
        have c0 : W2.cell? ⟨Bx, 0, none⟩ = some (.int .i64 x.fr) := HX.out.cell 0
        have c1 : W2.cell? ⟨Bx, 1, none⟩ = some (.int .i64 x.tt) := HX.out.cell 1
        clear q1
        have q1 : W2.cell? ⟨g', acc.length * 2 + 1, none⟩ = some (.int .i64 y.tt) := (World.ownsRow.cellAt HRW.out (acc.length * 2 + 1) (by omega)).trans (flat_last acc y).2
        gi_upto_region 6 with fail
        refine wpIn_region_still_tail (lets_round l _ _) 12 (by kernel_rfl) (by kernel_rfl) (by kernel_rfl) ?_
        simp only [List.take_succ_cons, List.take_zero, List.drop_succ_cons, List.drop_zero]
        refine hidStill_step (fun K hK => ?_)
        go_simp
        refine hK _ ?_
        clear hK K
        refine hidStill_step (fun K hK => ?_)
        go_simp
        refine hK _ ?_
        clear hK K
        refine hidStill_step (fun K hK => ?_)
        go_simp
        refine hK _ ?_
        clear hK K
        refine hidStill_step (fun K hK => ?_)
        go_simp
        refine hK _ ?_
        clear hK K
        refine hidStill_step (fun K hK => ?_)
        go_simp
        refine hK _ ?_
        clear hK K
        refine hidStill_step (fun K hK => ?_)
        go_simp
        refine hK _ ?_
        clear hK K
        refine hidStill_step (fun K hK => ?_)
        go_simp
        refine hK _ ?_
        clear hK K
        refine hidStill_step (fun K hK => ?_)
        go_simp
        refine hK _ ?_
        clear hK K
        refine hidStill_step (fun K hK => ?_)
        go_simp
        refine hK _ ?_
        clear hK K
        refine hidStill_step (fun K hK => ?_)
        go_simp
        refine hK _ ?_
        clear hK K
        refine hidStill_step (fun K hK => ?_)
        go_simp
        refine hK _ ?_
        clear hK K
        refine hidStill_step (fun K hK => ?_)
        go_simp
        refine hK _ ?_
        clear hK K
        refine hidStill_nil ?_
        rw [show (if y.tt < x.tt then x.tt else y.tt) = max y.tt x.tt by split <;> omega]
        obtain ⟨M, hM⟩ : ∃ M, max y.tt x.tt = M := ⟨_, rfl⟩
        rw [hM] at EX ⊢
        clear hM
        obtain ⟨W3, hW3⟩ : ∃ W3, W3 = W2.drew := ⟨_, rfl⟩
        rw [← hW3]
        replace HV := Lib.hid (show Boxed W3 _ _ _ by rw [hW3]; exact HV.out)
        replace HRW := Lib.hid (show W3.ownsRow _ _ _ _ _ _ by rw [hW3]; exact HRW.out)
        replace HB := Lib.hid (show Below w.heap.size w W3 by rw [hW3]; exact HB.out.drew)
        replace K02 := Lib.hid (show KeepsOthers W W3 by rw [hW3]; exact K02.out.trans (KeepsOthers.drew W2))
        replace B02 := Lib.hid (show Below n₀ W W3 by rw [hW3]; exact B02.out.drew)
        clear hW3 hc c0 c1 q1 HX
        have q3 : W3.cell? ⟨g', acc.length * 2 + 1, none⟩ = some (.int .i64 y.tt) := (World.ownsRow.cellAt HRW.out (acc.length * 2 + 1) (by omega)).trans (flat_last acc y).2
        have f3 : W3.frozen? ⟨g', acc.length * 2 + 1, none⟩ = false := World.ownsRow.frozenAt HRW.out _
        have hne : w.heap.size ≠ g' := fun e => HV.out.not_row (by decide) HRW.out (by rw [e]; rfl)
        have hst := (World.ownsRow.stored HRW.out (acc.length * 2 + 1) (.int .i64 M)).1
        rw [flat_set] at hst
        have HST := Lib.hid hst
        have HV3 := Lib.hid (show Boxed (W3.setCell ⟨g', acc.length * 2 + 1, none⟩ (.int .i64 M)) w.heap.size _ _ from (Below.heap_setCell W3 ⟨g', acc.length * 2 + 1, none⟩ (.int .i64 M) w.heap.size hne).trans HV.out)
        clear hst
        gi_wp2
        exact ⟨(K02.out.trans (KeepsOthers.setCell _ _ _)).from _, B02.out.setCell (p := ⟨g', acc.length * 2 + 1, none⟩) (Nat.le_trans hn₀ hgb) _, ⟨_, HV3.out, by rw [EX.out, show (acc ++ [(⟨y.fr, M⟩ : WindowD)]).length = acc.length + 1 by simp]; exact HST.out, trivial⟩, HB.out.setCell (p := ⟨g', acc.length * 2 + 1, none⟩) hgb _⟩
      · have EX := Lib.hid ((mergeF_snoc pre x).trans (by rw [hE, mergeStep_apart hj]))
        clear hE hl hr hv hrow hB bX hml
        gi_upto_region 5 with fail
        refine wpIn_region_still (lets_round l _ _) (by kernel_rfl) (by kernel_rfl) (by kernel_rfl) ?_
        refine hidStill_step (fun K hK => ?_)
        go_simp
        refine hK _ ?_
        clear hK K
        refine hidStill_step (fun K hK => ?_)
        go_simp
        refine hK _ ?_
        clear hK K
        refine hidStill_step (fun K hK => ?_)
        go_simp
        refine hK _ ?_
        clear hK K
        refine hidStill_step (fun K hK => ?_)
        rw [if_pos (by rfl)]
        go_simp
        refine hK _ ?_
        clear hK K
        refine hidStill_step (fun K hK => ?_)
        rw [if_pos (by rfl)]
        go_simp
        refine hK _ ?_
        clear hK K
        refine hidStill_step (fun K hK => ?_)
        rw [if_pos (by rfl)]
        go_simp
        refine hK _ ?_
        clear hK K
        refine hidStill_step (fun K hK => ?_)
        rw [if_pos (by rfl)]
        go_simp
        refine hK _ ?_
        clear hK K
        refine hidStill_step (fun K hK => ?_)
        rw [if_pos (by rfl)]
        go_simp
        refine hK _ ?_
        clear hK K
        refine hidStill_step (fun K hK => ?_)
        rw [if_pos (by rfl)]
        go_simp
        refine hK _ ?_
        clear hK K
        refine hidStill_step (fun K hK => ?_)
        rw [if_pos (by rfl)]
        go_simp
        refine hK _ ?_
        clear hK K
        refine hidStill_step (fun K hK => ?_)
        rw [if_pos (by rfl)]
        go_simp
        refine hK _ ?_
        clear hK K
        refine hidStill_step (fun K hK => ?_)
        rw [if_pos (by rfl)]
        go_simp
        refine hK _ ?_
        clear hK K
        refine hidStill_step (fun K hK => ?_)
        go_simp
        refine hK _ ?_
        clear hK K
        refine hidStill_nil ?_
        obtain ⟨W2, hW2⟩ : ∃ W2, W2 = W.drew := ⟨_, rfl⟩
        rw [← hW2]
        replace HV := Lib.hid (show Boxed W2 _ _ _ by rw [hW2]; exact HV.out)
        replace HRW := Lib.hid (show W2.ownsRow _ _ _ _ _ _ by rw [hW2]; exact HRW.out)
        replace HB := Lib.hid (show Below w.heap.size w W2 by rw [hW2]; exact HB.out.drew)
        replace HX := Lib.hid (show Blk W2 _ _ _ by rw [hW2]; exact HX.out)
        have K02 := Lib.hid (show KeepsOthers W W2 by rw [hW2]; exact KeepsOthers.drew W)
        have B02 := Lib.hid (show Below n₀ W W2 by rw [hW2]; exact (Below.refl _ W).drew)
        clear hW2 hc c0 c1
        have hc := HV.out.cell
        have c0 : W2.cell? ⟨Bx, 0, none⟩ = some (.int .i64 x.fr) := HX.out.cell 0
        have c1 : W2.cell? ⟨Bx, 1, none⟩ = some (.int .i64 x.tt) := HX.out.cell 1
        gi_wp2_with (gi_at_builtin; refine wpListIn_append_own _ rfl _ _ 35 rfl w.heap.size 86 i0 _ 2 16 Try.underlying35 hi hz0 hz1 hz2 rfl (by decide) _ _ _ rfl (HRW.out.alloc _) ⟨W2.heap.size, 0, none⟩ 1 1 (WindowD.cells x) rfl rfl (World.news_of_block (heap_alloc_new _ _)) (window_one _) (by unfold maxLen; omega) (by omega) (by have := HB.out.size; simp; omega) ?_; intro v' w1 hown' hgrow _; obtain ⟨g', cap', rfl⟩ := ownsRow_succ hown'; obtain ⟨hv1, hv2, hr2, hk2, hb2⟩ := HV.out.appended (by decide) HRW.out HB.out.size (Nat.le_refl _) hown' hgrow; have hc1 := hv1.cell; have hf1 := hv1.frozen)
        exact ⟨(K02.out.trans hk2).from _, B02.out.trans (hb2.mono hn₀), ⟨_, hv2, by rw [EX.out, flat_snoc, show (acc ++ [y] ++ [x]).length = acc.length + 1 + 1 by simp]; exact hr2⟩, HB.out.trans hb2⟩
  case done =>
    rintro D ys W hD rfl ⟨⟨v, hv, hrow, _⟩, hB⟩ hK
    have hc := hv.cell
    gi_wp2
    refine ⟨by simp, .inl ⟨_, _, rfl, run_takeDeferred hK, ?_⟩⟩
    exact ⟨_, results_tmp rfl _ _ _, v, rfl, ownsRow_putObj hrow _ hK rfl, hB.trans (belowK_b (w := w) (Nat.le_refl _) W D _ _ (by simp at hD; omega) hK rfl rfl)⟩
  case stop =>
    rintro D c pre W _ _ h _
    exact h.elim
end Go.Proofs.Ytghjfcnboocmjaa
namespace Go.Proofs.Ytghjfcnboocmjaa
open Go.RowKit
set_option maxRecDepth 100000
set_option maxHeartbeats 8000000 in
theorem specBerthsOk (v : Value) (l : List BerthD) (w : World) (h : SlBerth w v l) (hw : ∀ x ∈ l, BerthD.wf x) :
    Calls Try.prog 21 #[v] w fun e w' => e = .returned (.bool (berthsB l)) ∧ Below w.heap.size w w' := by
  have HS := Lib.hid h
  have HWF := Lib.hid hw
  have hl := h.1
  obtain ⟨A1, c1, rfl⟩ := h.at
  have hcap : 0 < l.length → l.length ≤ c1 := fun h0 => by
    rcases h.2 with ⟨he, _⟩ | ⟨g, o, c, e, _, hc, _⟩
    · rw [he] at h0; simp at h0
    · injection e with _ _ e3; omega
  have HCAP := Lib.hid hcap
  clear h hw hcap
  obtain ⟨m, hm⟩ : ∃ m, l.length = m := ⟨_, rfl⟩
  have HM := Lib.hid hm
  rw [hm] at hl HCAP HS ⊢
  clear hm
  by_cases hlen : 4 < m
  · have E := Lib.hid (berthsB_long (l := l) (by rw [HM.out]; omega))
    have g4 : decide ((4 : Int) < (m : Int)) = true := decide_eq_true (by omega)
    go_enter Try.func21, Try.ntmps21
    go_wp2
    go_ret
    exact ⟨ret_bool E.out.symm, Below.refl _ _⟩
  have g4 : decide ((4 : Int) < (m : Int)) = false := decide_eq_false (by omega)
  go_enter Try.func21, Try.ntmps21
  go_wp2
  go_loopw [12] (fun i wr => ∃ k : Nat, k ≤ m ∧ i = .int .i64 (k : Int) ∧ Hid (RunTo pBerth l k) ∧ Hid (Below w.heap.size w wr)) (fun i _ => m - (intOf i).toNat)
  case atStart => exact ⟨0, Nat.zero_le _, rfl, Lib.hid (RunTo.zero _ _), Lib.hid (Below.refl _ _)⟩
  case round =>
    obtain ⟨k, hk, rfl, hR, hb⟩ := hrel
    have hzs := hb.out.size
    by_cases hlt : k < m
    rotate_left
    · obtain rfl : k = m := by omega
      have E := Lib.hid (berthsB_yes (l := l) (by rw [HM.out]; omega) (by rw [HM.out]; exact hR.out))
      go_wp2
      go_ret
      exact ⟨ret_bool E.out.symm, hb.out⟩
    have hcap := HCAP.out (by omega)
    obtain ⟨x, hx⟩ : ∃ x, l[k]? = some x := ⟨_, List.getElem?_eq_getElem (by have := HM.out; omega)⟩
    have XW := Lib.hid (HWF.out x (List.mem_of_getElem? hx))
    have HX := Lib.hid hx
    have TK := Lib.hid (SlOf.takeP (k := k) (show SlOf 3 BerthD.cells w (.slice A1 l.length c1) l by rw [HM.out]; exact HS.out) (by have := HM.out; omega))
    rcases HS.out.2 with ⟨he, _⟩ | ⟨g, o, c', e, lpos, lcap, lc⟩
    · rw [he] at hx; simp at hx
    injection e with ea e2 e3
    subst ea
    clear e2 e3 lpos lcap
    obtain ⟨q0, q1, q2⟩ := SlBerth.cells lc k x hx
    have y0 := cell_onV q0 hb.out
    have y1 := cell_onV q1 hb.out
    have y2 := cell_onV q2 hb.out
    have HLC := Lib.hid lc
    clear q0 q1 q2 hx lc
    go_upto_region 6 with fail
    have BL := Joins.below_alloc1 wr (.cells #[.string x.name, .int .i64 x.length, .int .i64 x.depth] 41)
    have KN := Blk.new wr #[.string x.name, .int .i64 x.length, .int .i64 x.depth] 41
    obtain ⟨wo, hwo⟩ : ∃ W, W = wr := ⟨_, rfl⟩
    obtain ⟨w2, hw2⟩ : ∃ W, W = wr.alloc (.cells #[.string x.name, .int .i64 x.length, .int .i64 x.depth] 41) := ⟨_, rfl⟩
    rw [← hw2] at BL KN ⊢
    have B2 := Lib.hid (hb.out.trans (BL.mono hb.out.size))
    have KP := Lib.hid KN
    have z0 : w2.cell? ⟨wr.heap.size, 0, none⟩ = some (.string x.name) := KN.cell 0
    have z1 : w2.cell? ⟨wr.heap.size, 1, none⟩ = some (.int .i64 x.length) := KN.cell 1
    have z2 : w2.cell? ⟨wr.heap.size, 2, none⟩ = some (.int .i64 x.depth) := KN.cell 2
    rw [← hwo] at z0 z1 z2 KP hb hzs ⊢
    clear BL KN hw2 hwo y0 y1 y2
    obtain ⟨b1, hb1⟩ : ∃ b, nameB x.name = b := ⟨_, rfl⟩
    obtain ⟨b2, hb2⟩ : ∃ b, inB x.length 10 400 = b := ⟨_, rfl⟩
    obtain ⟨b3, hb3⟩ : ∃ b, inB x.depth 0 3000 = b := ⟨_, rfl⟩
    have EB := Lib.hid (show berthB x = (b1 && b2 && b3) by unfold berthB; rw [hb1, hb2, hb3])
    have H1 := Lib.hid hb1
    have H2 := Lib.hid hb2
    have H3 := Lib.hid hb3
    clear hb1 hb2 hb3
    go_wp2_with fail
    refine (specIsName x.name _ XW.out.1).mono ?_
    rw [H1.out]
    rintro e w3 ⟨rfl, rfl⟩
    cases b1 with
    | false =>
      have E := Lib.hid (berthsB_no HX.out (by unfold pBerth; rw [EB.out]; rfl))
      go_wp2
      go_ret
      exact ⟨ret_bool E.out.symm, B2.out⟩
    | true =>
    go_wp2_with fail
    refine (l01In_any _ _ _ _).mono ?_
    rw [H2.out]
    rintro e w3 ⟨rfl, rfl⟩
    cases b2 with
    | false =>
      have E := Lib.hid (berthsB_no HX.out (by unfold pBerth; rw [EB.out]; rfl))
      go_wp2
      go_ret
      exact ⟨ret_bool E.out.symm, B2.out⟩
    | true =>
    go_wp2_with fail
    refine (l01In_any _ _ _ _).mono ?_
    rw [H3.out]
    rintro e w3 ⟨rfl, rfl⟩
    cases b3 with
    | false =>
      have E := Lib.hid (berthsB_no HX.out (by unfold pBerth; rw [EB.out]; rfl))
      go_wp2
      go_ret
      exact ⟨ret_bool E.out.symm, B2.out⟩
    | true =>
    have hkc : (0 : Int) ≤ (k : Int) ∧ (k : Int) ≤ (c1 : Int) := by omega
    clear z1 z2 z0
    go_wp2
    go_loopw [37] (fun t wx => ∃ j : Nat, j ≤ k ∧ t = .int .i64 (j : Int) ∧ Hid (NoneTo (sameName x) l j) ∧ Hid (Below w2.heap.size w2 wx)) (fun t _ => k - (intOf t).toNat)
    case atStart => exact ⟨0, Nat.zero_le _, rfl, Lib.hid (NoneTo.zero _ _), Lib.hid (Below.refl _ _)⟩
    case round =>
      obtain ⟨j, hj, rfl, hN, hbx⟩ := hrel
      have B3 := Lib.hid (B2.out.trans (hbx.out.mono B2.out.size))
      have hzx := B3.out.size
      by_cases hjk : j < k
      · obtain ⟨y, hy⟩ : ∃ y, l[j]? = some y := ⟨_, List.getElem?_eq_getElem (by have := HM.out; omega)⟩
        obtain ⟨q0, q1, q2⟩ := SlBerth.cells HLC.out j y hy
        have y0 := cell_onV q0 B3.out
        have y1 := cell_onV q1 B3.out
        have y2 := cell_onV q2 B3.out
        have HY := Lib.hid hy
        have z0 : wr.cell? ⟨wo.heap.size, 0, none⟩ = some (.string x.name) := (KP.out.below hbx.out).cell 0
        have BY := Lib.hid (hbx.out.alloc hbx.out.size (.cells #[.string y.name, .int .i64 y.length, .int .i64 y.depth] 41))
        have hwz : wo.heap.size < wr.heap.size := (KP.out.below hbx.out).lt
        clear q0 q1 q2 hy
        cases hn : (y.name.toList == x.name.toList) with
        | true =>
          have E := Lib.hid (berthsB_no HX.out (by unfold pBerth; rw [any_at HY.out hjk hn]; simp))
          go_wp2
          go_ret
          exact ⟨ret_bool E.out.symm, B2.out.trans (BY.out.mono B2.out.size)⟩
        | false =>
          have N2 := Lib.hid (hN.out.next HY.out hn)
          go_wp2
          go_roundw
          case rel => exact ⟨j + 1, by omega, by go_num, N2, BY⟩
          case measure => simp [intOf]; omega
      · obtain rfl : j = k := by omega
        have R2 := Lib.hid (hR.out.next HX.out (by unfold pBerth; rw [EB.out, hN.out]; rfl))
        go_wp2
        go_roundw
        case rel => exact ⟨j + 1, by omega, by go_num, R2, B3⟩
        case measure => simp [intOf]; omega
end Go.Proofs.Ytghjfcnboocmjaa
