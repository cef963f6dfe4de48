
/- What ExactSureStarts and ExactOpenStarts and ExactIsSure and ExactIsOpenStart and ExactDraughtFor rests on, part 9: contracts and mathematics. -/
import Derived.Test.YtpimcbhjkednpaaGreatSt8
import Derived.Sort.CutIn
import Derived.OrdersHeld
import Derived.BigRegionIn
import Derived.Lib.Hide
import Derived.Test.YtpimcbhjkednpaaGreatSt0
import Derived.StillTailTactics
import Derived.Test.YtpimcbhjkednpaaGreatSt7
namespace Go.Proofs.YtpimcbhjkednpaaGreat
open Go.RowKit Go.Shelf
set_option maxRecDepth 100000
attribute [local go_sem] Oper.semAt_some
theorem flat_last (acc : List WindowD) (y : WindowD) : ((acc ++ [y]).flatMap WindowD.cells)[acc.length * 2]? = some (.int .i64 y.fr) ∧ ((acc ++ [y]).flatMap WindowD.cells)[acc.length * 2 + 1]? = some (.int .i64 y.tt) := by
  have hl : (acc.flatMap WindowD.cells).length = acc.length * 2 := by
    induction acc with
    | nil => rfl
    | cons x acc ih => simp [List.flatMap_cons, ih]; omega
  rw [List.flatMap_append]
  constructor
  · rw [List.getElem?_append_right (by omega), hl]; simp
  · rw [List.getElem?_append_right (by omega), hl]; simp
theorem flat_snoc (acc : List WindowD) (y : WindowD) : (acc ++ [y]).flatMap WindowD.cells = acc.flatMap WindowD.cells ++ y.cells := by simp [List.flatMap_append]
theorem flat_set (acc : List WindowD) (y : WindowD) (t : Int) : ((acc ++ [y]).flatMap WindowD.cells).set (acc.length * 2 + 1) (.int .i64 t) = (acc ++ [(⟨y.fr, t⟩ : WindowD)]).flatMap WindowD.cells := by
  have hl : (acc.flatMap WindowD.cells).length = acc.length * 2 := by
    induction acc with
    | nil => rfl
    | cons x acc ih => simp [List.flatMap_cons, ih]; omega
  rw [List.flatMap_append, List.flatMap_append, List.set_append_right _ _ (by omega), hl]
  simp
set_option maxHeartbeats 8000000 in
theorem merge_any (g : Nat) (lb : Array Value) (n₀ N : Nat) (xs : List WindowD) (w : World) (hseq : SeqW g lb (Below n₀) N xs w) (hn₀ : n₀ ≤ w.heap.size) (eg : ∀ args w, (callFunc g args).run Tryz.prog w = .ok (.enter g args) w) (hlen : N ≤ 4000000000) :
    Calls Tryz.prog 118 #[.func (.func g) #[] lb] w (NewWindow (mergeF xs) w) := by
  refine (callsIn_wide (n := 9)).1 ?_
  obtain ⟨i0, hi, hz0, hz1, hz2⟩ := info_parts info_window
  refine callsIn_of_wp_marks Tryz.func118 rfl trivial ?_ rfl
  simp only [Tryz.ntmps118, List.size_toArray, List.length_cons, List.length_nil, Nat.reduceAdd, Nat.reduceSub, Array.replicate_succ, Array.replicate_zero, List.push_toArray, List.append_toArray, List.nil_append, List.cons_append]
  gi_wp2
  have bO := Boxed.new w 37 (.slice none 0 0)
  have hB0 : Below w.heap.size w (w.alloc (.cells #[.slice none 0 0] 37)) := (Below.refl _ w).alloc (Nat.le_refl _) _
  refine wpIn_rangeFunc_ownH rfl (by omega) (gf := g) (lb := lb) rfl trivial eg
    (hseq.later hB0 8 (by omega)) belowK_t (belowK_b (by simp; omega)) (Below.refl _ _) (fun _ => rfl)
    (fun (pre : List WindowD) W => (∃ v, Boxed W w.heap.size 37 v ∧ W.ownsRow w.heap.size 77 2 v (mergeF pre).length ((mergeF pre).flatMap WindowD.cells) ∧ True) ∧ Below w.heap.size w W)
    (fun _ _ _ => False)
    (OwnFrom.and (Own.from (holdsRow_own w.heap.size w.heap.size 37 77 2 (fun pre : List WindowD => (mergeF pre).length) (fun pre : List WindowD => (mergeF pre).flatMap WindowD.cells) (fun _ _ => True)) _) (ownFrom_below (Nat.le_refl _) (by simp)))
    (fun _ _ _ _ _ hs _ _ => hs)
    ⟨⟨_, bO, World.ownsRow_nil _ _ _ _, trivial⟩, hB0⟩
    (fun x a' W => ∃ Bx, w.heap.size < Bx ∧ Blk W Bx #[.int .i64 x.fr, .int .i64 x.tt] 77 ∧ a' = { tmps := #[.func (.func g) #[] lb, undef, .slice none 0 0, .pointer (some ⟨w.heap.size, 0, none⟩), .pointer (some ⟨Bx, 0, none⟩), undef, .func (.func g) #[] lb, .agg #[.int .i64 x.fr, .int .i64 x.tt], undef, undef, undef, undef, undef, undef, undef, undef, undef, undef, undef, undef, undef, undef, undef, undef, undef, undef, undef, undef, undef, undef, undef, undef, undef, undef, undef, undef, undef, undef, undef, undef, undef], defers := [] })
    (fun x a' _ X Y row hs hg hr => by obtain ⟨Bx, h1, h2, h3⟩ := hs; exact ⟨Bx, h1, blk_own Bx 77 (fun (_ : Unit) => #[Value.int .i64 x.fr, .int .i64 x.tt]) () X Y row h2 hg (fun r e => (hr r e).2), h3⟩)
    ?assign ?body ?done ?stop
  case assign =>
    rintro l pre x W K ⟨⟨v, bv, hrow, _⟩, hB1⟩ hK
    gi_wp2
    exact hK _ _ ((KeepsOthers.alloc _ _).from _) (((Below.refl _ W).alloc (Nat.le_refl _) _).mono (Nat.le_trans hn₀ hB1.size)) ⟨⟨v, bv.alloc _, hrow.alloc _, trivial⟩, hB1.alloc hB1.size _⟩ ⟨W.heap.size, bv.lt, Blk.new W _ _, rfl⟩
  case body =>
    rintro l pre x a' W hl ⟨r, hr⟩ ⟨⟨v, hv, hrow, _⟩, hB⟩ ⟨Bx, hBx, bX, rfl⟩ hlt
    have hsz := hB.size
    have c0 : W.cell? ⟨Bx, 0, none⟩ = some (.int .i64 x.fr) := bX.cell 0
    have c1 : W.cell? ⟨Bx, 1, none⟩ = some (.int .i64 x.tt) := bX.cell 1
    have hml := mergeF_len pre
    rcases snoc_or (mergeF pre) with hE | ⟨acc, y, hE⟩
    · rw [hE] at hrow
      replace hrow : W.ownsRow w.heap.size 77 2 v 0 [] := hrow
      have EX := Lib.hid ((mergeF_snoc pre x).trans (by rw [hE, mergeStep_nil]))
      obtain ⟨A, c, rfl⟩ : ∃ A c, v = .slice A 0 c := by
        rcases hrow.2 with ⟨rfl, _⟩ | ⟨g', cap, cur, rfl, _⟩
        · exact ⟨_, _, rfl⟩
        · exact ⟨_, _, rfl⟩
      have hc := hv.cell
      have HV := Lib.hid hv
      have HRW := Lib.hid hrow
      have HB := Lib.hid hB
      have HX := Lib.hid bX
      clear hE hl hr hv hrow hB bX hml
      gi_upto_region 5 with fail
      refine wpIn_region_still (lets_round l _ _) (by kernel_rfl) (by kernel_rfl) (by kernel_rfl) ?_
      refine hidStill_step (fun K hK => ?_)
      go_simp
      refine hK _ ?_
      clear hK K
      refine hidStill_step (fun K hK => ?_)
      go_simp
      refine hK _ ?_
      clear hK K
      refine hidStill_step (fun K hK => ?_)
      go_simp
      refine hK _ ?_
      clear hK K
      refine hidStill_step (fun K hK => ?_)
      rw [if_neg (by exact Bool.false_ne_true)]
      refine hK _ ?_
      clear hK K
      try simp only [Act.put, List.setIfInBounds_toArray, List.set_cons_zero, List.set_cons_succ]
      refine hidStill_step (fun K hK => ?_)
      rw [if_neg (by exact Bool.false_ne_true)]
      refine hK _ ?_
      clear hK K
      try simp only [Act.put, List.setIfInBounds_toArray, List.set_cons_zero, List.set_cons_succ]
      refine hidStill_step (fun K hK => ?_)
      rw [if_neg (by exact Bool.false_ne_true)]
      refine hK _ ?_
      clear hK K
      try simp only [Act.put, List.setIfInBounds_toArray, List.set_cons_zero, List.set_cons_succ]
      refine hidStill_step (fun K hK => ?_)
      rw [if_neg (by exact Bool.false_ne_true)]
      refine hK _ ?_
      clear hK K
      try simp only [Act.put, List.setIfInBounds_toArray, List.set_cons_zero, List.set_cons_succ]
      refine hidStill_step (fun K hK => ?_)
      rw [if_neg (by exact Bool.false_ne_true)]
      refine hK _ ?_
      clear hK K
      try simp only [Act.put, List.setIfInBounds_toArray, List.set_cons_zero, List.set_cons_succ]
      refine hidStill_step (fun K hK => ?_)
      rw [if_neg (by exact Bool.false_ne_true)]
      refine hK _ ?_
      clear hK K
      try simp only [Act.put, List.setIfInBounds_toArray, List.set_cons_zero, List.set_cons_succ]
      refine hidStill_step (fun K hK => ?_)
      rw [if_neg (by exact Bool.false_ne_true)]
      refine hK _ ?_
      clear hK K
      try simp only [Act.put, List.setIfInBounds_toArray, List.set_cons_zero, List.set_cons_succ]
      refine hidStill_step (fun K hK => ?_)
      rw [if_neg (by exact Bool.false_ne_true)]
      refine hK _ ?_
      clear hK K
      try simp only [Act.put, List.setIfInBounds_toArray, List.set_cons_zero, List.set_cons_succ]
      refine hidStill_step (fun K hK => ?_)
      rw [if_neg (by exact Bool.false_ne_true)]
      refine hK _ ?_
      clear hK K
      try simp only [Act.put, List.setIfInBounds_toArray, List.set_cons_zero, List.set_cons_succ]
      refine hidStill_step (fun K hK => ?_)
      go_simp
      refine hK _ ?_
      clear hK K
      refine hidStill_nil ?_
      obtain ⟨W2, hW2⟩ : ∃ W2, W2 = W.drew := ⟨_, rfl⟩
      rw [← hW2]
      replace HV := Lib.hid (show Boxed W2 _ _ _ by rw [hW2]; exact HV.out)
      replace HRW := Lib.hid (show W2.ownsRow _ _ _ _ _ _ by rw [hW2]; exact HRW.out)
      replace HB := Lib.hid (show Below w.heap.size w W2 by rw [hW2]; exact HB.out.drew)
      replace HX := Lib.hid (show Blk W2 _ _ _ by rw [hW2]; exact HX.out)
      have K02 := Lib.hid (show KeepsOthers W W2 by rw [hW2]; exact KeepsOthers.drew W)
      have B02 := Lib.hid (show Below n₀ W W2 by rw [hW2]; exact (Below.refl _ W).drew)
      clear hW2 hc c0 c1
      have hc := HV.out.cell
      have c0 : W2.cell? ⟨Bx, 0, none⟩ = some (.int .i64 x.fr) := HX.out.cell 0
      have c1 : W2.cell? ⟨Bx, 1, none⟩ = some (.int .i64 x.tt) := HX.out.cell 1
      gi_wp2_with (gi_at_builtin; refine wpListIn_append_own _ rfl _ _ 37 rfl w.heap.size 77 i0 _ 2 16 Tryz.underlying37 hi hz0 hz1 hz2 rfl (by decide) _ _ _ rfl (HRW.out.alloc _) ⟨W2.heap.size, 0, none⟩ 1 1 (WindowD.cells x) rfl rfl (World.news_of_block (heap_alloc_new _ _)) (window_one _) (by unfold maxLen; omega) (by omega) (by have := HB.out.size; simp; omega) ?_; intro v' w1 hown' hgrow _; obtain ⟨g', cap', rfl⟩ := ownsRow_succ hown'; obtain ⟨hv1, hv2, hr2, hk2, hb2⟩ := HV.out.appended (by decide) HRW.out HB.out.size (Nat.le_refl _) hown' hgrow; have hc1 := hv1.cell; have hf1 := hv1.frozen)
      exact ⟨(K02.out.trans hk2).from _, B02.out.trans (hb2.mono hn₀), ⟨_, hv2, by rw [EX.out]; simpa using hr2, trivial⟩, HB.out.trans hb2⟩
    · rw [hE, show (acc ++ [y]).length = acc.length + 1 by simp] at hrow
      rw [hE] at hml
      obtain ⟨g', cap, rfl⟩ : ∃ g' cap, v = .slice (some ⟨g', 0, none⟩) (acc.length + 1) cap := by
        rcases hrow.2 with ⟨rfl, h0⟩ | ⟨g', cap, cur, rfl, _⟩
        · simp at h0
        · exact ⟨g', cap, rfl⟩
      have q1 : W.cell? ⟨g', acc.length * 2 + 1, none⟩ = some (.int .i64 y.tt) := (World.ownsRow.cellAt hrow (acc.length * 2 + 1) (by omega)).trans (flat_last acc y).2
      have hgb : w.heap.size ≤ g' := (World.ownsRow.lt hrow g' rfl).1
      have hgl : g' < W.heap.size := (World.ownsRow.lt hrow g' rfl).2
      have hal : acc.length + 1 ≤ pre.length := by simpa using hml
      have hidx : (acc.length : Int) < (acc.length : Int) + 1 := by omega
      have hc := hv.cell
      have HV := Lib.hid hv
      have HRW := Lib.hid hrow
      have HB := Lib.hid hB
      have HX := Lib.hid bX
      by_cases hj : x.fr ≤ IntKind.i64.wrap (y.tt + 1)
      · have EX := Lib.hid ((mergeF_snoc pre x).trans (by rw [hE, mergeStep_join hj]))
        clear hE hl hr hv hrow hB bX hml
        gi_upto_region 5 with fail
        refine wpIn_region_still (lets_round l _ _) (by kernel_rfl) (by kernel_rfl) (by kernel_rfl) ?_
        refine hidStill_step (fun K hK => ?_)
        go_simp
        refine hK _ ?_
        clear hK K
        refine hidStill_step (fun K hK => ?_)
        go_simp
        refine hK _ ?_
        clear hK K
        refine hidStill_step (fun K hK => ?_)
        go_simp
        refine hK _ ?_
        clear hK K
        refine hidStill_step (fun K hK => ?_)
        rw [if_pos (by rfl)]
        go_simp
        refine hK _ ?_
        clear hK K
        refine hidStill_step (fun K hK => ?_)
        rw [if_pos (by rfl)]
        go_simp
        refine hK _ ?_
        clear hK K
        refine hidStill_step (fun K hK => ?_)
        rw [if_pos (by rfl)]
        go_simp
        refine hK _ ?_
        clear hK K
        refine hidStill_step (fun K hK => ?_)
        rw [if_pos (by rfl)]
        go_simp
        refine hK _ ?_
        clear hK K
        refine hidStill_step (fun K hK => ?_)
        rw [if_pos (by rfl)]
        go_simp
        refine hK _ ?_
        clear hK K
        refine hidStill_step (fun K hK => ?_)
        rw [if_pos (by rfl)]
        go_simp
        refine hK _ ?_
        clear hK K
        refine hidStill_step (fun K hK => ?_)
        rw [if_pos (by rfl)]
        go_simp
        refine hK _ ?_
        clear hK K
        refine hidStill_step (fun K hK => ?_)
        rw [if_pos (by rfl)]
        go_simp
        refine hK _ ?_
        clear hK K
        refine hidStill_step (fun K hK => ?_)
        rw [if_pos (by rfl)]
        go_simp
        refine hK _ ?_
        clear hK K
        refine hidStill_step (fun K hK => ?_)
        go_simp
        refine hK _ ?_
        clear hK K
        refine hidStill_nil ?_
        obtain ⟨W2, hW2⟩ : ∃ W2, W2 = W.drew := ⟨_, rfl⟩
        rw [← hW2]
        replace HV := Lib.hid (show Boxed W2 _ _ _ by rw [hW2]; exact HV.out)
        replace HRW := Lib.hid (show W2.ownsRow _ _ _ _ _ _ by rw [hW2]; exact HRW.out)
        replace HB := Lib.hid (show Below w.heap.size w W2 by rw [hW2]; exact HB.out.drew)
        replace HX := Lib.hid (show Blk W2 _ _ _ by rw [hW2]; exact HX.out)
        have K02 := Lib.hid (show KeepsOthers W W2 by rw [hW2]; exact KeepsOthers.drew W)
        have B02 := Lib.hid (show Below n₀ W W2 by rw [hW2]; exact (Below.refl _ W).drew)
        clear hW2 hc c0 c1
        have hc := HV.out.cell
        have c0 : W2.cell? ⟨Bx, 0, none⟩ = some (.int .i64 x.fr) := HX.out.cell 0
        have c1 : W2.cell? ⟨Bx, 1, none⟩ = some (.int .i64 x.tt) := HX.out.cell 1
        clear q1
        have q1 : W2.cell? ⟨g', acc.length * 2 + 1, none⟩ = some (.int .i64 y.tt) := (World.ownsRow.cellAt HRW.out (acc.length * 2 + 1) (by omega)).trans (flat_last acc y).2
        gi_upto_region 6 with fail
        refine wpIn_region_still_tail (lets_round l _ _) 12 (by kernel_rfl) (by kernel_rfl) (by kernel_rfl) ?_
        simp only [List.take_succ_cons, List.take_zero, List.drop_succ_cons, List.drop_zero]
        refine hidStill_step (fun K hK => ?_)
        go_simp
        refine hK _ ?_
        clear hK K
        refine hidStill_step (fun K hK => ?_)
        go_simp
        refine hK _ ?_
        clear hK K
        refine hidStill_step (fun K hK => ?_)
        go_simp
        refine hK _ ?_
        clear hK K
        refine hidStill_step (fun K hK => ?_)
        go_simp
        refine hK _ ?_
        clear hK K
        refine hidStill_step (fun K hK => ?_)
        go_simp
        refine hK _ ?_
        clear hK K
        refine hidStill_step (fun K hK => ?_)
        go_simp
        refine hK _ ?_
        clear hK K
        refine hidStill_step (fun K hK => ?_)
        go_simp
        refine hK _ ?_
        clear hK K
        refine hidStill_step (fun K hK => ?_)
        go_simp
        refine hK _ ?_
        clear hK K
        refine hidStill_step (fun K hK => ?_)
        go_simp
        refine hK _ ?_
        clear hK K
        refine hidStill_step (fun K hK => ?_)
        go_simp
        refine hK _ ?_
        clear hK K
        refine hidStill_step (fun K hK => ?_)
        go_simp
        refine hK _ ?_
        clear hK K
        refine hidStill_step (fun K hK => ?_)
        go_simp
        refine hK _ ?_
        clear hK K
        refine hidStill_nil ?_
        rw [show (if y.tt < x.tt then x.tt else y.tt) = max y.tt x.tt by split <;> omega]
        obtain ⟨M, hM⟩ : ∃ M, max y.tt x.tt = M := ⟨_, rfl⟩
        rw [hM] at EX ⊢
        clear hM
        obtain ⟨W3, hW3⟩ : ∃ W3, W3 = W2.drew := ⟨_, rfl⟩
        rw [← hW3]
        replace HV := Lib.hid (show Boxed W3 _ _ _ by rw [hW3]; exact HV.out)
        replace HRW := Lib.hid (show W3.ownsRow _ _ _ _ _ _ by rw [hW3]; exact HRW.out)
        replace HB := Lib.hid (show Below w.heap.size w W3 by rw [hW3]; exact HB.out.drew)
        replace K02 := Lib.hid (show KeepsOthers W W3 by rw [hW3]; exact K02.out.trans (KeepsOthers.drew W2))
        replace B02 := Lib.hid (show Below n₀ W W3 by rw [hW3]; exact B02.out.drew)
        clear hW3 hc c0 c1 q1 HX
        have q3 : W3.cell? ⟨g', acc.length * 2 + 1, none⟩ = some (.int .i64 y.tt) := (World.ownsRow.cellAt HRW.out (acc.length * 2 + 1) (by omega)).trans (flat_last acc y).2
        have f3 : W3.frozen? ⟨g', acc.length * 2 + 1, none⟩ = false := World.ownsRow.frozenAt HRW.out _
        have hne : w.heap.size ≠ g' := fun e => HV.out.not_row (by decide) HRW.out (by rw [e]; rfl)
        have hst := (World.ownsRow.stored HRW.out (acc.length * 2 + 1) (.int .i64 M)).1
        rw [flat_set] at hst
        have HST := Lib.hid hst
        have HV3 := Lib.hid (show Boxed (W3.setCell ⟨g', acc.length * 2 + 1, none⟩ (.int .i64 M)) w.heap.size _ _ from (Below.heap_setCell W3 ⟨g', acc.length * 2 + 1, none⟩ (.int .i64 M) w.heap.size hne).trans HV.out)
        clear hst
        gi_wp2
        exact ⟨(K02.out.trans (KeepsOthers.setCell _ _ _)).from _, B02.out.setCell (p := ⟨g', acc.length * 2 + 1, none⟩) (Nat.le_trans hn₀ hgb) _, ⟨_, HV3.out, by rw [EX.out, show (acc ++ [(⟨y.fr, M⟩ : WindowD)]).length = acc.length + 1 by simp]; exact HST.out, trivial⟩, HB.out.setCell (p := ⟨g', acc.length * 2 + 1, none⟩) hgb _⟩
      · have EX := Lib.hid ((mergeF_snoc pre x).trans (by rw [hE, mergeStep_apart hj]))
        clear hE hl hr hv hrow hB bX hml
        gi_upto_region 5 with fail
        refine wpIn_region_still (lets_round l _ _) (by kernel_rfl) (by kernel_rfl) (by kernel_rfl) ?_
        refine hidStill_step (fun K hK => ?_)
        go_simp
        refine hK _ ?_
        clear hK K
        refine hidStill_step (fun K hK => ?_)
        go_simp
        refine hK _ ?_
        clear hK K
        refine hidStill_step (fun K hK => ?_)
        go_simp
        refine hK _ ?_
        clear hK K
        refine hidStill_step (fun K hK => ?_)
        rw [if_pos (by rfl)]
        go_simp
        refine hK _ ?_
        clear hK K
        refine hidStill_step (fun K hK => ?_)
        rw [if_pos (by rfl)]
        go_simp
        refine hK _ ?_
        clear hK K
        refine hidStill_step (fun K hK => ?_)
        rw [if_pos (by rfl)]
        go_simp
        refine hK _ ?_
        clear hK K
        refine hidStill_step (fun K hK => ?_)
        rw [if_pos (by rfl)]
        go_simp
        refine hK _ ?_
        clear hK K
        refine hidStill_step (fun K hK => ?_)
        rw [if_pos (by rfl)]
        go_simp
        refine hK _ ?_
        clear hK K
        refine hidStill_step (fun K hK => ?_)
        rw [if_pos (by rfl)]
        go_simp
        refine hK _ ?_
        clear hK K
        refine hidStill_step (fun K hK => ?_)
        rw [if_pos (by rfl)]
        go_simp
        refine hK _ ?_
        clear hK K
        refine hidStill_step (fun K hK => ?_)
        rw [if_pos (by rfl)]
        go_simp
        refine hK _ ?_
        clear hK K
        refine hidStill_step (fun K hK => ?_)
        rw [if_pos (by rfl)]
        go_simp
        refine hK _ ?_
        clear hK K
        refine hidStill_step (fun K hK => ?_)
        go_simp
        refine hK _ ?_
        clear hK K
        refine hidStill_nil ?_
        obtain ⟨W2, hW2⟩ : ∃ W2, W2 = W.drew := ⟨_, rfl⟩
        rw [← hW2]
        replace HV := Lib.hid (show Boxed W2 _ _ _ by rw [hW2]; exact HV.out)
        replace HRW := Lib.hid (show W2.ownsRow _ _ _ _ _ _ by rw [hW2]; exact HRW.out)
        replace HB := Lib.hid (show Below w.heap.size w W2 by rw [hW2]; exact HB.out.drew)
        replace HX := Lib.hid (show Blk W2 _ _ _ by rw [hW2]; exact HX.out)
        have K02 := Lib.hid (show KeepsOthers W W2 by rw [hW2]; exact KeepsOthers.drew W)
        have B02 := Lib.hid (show Below n₀ W W2 by rw [hW2]; exact (Below.refl _ W).drew)
        clear hW2 hc c0 c1
        have hc := HV.out.cell
        have c0 : W2.cell? ⟨Bx, 0, none⟩ = some (.int .i64 x.fr) := HX.out.cell 0
        have c1 : W2.cell? ⟨Bx, 1, none⟩ = some (.int .i64 x.tt) := HX.out.cell 1
        gi_wp2_with (gi_at_builtin; refine wpListIn_append_own _ rfl _ _ 37 rfl w.heap.size 77 i0 _ 2 16 Tryz.underlying37 hi hz0 hz1 hz2 rfl (by decide) _ _ _ rfl (HRW.out.alloc _) ⟨W2.heap.size, 0, none⟩ 1 1 (WindowD.cells x) rfl rfl (World.news_of_block (heap_alloc_new _ _)) (window_one _) (by unfold maxLen; omega) (by omega) (by have := HB.out.size; simp; omega) ?_; intro v' w1 hown' hgrow _; obtain ⟨g', cap', rfl⟩ := ownsRow_succ hown'; obtain ⟨hv1, hv2, hr2, hk2, hb2⟩ := HV.out.appended (by decide) HRW.out HB.out.size (Nat.le_refl _) hown' hgrow; have hc1 := hv1.cell; have hf1 := hv1.frozen)
        exact ⟨(K02.out.trans hk2).from _, B02.out.trans (hb2.mono hn₀), ⟨_, hv2, by rw [EX.out, flat_snoc, show (acc ++ [y] ++ [x]).length = acc.length + 1 + 1 by simp]; exact hr2⟩, HB.out.trans hb2⟩
  case done =>
    rintro D ys W hD rfl ⟨⟨v, hv, hrow, _⟩, hB⟩ hK
    have hc := hv.cell
    gi_wp2
    refine ⟨by simp, .inl ⟨_, _, rfl, run_takeDeferred hK, ?_⟩⟩
    exact ⟨_, results_tmp rfl _ _ _, v, rfl, ownsRow_putObj hrow _ hK rfl, hB.trans (belowK_b (w := w) (Nat.le_refl _) W D _ _ (by simp at hD; omega) hK rfl rfl)⟩
  case stop =>
    rintro D c pre W _ _ h _
    exact h.elim
end Go.Proofs.YtpimcbhjkednpaaGreat
namespace Go.Proofs.YtpimcbhjkednpaaGreat
open Go.RowKit
section
variable {P : Program} {ops : Array Oper} {md : Region.Mode} {F : Fence} {n : Nat} {Q : Exit → Act → World → Prop} {S : World → Prop}
theorem yieldsIf_opIn (L : Lets F n P) (hd : noDefer ops = true) {i : Nat} {o : Oper} {v : Value} {a : Act} (hi : ops[i]? = some o) (hy : YieldsIf P ops S o v a)
    {K : Act → World → Prop} {w : World} (hS : S w) (h : K (a.put o.dst v) w) : wpOpIn F n P ops Q i K a w := by
  unfold Go.wpOpIn
  simp only [hi]
  rcases hy with ⟨hw, hv⟩ | ⟨hw, rfl⟩
  · simp only [hw, if_true, Oper.wpIn]
    refine ⟨fun f _ => L.fn f, ?_⟩
    rw [Oper.semAt_eq _ _ _ (noDefer_at hd hi), hv w hS]
    exact h
  · simp only [hw, Bool.false_eq_true, if_false]; exact ⟨fun f _ => L.fn f, h⟩
theorem opIn_putIf (L : Lets F n P) (hd : noDefer ops = true) {j : Nat} {oi oj : Oper} {v : Value} (hj : ops[j]? = some oj) (hap : oi.apart ops oj = true)
    (hsi : ∀ cs b, oi.op ≠ .select cs b) (hsj : ∀ cs b, oj.op ≠ .select cs b)
    (hQ : ∀ c a w, Q (.panic c) (a.put oi.dst v) w → Q (.panic c) a w) {K : Act → World → Prop} {a : Act} {w : World}
    (hy : YieldsIf P ops S oi v a) (h : wpOpIn F n P ops Q j K (a.put oi.dst v) w) :
    wpOpIn F n P ops Q j (fun a' w' => YieldsIf P ops S oi v a' ∧ K (a'.put oi.dst v) w') a w := by
  obtain ⟨h1, h2, h3⟩ := Oper.apart_spec hap
  have hnd := noDefer_at hd hj
  have keep : ∀ (a : Act), YieldsIf P ops S oi v a → ∀ u, YieldsIf P ops S oi v (a.put oj.dst u) := fun a hy u =>
    hy.of_same (execOp_put oi hsi a oj.dst u h3) (wanted_put oi a oj.dst u h3)
  have keepD : ∀ d, YieldsIf P ops S oi v { a with defers := d :: a.defers } := fun d => hy.of_same rfl rfl
  unfold wpOpIn at *
  simp only [hj] at *
  rw [wanted_put oj a oi.dst v h1] at h
  split
  · rename_i hw
    simp only [hw, if_true] at h
    unfold Oper.wpIn at *
    refine ⟨fun f _ => L.fn f, ?_⟩
    have h := h.2
    rw [Oper.semAt_eq _ _ _ hnd, execOp_put oj hsj a oi.dst v h1] at h
    rw [Oper.semAt_eq _ _ _ hnd]
    generalize (execOp a.eval oj).run P w = r at *
    cases r with
    | ok x w' =>
      cases x <;> simp only [Oper.uponIn] at h ⊢
      case value u => exact ⟨keep a hy u, by rw [← Act.put_comm a v u h2]; exact h⟩
      case skip => exact ⟨keep a hy _, by rw [← Act.put_comm a v undef h2]; exact h⟩
      case defer d =>
        refine ⟨keep _ (keepD d) _, ?_⟩
        rw [← Act.put_comm _ v undef h2, ← Act.put_defers]
        exact h
      case enter f args =>
        refine ⟨h.1, CallsIn.mono h.2 fun e w'' he => ?_⟩
        cases e with
        | returned u => exact ⟨keep a hy u, by rw [← Act.put_comm a v u h2]; exact he⟩
        | panicked c => exact hQ _ _ _ he
        | outgrown => exact he
      case row row args => exact ⟨h.1, RowsIn.mono h.2 fun u w'' he => ⟨keep a hy u, by rw [← Act.put_comm a v u h2]; exact he⟩⟩
      case round l f tmps assign body =>
        refine ⟨h.1, RoundIn.mono h.2 fun e w'' he => ?_⟩
        cases e with
        | returned u => exact ⟨keep a hy u, by rw [← Act.put_comm a v u h2]; exact he⟩
        | panicked c => exact hQ _ _ _ he
        | outgrown => exact he
    | halt x w' =>
      cases x <;> simp only [Oper.uponIn] at h ⊢
      case panic u => exact hQ _ _ _ h
  · rename_i hw
    simp only [hw] at h
    exact ⟨fun f _ => L.fn f, keep a hy _, by rw [← Act.put_comm a v undef h2]; exact h.2⟩
/-- Only the way straight on. -/
def onlyN (K : Act → World → Prop) : Exit → Act → World → Prop
  | .normal, a, w => K a w
  | _, _, _ => False
end
end Go.Proofs.YtpimcbhjkednpaaGreat
namespace Go.Proofs.YtpimcbhjkednpaaGreat
open Go.ChangeShapes Go.WideShapes Go.ChangeAt Go.Deep Go.RowKit
set_option maxRecDepth 100000
structure SurgeD where
  fr : Int
  lo : Int
  hi : Int
@[reducible] def SurgeD.val (d : SurgeD) : Value := .agg #[.int .i64 d.fr, .int .i64 d.lo, .int .i64 d.hi]
@[reducible] def SurgeD.cells (d : SurgeD) : List Value := [.int .i64 d.fr, .int .i64 d.lo, .int .i64 d.hi]
theorem surgeLen (d : SurgeD) : d.cells.length = 3 := rfl
def SlSurge : World → Value → List SurgeD → Prop := SlOf 3 SurgeD.cells
def OwnSurge : World → Nat → Value → List SurgeD → Prop := OwnOf 3 SurgeD.cells 102
def NewSurge : List SurgeD → World → Ending → World → Prop := NewOf 3 SurgeD.cells 102
theorem SlSurge.at {w : World} {v : Value} {l : List SurgeD} (h : SlSurge w v l) : ∃ A c, v = .slice A l.length c := SlOf.form h
theorem SlSurge.below {w w' : World} {v : Value} {l : List SurgeD} (h : SlSurge w v l) (hb : Below w.heap.size w w') : SlSurge w' v l := SlOf.below h hb
theorem OwnSurge.sl {w : World} {base : Nat} {v : Value} {l : List SurgeD} (h : OwnSurge w base v l) (hl : l.length ≤ 1000000000) : SlSurge w v l := own_sl surgeLen h hl
theorem SlSurge.cells {w : World} {l : List SurgeD} {g o : Nat} (hc : ∀ i x, l[i]? = some x → ∀ j u, (SurgeD.cells x)[j]? = some u → w.cell? ⟨g, o + i * 3 + j, none⟩ = some u) (i : Nat) (x : SurgeD) (hx : l[i]? = some x) :
    w.cell? ⟨g, o + i * 3, none⟩ = some (.int .i64 x.fr) ∧ w.cell? ⟨g, o + i * 3 + 1, none⟩ = some (.int .i64 x.lo) ∧ w.cell? ⟨g, o + i * 3 + 2, none⟩ = some (.int .i64 x.hi) :=
  ⟨hc i x hx 0 _ rfl, hc i x hx 1 _ rfl, hc i x hx 2 _ rfl⟩
def zeroSurge : List Value := [.int .i64 0, .int .i64 0, .int .i64 0]
theorem info_surge : (Tryz.prog.info? 102).map (fun i => (i.zero, i.size, i.bytes)) = some (some (.agg #[.int .i64 0, .int .i64 0, .int .i64 0]), 3, 24) := by kernel_rfl
theorem make_surges (n : Nat) (hn : n ≤ 1000000000) (W : World) :
    (Instr.makeSlice 42 (.int .i64 (n : Int)) (.int .i64 (n : Int))).run Tryz.prog W = .ok (.slice (some ⟨W.heap.size, 0, none⟩) n n) (W.alloc (.cells (madeCells #[.int .i64 0, .int .i64 0, .int .i64 0] (n * 3)) 102)) := by
  obtain ⟨i0, hi, hz0, hz1, hz2⟩ := info_parts info_surge
  have hr := run_make (P := Tryz.prog) W 42 102 i0 _ Tryz.underlying42 hi hz0 .i64 .i64 n n (by omega) (Int.le_refl _) (by rw [hz2]; omega) (by omega)
  simp only [Int.toNat_natCast, hz1] at hr
  exact hr
theorem toSurge_any (fr lo hi : Int) (w : World) : Calls Tryz.prog 68 #[.agg #[.int .i64 fr, .int .i64 lo, .int .i64 hi]] w fun e w' => e = .returned (.agg #[.int .i64 fr, .int .i64 lo, .int .i64 hi]) ∧ Below w.heap.size w w' := by
  go_enter Tryz.func68, Tryz.ntmps68
  go_wp2
  refine bodyPost_ret (v := .agg #[.int .i64 fr, .int .i64 lo, .int .i64 hi]) (by simp [results, Tryz.results68, go_sem]) rfl ⟨rfl, ?_⟩
  repeat (first | exact Below.refl _ _ | refine Below.setCell ?_ (by simp <;> omega) _ | refine Below.alloc ?_ (by simp <;> omega) _)
theorem eqSurge_same (fr lo hi : Int) (w : World) : Calls Tryz.prog 77 #[.agg #[.int .i64 fr, .int .i64 lo, .int .i64 hi], .agg #[.int .i64 fr, .int .i64 lo, .int .i64 hi]] w fun e w' => e = .returned (.bool true) ∧ Below w.heap.size w w' := by
  go_enter Tryz.func77, Tryz.ntmps77
  go_wp2
  go_ret
  exact ⟨rfl, Joins.below_alloc2 _ _ _⟩
set_option maxHeartbeats 1000000 in
theorem toSurgeS_any (v : Value) (l : List SurgeD) (w : World) (h : SlSurge w v l) :
    Calls Tryz.prog 37 #[v] w (NewSurge l w) := by
  obtain ⟨hl, h⟩ := h
  have hmk := make_surges l.length hl
  rcases h with ⟨rfl, A, c, rfl⟩ | ⟨g, o, c, rfl, hp, hcap, hc⟩
  · have hmk0 : ∀ W : World, (Instr.makeSlice 42 (.int .i64 0) (.int .i64 0)).run Tryz.prog W = .ok (.slice (some ⟨W.heap.size, 0, none⟩) 0 0) (W.alloc (.cells (madeCells #[.int .i64 0, .int .i64 0, .int .i64 0] (0 * 3)) 102)) := make_surges 0 (by omega)
    clear hmk
    go_enter Tryz.func37, Tryz.ntmps37
    go_wp2
    refine wp_loop_rounds 1 ?_
    rw [rounds_succ]
    go_wp2
    go_ret
    have h := World.ownsRow_lit (base := w.heap.size) (e := 102) (size := 3) w (madeCells #[.int .i64 0, .int .i64 0, .int .i64 0] (0 * 3)) 0 (Nat.le_refl _) (by decide) (by rw [size_madeCells])
    rw [show (madeCells #[Value.int .i64 0, .int .i64 0, .int .i64 0] (0 * 3)).toList = [] by simp [madeCells]] at h
    exact ⟨_, rfl, h, (Below.refl _ _).alloc (Nat.le_refl _) _⟩
  · have HC := Lib.hid hc
    clear hc
    go_enter Tryz.func37, Tryz.ntmps37
    go_wp2
    clear hmk
    go_loopw [4] (fun i wr => ∃ k : Nat, k ≤ l.length ∧ i = .int .i64 k ∧ Hid (wr.ownsRow w.heap.size 102 3 (.slice (some ⟨w.heap.size, 0, none⟩) l.length l.length) l.length (halfOf SurgeD.cells zeroSurge l k)) ∧ Below w.heap.size w wr) (fun i _ => l.length - (intOf i).toNat)
    case atStart =>
      refine ⟨0, Nat.zero_le _, rfl, ?_, (Below.refl _ _).alloc (Nat.le_refl _) _⟩
      have h := World.ownsRow_lit (base := w.heap.size) (e := 102) (size := 3) w (madeCells #[.int .i64 0, .int .i64 0, .int .i64 0] (l.length * 3)) l.length (Nat.le_refl _) (by unfold maxLen; omega) (by rw [size_madeCells])
      have e := made_flat #[.int .i64 0, .int .i64 0, .int .i64 0] l.length
      rw [half_none]
      exact Lib.hid (e ▸ h)
    case round =>
      obtain ⟨k, hk, rfl, hown, hb⟩ := hrel
      by_cases hlt : k < l.length
      · obtain ⟨x, hx⟩ : ∃ x, l[k]? = some x := ⟨_, List.getElem?_eq_getElem hlt⟩
        obtain ⟨q0, q1, q2⟩ := SlSurge.cells HC.out k x hx
        have hlt2 : g < w.heap.size := World.block_lt_of_cell? w ⟨g, o + k * 3, none⟩ q0
        have c0 := (hb.cell (p := ⟨g, o + k * 3, none⟩) hlt2).trans q0
        have c1 := (hb.cell (p := ⟨g, o + k * 3 + 1, none⟩) hlt2).trans q1
        have c2 := (hb.cell (p := ⟨g, o + k * 3 + 2, none⟩) hlt2).trans q2
        have Hx := Lib.hid hx
        clear q0 q1 q2 hx
        go_wp2_with fail
        refine (toSurge_any _ _ _ _).mono ?_
        rintro e w1 ⟨rfl, hb1⟩
        have own1 := ownsRow_below hown.out hb1
        have B1 : Below w.heap.size w w1 := hb.trans (hb1.mono hb.size)
        have s0 : w1.cell? ⟨w.heap.size, k * 3, none⟩ = some (.int .i64 0) := (World.ownsRow.cellAt own1 (k * 3) (by omega)).trans (half_at surgeLen l k hlt 0 _ rfl)
        have s1 : w1.cell? ⟨w.heap.size, k * 3 + 1, none⟩ = some (.int .i64 0) := (World.ownsRow.cellAt own1 (k * 3 + 1) (by omega)).trans (half_at surgeLen l k hlt 1 _ rfl)
        have s2 : w1.cell? ⟨w.heap.size, k * 3 + 2, none⟩ = some (.int .i64 0) := (World.ownsRow.cellAt own1 (k * 3 + 2) (by omega)).trans (half_at surgeLen l k hlt 2 _ rfl)
        have z0 : w1.frozen? ⟨w.heap.size, k * 3, none⟩ = false := World.ownsRow.frozenAt own1 _
        have z1 : w1.frozen? ⟨w.heap.size, k * 3 + 1, none⟩ = false := World.ownsRow.frozenAt own1 _
        have z2 : w1.frozen? ⟨w.heap.size, k * 3 + 2, none⟩ = false := World.ownsRow.frozenAt own1 _
        have hst := (World.ownsRow.stored (World.ownsRow.stored (World.ownsRow.stored own1 (k * 3) (.int .i64 x.fr)).1 (k * 3 + 1) (.int .i64 x.lo)).1 (k * 3 + 2) (.int .i64 x.hi)).1
        have e := half_set surgeLen (zc := zeroSurge) rfl l k x Hx.out
        have HO := Lib.hid ((show ((((halfOf SurgeD.cells zeroSurge l k).set (k * 3) (.int .i64 x.fr)).set (k * 3 + 1) (.int .i64 x.lo)).set (k * 3 + 2) (.int .i64 x.hi)) = halfOf SurgeD.cells zeroSurge l (k + 1) from e) ▸ hst)
        have HB := Lib.hid (((B1.setCell (p := ⟨w.heap.size, k * 3, none⟩) (Nat.le_refl _) (.int .i64 x.fr)).setCell (p := ⟨w.heap.size, k * 3 + 1, none⟩) (Nat.le_refl _) (.int .i64 x.lo)).setCell (p := ⟨w.heap.size, k * 3 + 2, none⟩) (Nat.le_refl _) (.int .i64 x.hi))
        clear own1 hst e hb1 B1
        go_wp2
        go_roundw
        case rel => exact ⟨k + 1, by omega, by go_num, HO, HB.out⟩
        case measure => simp [intOf]; omega
      · go_wp2
        go_ret
        obtain rfl : k = l.length := by omega
        have ho := hown.out
        rw [half_full] at ho
        exact ⟨_, rfl, ho, hb⟩
theorem szSurgeS_any (A : Option Addr) (n c : Nat) (w : World) (hn : n ≤ 9223372036854775807) (lim : Int) (h0 : 0 ≤ lim) (h1 : lim ≤ 1048576) :
    Calls Tryz.prog 32 #[.slice A n c, .int .i64 lim] w fun e w' => e = .returned (.int .i64 (if lim < (n : Int) then -1 else lim - (n : Int))) ∧ w = w' := by
  by_cases hlt : lim < (n : Int)
  · go_enter Tryz.func32, Tryz.ntmps32
    go_wp2
    go_ret
    exact ⟨rfl, rfl⟩
  · go_enter Tryz.func32, Tryz.ntmps32
    go_wp2
    go_ret
    exact ⟨rfl, rfl⟩
set_option maxHeartbeats 1000000 in
theorem eqSurgeS_same (va vb : Value) (l : List SurgeD) (w : World) (ha : SlSurge w va l) (hb : SlSurge w vb l) :
    Calls Tryz.prog 44 #[va, vb] w fun e w' => e = .returned (.bool true) ∧ Below w.heap.size w w' := by
  obtain ⟨hl, ha⟩ := ha
  obtain ⟨_, hb⟩ := hb
  rcases ha with ⟨rfl, A, c, rfl⟩ | ⟨g, o, c, rfl, hp, _, hca⟩
  · rcases hb with ⟨_, A', c', rfl⟩ | ⟨g', o', c', rfl, hp, _, _⟩
    · go_enter Tryz.func44, Tryz.ntmps44
      go_wp2
      refine wp_loop_rounds 1 ?_
      rw [rounds_succ]
      go_wp2
      go_ret
      exact ⟨rfl, Below.refl _ _⟩
    · exact absurd hp (by simp)
  · rcases hb with ⟨rfl, A', c', rfl⟩ | ⟨g', o', c', rfl, _, _, hcb⟩
    · exact absurd hp (by simp)
    · have HA := Lib.hid hca
      have HB := Lib.hid hcb
      clear hca hcb
      go_enter Tryz.func44, Tryz.ntmps44
      go_wp2
      go_loopw [5] (fun i wr => ∃ k : Nat, k ≤ l.length ∧ i = .int .i64 k ∧ Below w.heap.size w wr) (fun i _ => l.length - (intOf i).toNat)
      case atStart => exact ⟨0, Nat.zero_le _, rfl, Below.refl _ _⟩
      case round =>
        obtain ⟨k, hk, rfl, hb⟩ := hrel
        by_cases hlt : k < l.length
        · obtain ⟨x, hx⟩ : ∃ x, l[k]? = some x := ⟨_, List.getElem?_eq_getElem hlt⟩
          obtain ⟨p0, p1, p2⟩ := SlSurge.cells HA.out k x hx
          obtain ⟨q0, q1, q2⟩ := SlSurge.cells HB.out k x hx
          have hg : g < w.heap.size := World.block_lt_of_cell? w ⟨g, o + k * 3, none⟩ p0
          have hg' : g' < w.heap.size := World.block_lt_of_cell? w ⟨g', o' + k * 3, none⟩ q0
          have a0 := (hb.cell (p := ⟨g, o + k * 3, none⟩) hg).trans p0
          have a1 := (hb.cell (p := ⟨g, o + k * 3 + 1, none⟩) hg).trans p1
          have a2 := (hb.cell (p := ⟨g, o + k * 3 + 2, none⟩) hg).trans p2
          have b0 := (hb.cell (p := ⟨g', o' + k * 3, none⟩) hg').trans q0
          have b1 := (hb.cell (p := ⟨g', o' + k * 3 + 1, none⟩) hg').trans q1
          have b2 := (hb.cell (p := ⟨g', o' + k * 3 + 2, none⟩) hg').trans q2
          have hbs := hb.size
          clear p0 q0 p1 q1 p2 q2 hx
          go_wp2
          go_still_tail 8, (by kernel_rfl)
          change wpList _ _ _ _ _ wr.drew
          have hd := hb.drew
          generalize wr.drew = w2 at hd ⊢
          have hds := hd.size
          clear a0 b0 a1 b1 a2 b2 hb hbs
          go_wp2_with fail
          refine (eqSurge_same _ _ _ _).mono ?_
          rintro e w3 ⟨rfl, hb3⟩
          have B3 := Lib.hid (hd.trans (hb3.mono hds))
          clear hb3 hd hds
          go_wp2
          go_roundw
          case rel => exact ⟨k + 1, by omega, by go_num, B3.out⟩
          case measure => simp [intOf]; omega
        · go_wp2
          go_ret
          exact ⟨rfl, hb⟩
set_option maxHeartbeats 1000000 in
theorem markSurgeS_any (v : Value) (l : List SurgeD) (k : Int) (w : World) (h : SlSurge w v l) (hfz : ∀ g, v.ownBlock = some g → ∀ j, w.frozen? ⟨g, j, none⟩ = false) (h0 : 0 ≤ k) (h1 : k ≤ 100000000) (h2 : l.length ≤ 10000000) :
    Calls Tryz.prog 48 #[v, .int .i64 k] w fun e w' => e = .returned (.int .i64 (k + (l.length : Int) * 3)) ∧ Marked w' v (l.length * 3) k ∧ w.grownBy w' v.ownBlock := by
  obtain ⟨hl, h⟩ := h
  rcases h with ⟨rfl, A, c, rfl⟩ | ⟨g, o, c, rfl, hp, hcap, hc⟩
  · go_enter Tryz.func48, Tryz.ntmps48
    go_wp2
    refine wp_loop_rounds 1 ?_
    rw [rounds_succ]
    go_wp2
    go_ret
    exact ⟨ret_int (by simp), .inl (by simp), World.grownBy.refl _ _⟩
  · have hs : MarkRow w g o (l.length * 3) k (0 * 3) w := MarkRow.start (ints_of (fun x : SurgeD => [x.fr, x.lo, x.hi]) (fun x => rfl) (by omega) surgeLen hc) (fun j => hfz g rfl j)
    have HS := Lib.hid hs
    clear hs hc hfz
    go_enter Tryz.func48, Tryz.ntmps48
    go_wp2
    go_loopw [1, 5] (fun q i wr => ∃ j : Nat, j ≤ l.length ∧ i = .int .i64 j ∧ q = .int .i64 (k + (j : Int) * 3) ∧ Hid (MarkRow w g o (l.length * 3) k (j * 3) wr)) (fun _ i _ => l.length - (intOf i).toNat)
    case atStart => exact ⟨0, Nat.zero_le _, rfl, by simp, HS⟩
    case round =>
      obtain ⟨j, hj, rfl, rfl, hM⟩ := hrel
      by_cases hlt : j < l.length
      · have fz := hM.out.2.2.2
        obtain ⟨x0, c0⟩ := hM.out.read (j * 3 + 0) (by omega) (by omega) (o + j * 3) (by omega)
        have f0 := fz (o + j * 3)
        have M0 := hM.out.next' (by omega) (o + j * 3) (by omega) (k + (j : Int) * 3) (by omega) (j * 3 + 1) rfl
        obtain ⟨x1, c1⟩ := hM.out.read (j * 3 + 1) (by omega) (by omega) (o + j * 3 + 1) (by omega)
        have f1 := fz (o + j * 3 + 1)
        have M1 := M0.next' (by omega) (o + j * 3 + 1) (by omega) (k + (j : Int) * 3 + 1) (by omega) (j * 3 + 2) rfl
        obtain ⟨x2, c2⟩ := hM.out.read (j * 3 + 2) (by omega) (by omega) (o + j * 3 + 2) (by omega)
        have f2 := fz (o + j * 3 + 2)
        have M2 := M1.next' (by omega) (o + j * 3 + 2) (by omega) (k + (j : Int) * 3 + 1 + 1) (by omega) (j * 3 + 3) rfl
        have HM := Lib.hid M2
        clear fz M0 M1 M2
        go_wp2
        go_roundw
        case rel =>
          refine ⟨j + 1, by omega, by go_num, ?_, ?_⟩
          · congr 1; omega
          · rw [show (j + 1) * 3 = j * 3 + 3 by omega]; exact HM
        case measure => simp [intOf]; omega
      · go_wp2
        go_ret
        obtain rfl : j = l.length := by omega
        exact ⟨rfl, .inr ⟨g, o, l.length, c, rfl, hM.out.2.1⟩, hM.out.1⟩
section
variable {H : Type} {enc : TypeId × Value → H} {w : World} {base : Nat} {spare : Nat → Bool} {held : Bool}
def SurgeD.wf (d : SurgeD) : Prop := (Lit.int .i64 d.fr).wf = true ∧ (Lit.int .i64 d.lo).wf = true ∧ (Lit.int .i64 d.hi).wf = true
theorem dec_surge (n : Nat) (cs : List Value) (y : DataW H × List MemPlace) (h : DataW.trod enc Tryz.prog w base spare held n 104 cs = some y) : ∃ d : SurgeD, cs = d.cells ∧ d.wf := by
  obtain ⟨hl, hf⟩ := struct_cells Tryz.underlying104 (by kernel_rfl) (by kernel_rfl) h
  obtain ⟨v0, n0, y0, e0, h0⟩ := hf 0 _ rfl
  obtain ⟨v1, n1, y1, e1, h1⟩ := hf 1 _ rfl
  obtain ⟨v2, n2, y2, e2, h2⟩ := hf 2 _ rfl
  obtain ⟨a0, ha0, _, wa0⟩ := DataW.trod_int Tryz.underlying3 h0
  obtain ⟨a1, ha1, _, wa1⟩ := DataW.trod_int Tryz.underlying3 h1
  obtain ⟨a2, ha2, _, wa2⟩ := DataW.trod_int Tryz.underlying3 h2
  simp only [List.cons.injEq, and_true] at ha0 ha1 ha2
  subst ha0 ha1 ha2
  refine ⟨⟨a0, a1, a2⟩, ?_, wa0, wa1, wa2⟩
  match cs, hl with
  | [c0, c1, c2], _ =>
    simp at e0 e1 e2
    subst e0 e1 e2
    rfl
theorem open_surges {fuel : Nat} {v : Value} {x : DataW H × List MemPlace} (h : DataW.trod enc Tryz.prog w base (fun _ => true) held fuel 25 [v] = some x) :
    ∃ A c l, v = .slice A l.length c ∧ l.length ≤ maxLen ∧ (l.length ≤ 1000000000 → SlSurge w (.slice A l.length c) l) ∧ ∀ d ∈ l, SurgeD.wf d :=
  open_elems SurgeD.cells 3 SurgeD.wf Tryz.underlying25 (by kernel_rfl) surgeLen (by omega) dec_surge h
end
end Go.Proofs.YtpimcbhjkednpaaGreat
namespace Go.Proofs.YtpimcbhjkednpaaGreat
open Go.RowKit
set_option maxRecDepth 100000
def surgeB (d : SurgeD) : Bool := decide (0 ≤ d.fr ∧ d.fr ≤ 2880 ∧ -500 ≤ d.lo ∧ d.lo ≤ d.hi ∧ d.hi ≤ 500)
theorem surgeB_mk {d : SurgeD} (h : 0 ≤ d.fr ∧ d.fr ≤ 2880 ∧ -500 ≤ d.lo ∧ d.lo ≤ d.hi ∧ d.hi ≤ 500) : surgeB d = true := decide_eq_true h
theorem surgeB_no {d : SurgeD} (h : ¬ (0 ≤ d.fr ∧ d.fr ≤ 2880 ∧ -500 ≤ d.lo ∧ d.lo ≤ d.hi ∧ d.hi ≤ 500)) : surgeB d = false := decide_eq_false h
theorem surgeB_true {d : SurgeD} (h : surgeB d = true) : 0 ≤ d.fr ∧ d.fr ≤ 2880 ∧ -500 ≤ d.lo ∧ d.lo ≤ d.hi ∧ d.hi ≤ 500 := of_decide_eq_true h
theorem implSurgeOk (d : SurgeD) (w : World) : Calls Tryz.prog 124 #[d.val] w fun e w' => e = .returned (.bool (surgeB d)) ∧ Below w.heap.size w w' := by
  obtain ⟨f, a, b⟩ := d
  by_cases h0 : 0 ≤ f ∧ f ≤ 2880
  · have E0 := Lib.hid (inB_mk h0.1 h0.2)
    by_cases h1 : -500 ≤ a
    · by_cases h2 : a ≤ b
      · by_cases h3 : b ≤ 500
        · have H := Lib.hid (surgeB_mk (d := ⟨f, a, b⟩) ⟨h0.1, h0.2, h1, h2, h3⟩)
          clear h0
          go_enter Tryz.func124, Tryz.ntmps124
          go_wp2_with fail
          refine (isMinute_any _ _).mono ?_
          rintro e w1 ⟨rfl, rfl⟩
          rw [E0.out]
          go_wp2
          go_ret
          exact ⟨ret_bool H.out.symm, Joins.below_alloc1 _ _⟩
        · have H := Lib.hid (surgeB_no (d := ⟨f, a, b⟩) (by simp; omega))
          have h4 : decide (b ≤ 500) = false := decide_eq_false h3
          clear h0
          go_enter Tryz.func124, Tryz.ntmps124
          go_wp2_with fail
          refine (isMinute_any _ _).mono ?_
          rintro e w1 ⟨rfl, rfl⟩
          rw [E0.out]
          go_wp2
          go_ret
          exact ⟨ret_bool H.out.symm, Joins.below_alloc1 _ _⟩
      · have H := Lib.hid (surgeB_no (d := ⟨f, a, b⟩) (by simp; omega))
        have h4 : decide (a ≤ b) = false := decide_eq_false h2
        clear h0
        go_enter Tryz.func124, Tryz.ntmps124
        go_wp2_with fail
        refine (isMinute_any _ _).mono ?_
        rintro e w1 ⟨rfl, rfl⟩
        rw [E0.out]
        go_wp2
        go_ret
        exact ⟨ret_bool H.out.symm, Joins.below_alloc1 _ _⟩
    · have H := Lib.hid (surgeB_no (d := ⟨f, a, b⟩) (by simp; omega))
      have h4 : decide (-500 ≤ a) = false := decide_eq_false h1
      clear h0
      go_enter Tryz.func124, Tryz.ntmps124
      go_wp2_with fail
      refine (isMinute_any _ _).mono ?_
      rintro e w1 ⟨rfl, rfl⟩
      rw [E0.out]
      go_wp2
      go_ret
      exact ⟨ret_bool H.out.symm, Joins.below_alloc1 _ _⟩
  · have E0 := Lib.hid (inB_no (x := f) (lo := 0) (hi := 2880) (by omega))
    have H := Lib.hid (surgeB_no (d := ⟨f, a, b⟩) (by simp; omega))
    clear h0
    go_enter Tryz.func124, Tryz.ntmps124
    go_wp2_with fail
    refine (isMinute_any _ _).mono ?_
    rintro e w1 ⟨rfl, rfl⟩
    rw [E0.out]
    go_wp2
    go_ret
    exact ⟨ret_bool H.out.symm, Joins.below_alloc1 _ _⟩
theorem specSurgeOk (d : SurgeD) (w : World) : Calls Tryz.prog 86 #[d.val] w fun e w' => e = .returned (.bool (surgeB d)) ∧ Below w.heap.size w w' := by
  obtain ⟨f, a, b⟩ := d
  by_cases h0 : 0 ≤ f ∧ f ≤ 2880
  · have E0 := Lib.hid (inB_mk h0.1 h0.2)
    by_cases h1 : -500 ≤ a ∧ a ≤ 500
    · have E1 := Lib.hid (inB_mk h1.1 h1.2)
      by_cases h2 : a ≤ b ∧ b ≤ 500
      · have E2 := Lib.hid (inB_mk h2.1 h2.2)
        have H := Lib.hid (surgeB_mk (d := ⟨f, a, b⟩) ⟨h0.1, h0.2, h1.1, h2.1, h2.2⟩)
        clear h0 h1 h2
        go_enter Tryz.func86, Tryz.ntmps86
        go_wp2_with fail
        refine (l01In_any _ _ _ _).mono ?_
        rintro e w1 ⟨rfl, rfl⟩
        rw [E0.out]
        go_wp2_with fail
        refine (l01In_any _ _ _ _).mono ?_
        rintro e w1 ⟨rfl, rfl⟩
        rw [E1.out]
        go_wp2_with fail
        refine (l01In_any _ _ _ _).mono ?_
        rintro e w1 ⟨rfl, rfl⟩
        rw [E2.out]
        go_wp2
        go_ret
        exact ⟨ret_bool H.out.symm, Joins.below_alloc1 _ _⟩
      · have E2 := Lib.hid (inB_no (x := b) (lo := a) (hi := 500) (by omega))
        have H := Lib.hid (surgeB_no (d := ⟨f, a, b⟩) (by simp; omega))
        clear h0 h1 h2
        go_enter Tryz.func86, Tryz.ntmps86
        go_wp2_with fail
        refine (l01In_any _ _ _ _).mono ?_
        rintro e w1 ⟨rfl, rfl⟩
        rw [E0.out]
        go_wp2_with fail
        refine (l01In_any _ _ _ _).mono ?_
        rintro e w1 ⟨rfl, rfl⟩
        rw [E1.out]
        go_wp2_with fail
        refine (l01In_any _ _ _ _).mono ?_
        rintro e w1 ⟨rfl, rfl⟩
        rw [E2.out]
        go_wp2
        go_ret
        exact ⟨ret_bool H.out.symm, Joins.below_alloc1 _ _⟩
    · have E1 := Lib.hid (inB_no (x := a) (lo := -500) (hi := 500) (by omega))
      have H := Lib.hid (surgeB_no (d := ⟨f, a, b⟩) (by simp; omega))
      clear h0 h1
      go_enter Tryz.func86, Tryz.ntmps86
      go_wp2_with fail
      refine (l01In_any _ _ _ _).mono ?_
      rintro e w1 ⟨rfl, rfl⟩
      rw [E0.out]
      go_wp2_with fail
      refine (l01In_any _ _ _ _).mono ?_
      rintro e w1 ⟨rfl, rfl⟩
      rw [E1.out]
      go_wp2
      go_ret
      exact ⟨ret_bool H.out.symm, Joins.below_alloc1 _ _⟩
  · have E0 := Lib.hid (inB_no (x := f) (lo := 0) (hi := 2880) (by omega))
    have H := Lib.hid (surgeB_no (d := ⟨f, a, b⟩) (by simp; omega))
    clear h0
    go_enter Tryz.func86, Tryz.ntmps86
    go_wp2_with fail
    refine (l01In_any _ _ _ _).mono ?_
    rintro e w1 ⟨rfl, rfl⟩
    rw [E0.out]
    go_wp2
    go_ret
    exact ⟨ret_bool H.out.symm, Joins.below_alloc1 _ _⟩
end Go.Proofs.YtpimcbhjkednpaaGreat
namespace Go.Proofs.YtpimcbhjkednpaaGreat
open Go.RowKit
/-- The surge k is valid and begins behind the one before it. -/
def okB (s : List SurgeD) (k : Nat) : Bool :=
  match s[k]? with
  | none => false
  | some x => surgeB x && (k == 0 || match s[k - 1]? with | none => false | some y => decide (y.fr < x.fr))
def headB (s : List SurgeD) : Bool := match s[0]? with | none => false | some x => decide (x.fr = 0)
def fcB (m : Int) (l : List PartD) (s : List SurgeD) : Bool := tideB m l && decide (1 ≤ s.length ∧ s.length ≤ 6) && headB s && (List.range s.length).all (okB s)
def FirstFc (s : List SurgeD) (k : Nat) : Prop := ∀ j, j < k → okB s j = true
theorem fcB_true {m : Int} {l : List PartD} {s : List SurgeD} (h : fcB m l s = true) : tideB m l = true ∧ 1 ≤ s.length ∧ s.length ≤ 6 ∧ headB s = true ∧ FirstFc s s.length := by
  unfold fcB at h
  simp only [Bool.and_eq_true, decide_eq_true_eq, List.all_eq_true] at h
  exact ⟨h.1.1.1, h.1.1.2.1, h.1.1.2.2, h.1.2, fun j hj => h.2 j (by simpa using hj)⟩
theorem fcB_mk {m : Int} {l : List PartD} {s : List SurgeD} (h0 : tideB m l = true) (h1 : 1 ≤ s.length) (h2 : s.length ≤ 6) (h3 : headB s = true) (h4 : FirstFc s s.length) : fcB m l s = true := by
  unfold fcB
  simp only [Bool.and_eq_true, decide_eq_true_eq, List.all_eq_true]
  exact ⟨⟨⟨h0, h1, h2⟩, h3⟩, fun j hj => h4 j (by simpa using hj)⟩
theorem fcB_tide {m : Int} {l : List PartD} {s : List SurgeD} (h : tideB m l = false) : fcB m l s = false := by
  cases e : fcB m l s with
  | false => rfl
  | true => rw [(fcB_true e).1] at h; cases h
theorem fcB_len {m : Int} {l : List PartD} {s : List SurgeD} (h : s.length = 0 ∨ 6 < s.length) : fcB m l s = false := by
  cases e : fcB m l s with
  | false => rfl
  | true => have := fcB_true e; omega
theorem fcB_head {m : Int} {l : List PartD} {s : List SurgeD} (h : headB s = false) : fcB m l s = false := by
  cases e : fcB m l s with
  | false => rfl
  | true => rw [(fcB_true e).2.2.2.1] at h; cases h
theorem fcB_bad {m : Int} {l : List PartD} {s : List SurgeD} (k : Nat) (hk : k < s.length) (h : okB s k = false) : fcB m l s = false := by
  cases e : fcB m l s with
  | false => rfl
  | true => rw [(fcB_true e).2.2.2.2 k hk] at h; cases h
theorem headB_of {s : List SurgeD} {x : SurgeD} (h : s[0]? = some x) : headB s = decide (x.fr = 0) := by unfold headB; rw [h]
theorem okB_bad {s : List SurgeD} {k : Nat} {x : SurgeD} (h : s[k]? = some x) (hx : surgeB x = false) : okB s k = false := by unfold okB; rw [h]; simp [hx]
theorem okB_zero {s : List SurgeD} {x : SurgeD} (h : s[0]? = some x) (hx : surgeB x = true) : okB s 0 = true := by unfold okB; rw [h]; simp [hx]
theorem okB_succ {s : List SurgeD} {k : Nat} {x y : SurgeD} (h : s[k + 1]? = some x) (hx : surgeB x = true) (h' : s[k]? = some y) : okB s (k + 1) = decide (y.fr < x.fr) := by
  unfold okB; rw [h]; simp [hx, h']
theorem FirstFc.next {s : List SurgeD} {k : Nat} (h : FirstFc s k) (hk : okB s k = true) : FirstFc s (k + 1) := by
  intro j hj
  by_cases e : j = k
  · subst e; exact hk
  · exact h j (by omega)
theorem FirstFc.zero (s : List SurgeD) : FirstFc s 0 := fun _ hj => absurd hj (by omega)
theorem okB_valid {s : List SurgeD} {k : Nat} {x : SurgeD} (h : okB s k = true) (hx : s[k]? = some x) : surgeB x = true := by
  unfold okB at h; rw [hx] at h; simp at h; exact h.1
/-- Among the first k surges, the place of the last that begins at t or before (0 if there is none). -/
def lastLe (s : List SurgeD) (t : Int) : Nat → Nat
  | 0 => 0
  | k + 1 => match s[k]? with
    | none => lastLe s t k
    | some x => if x.fr ≤ t then k else lastLe s t k
theorem lastLe_yes {s : List SurgeD} {t : Int} {k : Nat} {x : SurgeD} (h : s[k]? = some x) (hx : x.fr ≤ t) : lastLe s t (k + 1) = k := by unfold lastLe; rw [h]; simp [hx]
theorem lastLe_no {s : List SurgeD} {t : Int} {k : Nat} {x : SurgeD} (h : s[k]? = some x) (hx : ¬ x.fr ≤ t) : lastLe s t (k + 1) = lastLe s t k := by
  conv => lhs; unfold lastLe
  rw [h]; simp [hx]
theorem lastLe_lt {s : List SurgeD} {t : Int} (h0 : 0 < s.length) : ∀ k, k ≤ s.length → lastLe s t k < s.length := by
  intro k
  induction k with
  | zero => intro _; exact h0
  | succ k ih =>
    intro hk
    obtain ⟨x, hx⟩ : ∃ x, s[k]? = some x := ⟨_, List.getElem?_eq_getElem (by omega)⟩
    by_cases h : x.fr ≤ t
    · rw [lastLe_yes hx h]; omega
    · rw [lastLe_no hx h]; exact ih (by omega)
def atS (s : List SurgeD) (t : Int) : SurgeD := (s[lastLe s t s.length]?).getD ⟨0, 0, 0⟩
theorem atS_of {s : List SurgeD} {t : Int} (h0 : 0 < s.length) : s[lastLe s t s.length]? = some (atS s t) := by
  unfold atS
  rw [List.getElem?_eq_getElem (lastLe_lt h0 _ (Nat.le_refl _))]; rfl
/-- The surge among the first k. -/
def atK (s : List SurgeD) (t : Int) (k : Nat) : SurgeD := (s[lastLe s t k]?).getD ⟨0, 0, 0⟩
theorem atK_all (s : List SurgeD) (t : Int) : atK s t s.length = atS s t := rfl
theorem atK_zero {s : List SurgeD} {t : Int} {x : SurgeD} (h : s[0]? = some x) : atK s t 0 = x := by unfold atK lastLe; rw [h]; rfl
theorem atK_yes {s : List SurgeD} {t : Int} {k : Nat} {x : SurgeD} (h : s[k]? = some x) (hx : x.fr ≤ t) : atK s t (k + 1) = x := by unfold atK; rw [lastLe_yes h hx, h]; rfl
theorem atK_no {s : List SurgeD} {t : Int} {k : Nat} {x : SurgeD} (h : s[k]? = some x) (hx : ¬ x.fr ≤ t) : atK s t (k + 1) = atK s t k := by unfold atK; rw [lastLe_no h hx]
theorem atS_ok {s : List SurgeD} {t : Int} (h0 : 0 < s.length) (h : FirstFc s s.length) : surgeB (atS s t) = true :=
  okB_valid (h _ (lastLe_lt h0 _ (Nat.le_refl _))) (atS_of h0)
end Go.Proofs.YtpimcbhjkednpaaGreat
