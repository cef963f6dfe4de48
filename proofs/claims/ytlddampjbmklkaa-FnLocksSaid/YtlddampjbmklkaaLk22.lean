
/- What LocksLaw rests on, part 22: contracts and mathematics. -/
import Derived.Test.YtlddampjbmklkaaLkTk
import Derived.Test.YtlddampjbmklkaaLk19
namespace Go.Proofs.Ytlddampjbmklkaa
open Go.RowKit
set_option maxRecDepth 100000
set_option maxHeartbeats 8000000 in
theorem implAdd {wd w : World} {k : ChamberD} {q : Value} {rs : List LockR} (st : Int) (up : Bool) (vs : Value) (s : List Int) (h : CycAt wd w k q rs) (hs : SlInt w vs s) (hn : s.length ≤ 9000000) (hr : rs.length ≤ 9000000) :
    Calls Try.prog 44 #[.pointer (some ⟨wd.heap.size, 0, none⟩), .int .i64 st, .bool up, vs] w fun e w' => ∃ q' u, e = .returned (.tuple #[]) ∧ CycAt wd w' k q' (rs ++ [⟨st, up, u, s⟩]) := by
  obtain ⟨i0, hi, hz0, hz1, hz2⟩ := info_parts info_locking
  have HI := Lib.hid (And.intro hi (And.intro hz0 (And.intro hz1 hz2)))
  clear hi hz0 hz1 hz2
  obtain ⟨Qa, Qc, rfl⟩ := h.form
  obtain ⟨As, cs, rfl⟩ := hs.at
  have hd := (Below.refl w.heap.size w).drew
  have H1 := Lib.hid h.drew
  have HS := Lib.hid (hs.below hd)
  obtain ⟨w1, hw1⟩ : ∃ W, W = w.drew := ⟨_, rfl⟩
  rw [← hw1] at H1 HS
  have HW1 := Lib.hid hw1
  have c0 : w.cell? ⟨wd.heap.size, 3, none⟩ = some (.slice Qa rs.length Qc) := h.blk.cell 3
  have hzw := h.size
  obtain ⟨m, hm⟩ : ∃ m, rs.length = m := ⟨_, rfl⟩
  have HM := Lib.hid hm
  obtain ⟨n, hn'⟩ : ∃ n, s.length = n := ⟨_, rfl⟩
  have HN := Lib.hid hn'
  rw [hm] at c0 H1 hr
  rw [hn'] at HS hn
  try rw [hn']
  clear h hs hd hw1 hm hn'
  go_enter Try.func44, Try.ntmps44
  refine wp_region_held_drew (S := fun _ => True) (by kernel_rfl) trivial (fun hHeld => ?_)
  rw [← HW1.out]
  clear c0
  refine tk 0 ?_
  (try simp only [Act.put]); (try simp only [List.setIfInBounds_toArray]); (try simp only [List.set_cons_succ]); (try simp only [List.set_cons_zero])
  refine tk 1 ?_
  (try simp only [Act.put]); (try simp only [List.setIfInBounds_toArray]); (try simp only [List.set_cons_succ]); (try simp only [List.set_cons_zero])
  refine tk 2 ?_
  (try simp only [Act.put]); (try simp only [List.setIfInBounds_toArray]); (try simp only [List.set_cons_succ]); (try simp only [List.set_cons_zero])
  refine tk 3 ?_
  (try simp only [Act.put]); (try simp only [List.setIfInBounds_toArray]); (try simp only [List.set_cons_succ]); (try simp only [List.set_cons_zero])
  refine tk 5 ?_
  (try simp only [Act.put]); (try simp only [List.setIfInBounds_toArray]); (try simp only [List.set_cons_succ]); (try simp only [List.set_cons_zero])
  refine tk 6 ?_
  (try simp only [Act.put]); (try simp only [List.setIfInBounds_toArray]); (try simp only [List.set_cons_succ]); (try simp only [List.set_cons_zero])
  refine tk 7 ?_
  (try simp only [Act.put]); (try simp only [List.setIfInBounds_toArray]); (try simp only [List.set_cons_succ]); (try simp only [List.set_cons_zero])
  refine wpAnyH_ready (rs := [4, 8]) (by kernel_rfl) (by simp) ?_
  refine AllReadyH.cons rfl (fun K hK => ?_) (AllReadyH.cons rfl (fun K hK => ?_) (AllReadyH.nil))
  · have y3 : w1.cell? ⟨wd.heap.size, 3, none⟩ = some (.slice Qa m Qc) := (H1.out).blk.cell 3
    rw [if_pos (by rfl)]
    go_simp
    clear y3
    refine hK.out _ _ trivial (fun hHeld => ?_)
    clear hK K
    (try simp only [Act.put]); (try simp only [List.setIfInBounds_toArray]); (try simp only [List.set_cons_succ]); (try simp only [List.set_cons_zero])
    refine wpAnyH_ready (rs := [8]) (by kernel_rfl) (by simp) ?_
    refine AllReadyH.cons rfl (fun K hK => ?_) (AllReadyH.nil)
    rw [if_pos (by rfl)]
    go_simp
    go_at_call 70
    refine (cloneL _ s _ HS.out (by rw [HN.out]; exact hn)).mono ?_
    rintro e x8 ⟨v8, rfl, ho8, hb8⟩
    obtain ⟨V5, c5, e5⟩ := own_form ho8
    rw [HN.out] at e5
    subst e5
    have OR := Lib.hid ho8
    have LB := Lib.hid hb8
    clear ho8 hb8
    go_simp
    refine hK.out _ _ trivial (fun hHeld => ?_)
    clear hK K
    (try simp only [Act.put]); (try simp only [List.setIfInBounds_toArray]); (try simp only [List.set_cons_succ]); (try simp only [List.set_cons_zero])
    refine tk 9 ?_
    (try simp only [Act.put]); (try simp only [List.setIfInBounds_toArray]); (try simp only [List.set_cons_succ]); (try simp only [List.set_cons_zero])
    refine wpAnyH_ready (rs := [10]) (by kernel_rfl) (by simp) ?_
    refine AllReadyH.cons rfl (fun K hK => ?_) (AllReadyH.nil)
    rw [if_pos (by rfl)]
    go_simp
    have BX := Joins.below_alloc1 x8 (.cells #[.int .i64 st, .bool up, .slice V5 n c5] 38)
    have OA := Lib.hid (own_below OR.out BX)
    have LC := Lib.hid (LB.out.trans (BX.mono LB.out.size))
    have HNB := Lib.hid (World.news_of_block (heap_alloc_new x8 (.cells #[.int .i64 st, .bool up, .slice V5 n c5] 38)))
    have GA := Lib.hid (H1.out.below LC.out)
    clear BX
    refine hK.out _ _ trivial (fun hHeld => ?_)
    clear hK K
    (try simp only [Act.put]); (try simp only [List.setIfInBounds_toArray]); (try simp only [List.set_cons_succ]); (try simp only [List.set_cons_zero])
    refine wpAnyH_ready (rs := [11]) (by kernel_rfl) (by simp) ?_
    refine AllReadyH.cons rfl (fun K hK => ?_) (AllReadyH.nil)
    refine step_append_lies _ (by rfl) _ _ _ (by rfl) (wd.heap.size + 1) 38 i0 _ 3 40 Try.underlying26 HI.out.1 HI.out.2.1 HI.out.2.2.1 HI.out.2.2.2 rfl (by omega) (.slice Qa m Qc) m (rs.flatMap LockR.cells) (by rfl) (by have := GA.out.own.1; unfold OwnOf at this; rw [HM.out] at this; exact this) ⟨x8.heap.size, 0, none⟩ 1 1 (LockR.cells (⟨st, up, .slice V5 n c5, s⟩ : LockR)) (by rfl) (by rfl) HNB.out (lock_one _ rfl) (by omega) (by unfold maxLen; omega) (by omega) GA.out.size _ rfl ?_
    intro g4 cap4 w4 hown4 hgrow4 hor4 hlt4
    have B4 := GA.out.blk.grown hgrow4 (fun e => GA.out.far e.symm)
    have f4 : w4.frozen? ⟨wd.heap.size, 3, none⟩ = false := B4.free 3
    have s4 : w4.cell? ⟨wd.heap.size, 3, none⟩ = some (.slice Qa m Qc) := B4.cell 3
    have CX := Lib.hid (H1.out.next (g4 := g4) (cap4 := cap4) (W2 := w4) LC.out OA.out (by rw [HM.out]; exact hown4) hgrow4 hor4)
    rw [HM.out] at CX
    clear B4 hown4 hgrow4 hor4 hlt4
    refine hK.out _ _ trivial (fun hHeld => ?_)
    clear hK K
    (try simp only [Act.put]); (try simp only [List.setIfInBounds_toArray]); (try simp only [List.set_cons_succ]); (try simp only [List.set_cons_zero])
    refine tk 12 ?_
    (try simp only [Act.put]); (try simp only [List.setIfInBounds_toArray]); (try simp only [List.set_cons_succ]); (try simp only [List.set_cons_zero])
    refine tk 13 ?_
    (try simp only [Act.put]); (try simp only [List.setIfInBounds_toArray]); (try simp only [List.set_cons_succ]); (try simp only [List.set_cons_zero])
    refine wpAnyH_ready (rs := [14]) (by kernel_rfl) (by simp) ?_
    refine AllReadyH.cons rfl (fun K hK => ?_) (AllReadyH.nil)
    rw [if_pos (by rfl)]
    go_simp
    clear f4 s4
    refine hK.out _ _ trivial (fun hHeld => ?_)
    clear hK K
    (try simp only [Act.put]); (try simp only [List.setIfInBounds_toArray]); (try simp only [List.set_cons_succ]); (try simp only [List.set_cons_zero])
    refine wpAnyH_done (by kernel_rfl) ?_ _
    exact end0 rfl rfl ⟨_, _, rfl, CX.out⟩
  · rw [if_pos (by rfl)]
    go_simp
    go_at_call 70
    refine (cloneL _ s _ HS.out (by rw [HN.out]; exact hn)).mono ?_
    rintro e x8 ⟨v8, rfl, ho8, hb8⟩
    obtain ⟨V5, c5, e5⟩ := own_form ho8
    rw [HN.out] at e5
    subst e5
    have OR := Lib.hid ho8
    have LB := Lib.hid hb8
    clear ho8 hb8
    go_simp
    refine hK.out _ _ trivial (fun hHeld => ?_)
    clear hK K
    (try simp only [Act.put]); (try simp only [List.setIfInBounds_toArray]); (try simp only [List.set_cons_succ]); (try simp only [List.set_cons_zero])
    refine tk 9 ?_
    (try simp only [Act.put]); (try simp only [List.setIfInBounds_toArray]); (try simp only [List.set_cons_succ]); (try simp only [List.set_cons_zero])
    refine wpAnyH_ready (rs := [4, 10]) (by kernel_rfl) (by simp) ?_
    refine AllReadyH.cons rfl (fun K hK => ?_) (AllReadyH.cons rfl (fun K hK => ?_) (AllReadyH.nil))
    · have y3 : x8.cell? ⟨wd.heap.size, 3, none⟩ = some (.slice Qa m Qc) := (H1.out.below LB.out).blk.cell 3
      rw [if_pos (by rfl)]
      go_simp
      clear y3
      refine hK.out _ _ trivial (fun hHeld => ?_)
      clear hK K
      (try simp only [Act.put]); (try simp only [List.setIfInBounds_toArray]); (try simp only [List.set_cons_succ]); (try simp only [List.set_cons_zero])
      refine wpAnyH_ready (rs := [10]) (by kernel_rfl) (by simp) ?_
      refine AllReadyH.cons rfl (fun K hK => ?_) (AllReadyH.nil)
      rw [if_pos (by rfl)]
      go_simp
      have BX := Joins.below_alloc1 x8 (.cells #[.int .i64 st, .bool up, .slice V5 n c5] 38)
      have OA := Lib.hid (own_below OR.out BX)
      have LC := Lib.hid (LB.out.trans (BX.mono LB.out.size))
      have HNB := Lib.hid (World.news_of_block (heap_alloc_new x8 (.cells #[.int .i64 st, .bool up, .slice V5 n c5] 38)))
      have GA := Lib.hid (H1.out.below LC.out)
      clear BX
      refine hK.out _ _ trivial (fun hHeld => ?_)
      clear hK K
      (try simp only [Act.put]); (try simp only [List.setIfInBounds_toArray]); (try simp only [List.set_cons_succ]); (try simp only [List.set_cons_zero])
      refine wpAnyH_ready (rs := [11]) (by kernel_rfl) (by simp) ?_
      refine AllReadyH.cons rfl (fun K hK => ?_) (AllReadyH.nil)
      refine step_append_lies _ (by rfl) _ _ _ (by rfl) (wd.heap.size + 1) 38 i0 _ 3 40 Try.underlying26 HI.out.1 HI.out.2.1 HI.out.2.2.1 HI.out.2.2.2 rfl (by omega) (.slice Qa m Qc) m (rs.flatMap LockR.cells) (by rfl) (by have := GA.out.own.1; unfold OwnOf at this; rw [HM.out] at this; exact this) ⟨x8.heap.size, 0, none⟩ 1 1 (LockR.cells (⟨st, up, .slice V5 n c5, s⟩ : LockR)) (by rfl) (by rfl) HNB.out (lock_one _ rfl) (by omega) (by unfold maxLen; omega) (by omega) GA.out.size _ rfl ?_
      intro g4 cap4 w4 hown4 hgrow4 hor4 hlt4
      have B4 := GA.out.blk.grown hgrow4 (fun e => GA.out.far e.symm)
      have f4 : w4.frozen? ⟨wd.heap.size, 3, none⟩ = false := B4.free 3
      have s4 : w4.cell? ⟨wd.heap.size, 3, none⟩ = some (.slice Qa m Qc) := B4.cell 3
      have CX := Lib.hid (H1.out.next (g4 := g4) (cap4 := cap4) (W2 := w4) LC.out OA.out (by rw [HM.out]; exact hown4) hgrow4 hor4)
      rw [HM.out] at CX
      clear B4 hown4 hgrow4 hor4 hlt4
      refine hK.out _ _ trivial (fun hHeld => ?_)
      clear hK K
      (try simp only [Act.put]); (try simp only [List.setIfInBounds_toArray]); (try simp only [List.set_cons_succ]); (try simp only [List.set_cons_zero])
      refine tk 12 ?_
      (try simp only [Act.put]); (try simp only [List.setIfInBounds_toArray]); (try simp only [List.set_cons_succ]); (try simp only [List.set_cons_zero])
      refine tk 13 ?_
      (try simp only [Act.put]); (try simp only [List.setIfInBounds_toArray]); (try simp only [List.set_cons_succ]); (try simp only [List.set_cons_zero])
      refine wpAnyH_ready (rs := [14]) (by kernel_rfl) (by simp) ?_
      refine AllReadyH.cons rfl (fun K hK => ?_) (AllReadyH.nil)
      rw [if_pos (by rfl)]
      go_simp
      clear f4 s4
      refine hK.out _ _ trivial (fun hHeld => ?_)
      clear hK K
      (try simp only [Act.put]); (try simp only [List.setIfInBounds_toArray]); (try simp only [List.set_cons_succ]); (try simp only [List.set_cons_zero])
      refine wpAnyH_done (by kernel_rfl) ?_ _
      exact end0 rfl rfl ⟨_, _, rfl, CX.out⟩
    · rw [if_pos (by rfl)]
      go_simp
      have BX := Joins.below_alloc1 x8 (.cells #[.int .i64 st, .bool up, .slice V5 n c5] 38)
      have OA := Lib.hid (own_below OR.out BX)
      have LC := Lib.hid (LB.out.trans (BX.mono LB.out.size))
      have HNB := Lib.hid (World.news_of_block (heap_alloc_new x8 (.cells #[.int .i64 st, .bool up, .slice V5 n c5] 38)))
      have GA := Lib.hid (H1.out.below LC.out)
      clear BX
      refine hK.out _ _ trivial (fun hHeld => ?_)
      clear hK K
      (try simp only [Act.put]); (try simp only [List.setIfInBounds_toArray]); (try simp only [List.set_cons_succ]); (try simp only [List.set_cons_zero])
      refine wpAnyH_ready (rs := [4]) (by kernel_rfl) (by simp) ?_
      refine AllReadyH.cons rfl (fun K hK => ?_) (AllReadyH.nil)
      have y3 : (x8.alloc (.cells #[.int .i64 st, .bool up, .slice V5 n c5] 38)).cell? ⟨wd.heap.size, 3, none⟩ = some (.slice Qa m Qc) := (H1.out.below LC.out).blk.cell 3
      rw [if_pos (by rfl)]
      go_simp
      clear y3
      refine hK.out _ _ trivial (fun hHeld => ?_)
      clear hK K
      (try simp only [Act.put]); (try simp only [List.setIfInBounds_toArray]); (try simp only [List.set_cons_succ]); (try simp only [List.set_cons_zero])
      refine wpAnyH_ready (rs := [11]) (by kernel_rfl) (by simp) ?_
      refine AllReadyH.cons rfl (fun K hK => ?_) (AllReadyH.nil)
      refine step_append_lies _ (by rfl) _ _ _ (by rfl) (wd.heap.size + 1) 38 i0 _ 3 40 Try.underlying26 HI.out.1 HI.out.2.1 HI.out.2.2.1 HI.out.2.2.2 rfl (by omega) (.slice Qa m Qc) m (rs.flatMap LockR.cells) (by rfl) (by have := GA.out.own.1; unfold OwnOf at this; rw [HM.out] at this; exact this) ⟨x8.heap.size, 0, none⟩ 1 1 (LockR.cells (⟨st, up, .slice V5 n c5, s⟩ : LockR)) (by rfl) (by rfl) HNB.out (lock_one _ rfl) (by omega) (by unfold maxLen; omega) (by omega) GA.out.size _ rfl ?_
      intro g4 cap4 w4 hown4 hgrow4 hor4 hlt4
      have B4 := GA.out.blk.grown hgrow4 (fun e => GA.out.far e.symm)
      have f4 : w4.frozen? ⟨wd.heap.size, 3, none⟩ = false := B4.free 3
      have s4 : w4.cell? ⟨wd.heap.size, 3, none⟩ = some (.slice Qa m Qc) := B4.cell 3
      have CX := Lib.hid (H1.out.next (g4 := g4) (cap4 := cap4) (W2 := w4) LC.out OA.out (by rw [HM.out]; exact hown4) hgrow4 hor4)
      rw [HM.out] at CX
      clear B4 hown4 hgrow4 hor4 hlt4
      refine hK.out _ _ trivial (fun hHeld => ?_)
      clear hK K
      (try simp only [Act.put]); (try simp only [List.setIfInBounds_toArray]); (try simp only [List.set_cons_succ]); (try simp only [List.set_cons_zero])
      refine tk 12 ?_
      (try simp only [Act.put]); (try simp only [List.setIfInBounds_toArray]); (try simp only [List.set_cons_succ]); (try simp only [List.set_cons_zero])
      refine tk 13 ?_
      (try simp only [Act.put]); (try simp only [List.setIfInBounds_toArray]); (try simp only [List.set_cons_succ]); (try simp only [List.set_cons_zero])
      refine wpAnyH_ready (rs := [14]) (by kernel_rfl) (by simp) ?_
      refine AllReadyH.cons rfl (fun K hK => ?_) (AllReadyH.nil)
      rw [if_pos (by rfl)]
      go_simp
      clear f4 s4
      refine hK.out _ _ trivial (fun hHeld => ?_)
      clear hK K
      (try simp only [Act.put]); (try simp only [List.setIfInBounds_toArray]); (try simp only [List.set_cons_succ]); (try simp only [List.set_cons_zero])
      refine wpAnyH_done (by kernel_rfl) ?_ _
      exact end0 rfl rfl ⟨_, _, rfl, CX.out⟩
end Go.Proofs.Ytlddampjbmklkaa
