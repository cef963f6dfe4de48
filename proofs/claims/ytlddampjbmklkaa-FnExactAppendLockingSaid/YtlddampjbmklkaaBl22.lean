
/- What ExactLockPlanOk and ExactAppendLocking rests on, part 22: contracts and mathematics. -/
import Derived.Test.YtlddampjbmklkaaBlTk
import Derived.Test.YtlddampjbmklkaaBl14
import Derived.Test.YtlddampjbmklkaaBl5
import Derived.Test.YtlddampjbmklkaaBl10
import Derived.Test.YtlddampjbmklkaaBl20
import Derived.Deep.DeepCutAuto
import Derived.Test.YtlddampjbmklkaaBl6
import Derived.Test.YtlddampjbmklkaaBl7
namespace Go.Proofs.Ytlddampjbmklkaa
open Go.RowKit
set_option maxRecDepth 100000
/-- One locking more, over a base of one's own. -/
theorem OwnLocks.next {W W1 W2 : World} {base : Nat} {v u : Value} {rs : List LockR} {st : Int} {up : Bool} {s : List Int} {g4 cap4 : Nat} (h : OwnLocks W base v rs) (hb0 : base ≤ W.heap.size) (hb : Below W.heap.size W W1) (ho : OwnInt W1 W.heap.size u s)
    (hown : W2.ownsRow base 38 3 (.slice (some ⟨g4, 0, none⟩) (rs.length + 1) cap4) (rs.length + 1) (rs.flatMap LockR.cells ++ LockR.cells ⟨st, up, u, s⟩)) (hgr : W1.grownBy W2 v.ownBlock) (hor : v.ownBlock = some g4 ∨ g4 = W1.heap.size) :
    OwnLocks W2 base (.slice (some ⟨g4, 0, none⟩) (rs.length + 1) cap4) (rs ++ [⟨st, up, u, s⟩]) := by
  obtain ⟨o1, o2, o3, o4⟩ := h
  have hz1 := hb.size
  refine ⟨?_, fun r hr => ?_, ?_, fun r hr g hg hg' => ?_⟩
  · simpa [OwnOf] using hown
  · rcases List.mem_append.1 hr with hr | hr
    · exact own_kept (own_below (o2 r hr) hb) hgr (fun b hv e => o4 r hr b e hv)
    · simp at hr
      subst hr
      exact own_lo (own_kept ho hgr (fun b hv e => by have := (own_ge o1 e).2; have := (own_ge ho hv).1; omega)) hb0
  · rw [List.pairwise_append]
    refine ⟨o3, by simp, fun a ha b hb' g hg hg' => ?_⟩
    simp at hb'
    subst hb'
    have := (own_ge (o2 a ha) hg).2
    have := (own_ge ho hg').1
    omega
  · simp [Value.ownBlock] at hg
    subst hg
    rcases List.mem_append.1 hr with hr | hr
    · rcases hor with e | e
      · exact o4 r hr g4 e hg'
      · have := (own_ge (o2 r hr) hg').2
        omega
    · simp at hr
      subst hr
      rcases hor with e | e
      · have := (own_ge o1 e).2
        have := (own_ge ho hg').1
        omega
      · have := (own_ge ho hg').2
        omega
/-- A cycle at the block behind wd, its lockings behind it; what lay in wd is as it was. -/
structure CycAt (wd w : World) (k : ChamberD) (q : Value) (rs : List LockR) : Prop where
  blk : Blk w wd.heap.size #[.int .i64 k.length, .int .i64 k.lanes, .int .i64 k.minutes, q] 72
  own : OwnLocks w (wd.heap.size + 1) q rs
  low : Below wd.heap.size wd w
section
variable {wd w : World} {k : ChamberD} {q : Value} {rs : List LockR}
theorem CycAt.below (h : CycAt wd w k q rs) {w' : World} (hb : Below w.heap.size w w') : CycAt wd w' k q rs := ⟨h.blk.below hb, h.own.below hb, h.low.trans (hb.mono h.low.size)⟩
theorem CycAt.drew (h : CycAt wd w k q rs) : CycAt wd w.drew k q rs := h.below (Below.refl _ w).drew
theorem CycAt.far (h : CycAt wd w k q rs) : q.ownBlock ≠ some wd.heap.size := fun e => Nat.lt_irrefl _ (own_ge h.own.1 e).1
theorem CycAt.form (h : CycAt wd w k q rs) : ∃ A c, q = .slice A rs.length c := own_form h.own.1
theorem CycAt.size (h : CycAt wd w k q rs) : wd.heap.size + 1 ≤ w.heap.size := h.blk.lt
theorem CycAt.new (wd : World) (k : ChamberD) : CycAt wd (wd.alloc (.cells #[.int .i64 k.length, .int .i64 k.lanes, .int .i64 k.minutes, .slice none 0 0] 72)) k (.slice none 0 0) [] :=
  ⟨Blk.new wd _ _, own_none _ _, Joins.below_alloc1 wd _⟩
/-- The lockings are kept by a write into the cycle itself. -/
theorem OwnLocks.set {W : World} {base b : Nat} (h : OwnLocks W base q rs) (hb : b < base) (j : Nat) (u : Value) : OwnLocks (W.setCell ⟨b, j, none⟩ u) base q rs :=
  ⟨own_kept h.1 (grown_set1 _ _ _ _) (fun b' hv e => by have := (own_ge h.1 hv).1; have := Option.some.inj e; omega), fun r hr => own_kept (h.2.1 r hr) (grown_set1 _ _ _ _) (fun b' hv e => by have := (own_ge (h.2.1 r hr) hv).1; have := Option.some.inj e; omega), h.2.2.1, h.2.2.2⟩
theorem CycAt.next {W1 W2 : World} {u : Value} {st : Int} {up : Bool} {s : List Int} {g4 cap4 : Nat} (h : CycAt wd w k q rs) (hb : Below w.heap.size w W1) (ho : OwnInt W1 w.heap.size u s)
    (hown : W2.ownsRow (wd.heap.size + 1) 38 3 (.slice (some ⟨g4, 0, none⟩) (rs.length + 1) cap4) (rs.length + 1) (rs.flatMap LockR.cells ++ LockR.cells ⟨st, up, u, s⟩)) (hgr : W1.grownBy W2 q.ownBlock) (hor : q.ownBlock = some g4 ∨ g4 = W1.heap.size) :
    CycAt wd (W2.setCell ⟨wd.heap.size, 3, none⟩ (.slice (some ⟨g4, 0, none⟩) (rs.length + 1) cap4)) k (.slice (some ⟨g4, 0, none⟩) (rs.length + 1) cap4) (rs ++ [⟨st, up, u, s⟩]) := by
  have hsz := h.size
  have hz1 := hb.size
  have O := h.own.next hsz hb ho hown hgr hor
  have hB : Blk W2 wd.heap.size #[.int .i64 k.length, .int .i64 k.lanes, .int .i64 k.minutes, q] 72 := (h.blk.below hb).grown hgr (fun e => h.far e.symm)
  refine ⟨?_, O.set (Nat.lt_succ_self _) _ _, ?_⟩
  · have K := hB.set 3 (.slice (some ⟨g4, 0, none⟩) (rs.length + 1) cap4)
    simp only [List.setIfInBounds_toArray, List.set_cons_succ, List.set_cons_zero] at K
    exact K
  · have h1 : Below wd.heap.size wd W2 := (h.low.trans (hb.mono h.low.size)).grown hgr (by omega) (fun b e => by have := (own_ge h.own.1 e).1; omega)
    exact h1.setCell (Nat.le_refl _) _
end
end Go.Proofs.Ytlddampjbmklkaa
namespace Go.Proofs.Ytlddampjbmklkaa
open Go.RowKit
set_option maxRecDepth 100000
theorem planFrom_app (k : ChamberD) (fl : List ShipD) : ∀ (l1 l2 : List LockD) (b : Option LockD), planFrom k fl b (l1 ++ l2) = (planFrom k fl b l1 && planFrom k fl (l1.getLast?.or b) l2)
  | [], _, _ => rfl
  | g :: l1, l2, b => by
    show (lockB k fl g b && planFrom k fl (some g) (l1 ++ l2)) = ((lockB k fl g b && planFrom k fl (some g) l1) && _)
    rw [planFrom_app k fl l1 l2 (some g), Bool.and_assoc, List.getLast?_cons]
    congr 2
    cases l1.getLast? <;> rfl
theorem lockB_start {k : ChamberD} {fl : List ShipD} {g : LockD} {b : Option LockD} (h : lockB k fl g b = true) : 0 ≤ g.start ∧ g.start ≤ 2880 := by
  unfold lockB turnB at h
  simp only [Bool.and_eq_true] at h
  exact of_decide_eq_true h.1.1
theorem lockB_turn {k : ChamberD} {fl : List ShipD} {g b : LockD} (h : lockB k fl g (some b) = true) : b.start + k.minutes ≤ g.start := by
  rw [lockB_next] at h
  simp only [Bool.and_eq_true, decide_eq_true_eq] at h
  exact h.1.2.1
/-- The starts of a valid plan: minutes, in order. -/
theorem plan_sorted {k : ChamberD} {fl : List ShipD} (hk : chamB k = true) : ∀ {l : List LockD} {b : Option LockD}, planFrom k fl b l = true →
    (∀ x ∈ l, 0 ≤ x.start ∧ x.start ≤ 2880) ∧ l.Pairwise (fun x y => x.start ≤ y.start) ∧ ∀ c, b = some c → ∀ x ∈ l, c.start ≤ x.start
  | [], _, _ => ⟨fun x hx => absurd hx (by simp), List.Pairwise.nil, fun _ _ x hx => absurd hx (by simp)⟩
  | g :: l, b, h => by
    have h : (lockB k fl g b && planFrom k fl (some g) l) = true := h
    rw [Bool.and_eq_true] at h
    obtain ⟨h1, h2, h3⟩ := plan_sorted hk h.2
    have hg := lockB_start h.1
    have hle := h3 g rfl
    refine ⟨fun x hx => ?_, List.Pairwise.cons hle h2, fun c hc x hx => ?_⟩
    · rcases List.mem_cons.1 hx with rfl | hx
      · exact hg
      · exact h1 x hx
    · subst hc
      obtain ⟨-, -, -, -, m0, -⟩ := chamB_true hk
      have ht := lockB_turn h.1
      rcases List.mem_cons.1 hx with rfl | hx
      · omega
      · have := hle x hx; omega
theorem lockPlanB_mk {k : ChamberD} {fl : List ShipD} {l : List LockD} (h1 : chamB k = true) (h2 : fleetB fl = true) (h3 : l.length ≤ 12) (h4 : planFrom k fl none l = true) : lockPlanB k fl l = true := by
  unfold lockPlanB
  rw [h1, h2, decide_eq_true h3, h4]
  rfl
theorem lockPlanB_from {k : ChamberD} {fl : List ShipD} {l : List LockD} (h : lockPlanB k fl l = true) : planFrom k fl none l = true := by
  unfold lockPlanB at h
  rw [Bool.and_eq_true] at h
  exact h.2
section
variable {k : ChamberD} {fl : List ShipD} {l : List LockD} {up : Bool} {ready a : Int} {s : Nat} {x : ShipD} {t : List Int}
end
end Go.Proofs.Ytlddampjbmklkaa
namespace Go.Proofs.Ytlddampjbmklkaa
open Go.RowKit
set_option maxRecDepth 100000
set_option maxHeartbeats 8000000 in
theorem implAdd {wd w : World} {k : ChamberD} {q : Value} {rs : List LockR} (st : Int) (up : Bool) (vs : Value) (s : List Int) (h : CycAt wd w k q rs) (hs : SlInt w vs s) (hn : s.length ≤ 9000000) (hr : rs.length ≤ 9000000) :
    Calls Try.prog 44 #[.pointer (some ⟨wd.heap.size, 0, none⟩), .int .i64 st, .bool up, vs] w fun e w' => ∃ q' u, e = .returned (.tuple #[]) ∧ CycAt wd w' k q' (rs ++ [⟨st, up, u, s⟩]) := by
  obtain ⟨i0, hi, hz0, hz1, hz2⟩ := info_parts info_locking
  have HI := Lib.hid (And.intro hi (And.intro hz0 (And.intro hz1 hz2)))
  clear hi hz0 hz1 hz2
  obtain ⟨Qa, Qc, rfl⟩ := h.form
  obtain ⟨As, cs, rfl⟩ := hs.at
  have hd := (Below.refl w.heap.size w).drew
  have H1 := Lib.hid h.drew
  have HS := Lib.hid (hs.below hd)
  obtain ⟨w1, hw1⟩ : ∃ W, W = w.drew := ⟨_, rfl⟩
  rw [← hw1] at H1 HS
  have HW1 := Lib.hid hw1
  have c0 : w.cell? ⟨wd.heap.size, 3, none⟩ = some (.slice Qa rs.length Qc) := h.blk.cell 3
  have hzw := h.size
  obtain ⟨m, hm⟩ : ∃ m, rs.length = m := ⟨_, rfl⟩
  have HM := Lib.hid hm
  obtain ⟨n, hn'⟩ : ∃ n, s.length = n := ⟨_, rfl⟩
  have HN := Lib.hid hn'
  rw [hm] at c0 H1 hr
  rw [hn'] at HS hn
  try rw [hn']
  clear h hs hd hw1 hm hn'
  go_enter Try.func44, Try.ntmps44
  refine wp_region_held_drew (S := fun _ => True) (by kernel_rfl) trivial (fun hHeld => ?_)
  rw [← HW1.out]
  clear c0
  refine tk 0 ?_
  (try simp only [Act.put]); (try simp only [List.setIfInBounds_toArray]); (try simp only [List.set_cons_succ]); (try simp only [List.set_cons_zero])
  refine tk 1 ?_
  (try simp only [Act.put]); (try simp only [List.setIfInBounds_toArray]); (try simp only [List.set_cons_succ]); (try simp only [List.set_cons_zero])
  refine tk 2 ?_
  (try simp only [Act.put]); (try simp only [List.setIfInBounds_toArray]); (try simp only [List.set_cons_succ]); (try simp only [List.set_cons_zero])
  refine tk 3 ?_
  (try simp only [Act.put]); (try simp only [List.setIfInBounds_toArray]); (try simp only [List.set_cons_succ]); (try simp only [List.set_cons_zero])
  refine tk 5 ?_
  (try simp only [Act.put]); (try simp only [List.setIfInBounds_toArray]); (try simp only [List.set_cons_succ]); (try simp only [List.set_cons_zero])
  refine tk 6 ?_
  (try simp only [Act.put]); (try simp only [List.setIfInBounds_toArray]); (try simp only [List.set_cons_succ]); (try simp only [List.set_cons_zero])
  refine tk 7 ?_
  (try simp only [Act.put]); (try simp only [List.setIfInBounds_toArray]); (try simp only [List.set_cons_succ]); (try simp only [List.set_cons_zero])
  refine wpAnyH_ready (rs := [4, 8]) (by kernel_rfl) (by simp) ?_
  refine AllReadyH.cons rfl (fun K hK => ?_) (AllReadyH.cons rfl (fun K hK => ?_) (AllReadyH.nil))
  · have y3 : w1.cell? ⟨wd.heap.size, 3, none⟩ = some (.slice Qa m Qc) := (H1.out).blk.cell 3
    rw [if_pos (by rfl)]
    go_simp
    clear y3
    refine hK.out _ _ trivial (fun hHeld => ?_)
    clear hK K
    (try simp only [Act.put]); (try simp only [List.setIfInBounds_toArray]); (try simp only [List.set_cons_succ]); (try simp only [List.set_cons_zero])
    refine wpAnyH_ready (rs := [8]) (by kernel_rfl) (by simp) ?_
    refine AllReadyH.cons rfl (fun K hK => ?_) (AllReadyH.nil)
    rw [if_pos (by rfl)]
    go_simp
    go_at_call 70
    refine (cloneL _ s _ HS.out (by rw [HN.out]; exact hn)).mono ?_
    rintro e x8 ⟨v8, rfl, ho8, hb8⟩
    obtain ⟨V5, c5, e5⟩ := own_form ho8
    rw [HN.out] at e5
    subst e5
    have OR := Lib.hid ho8
    have LB := Lib.hid hb8
    clear ho8 hb8
    go_simp
    refine hK.out _ _ trivial (fun hHeld => ?_)
    clear hK K
    (try simp only [Act.put]); (try simp only [List.setIfInBounds_toArray]); (try simp only [List.set_cons_succ]); (try simp only [List.set_cons_zero])
    refine tk 9 ?_
    (try simp only [Act.put]); (try simp only [List.setIfInBounds_toArray]); (try simp only [List.set_cons_succ]); (try simp only [List.set_cons_zero])
    refine wpAnyH_ready (rs := [10]) (by kernel_rfl) (by simp) ?_
    refine AllReadyH.cons rfl (fun K hK => ?_) (AllReadyH.nil)
    rw [if_pos (by rfl)]
    go_simp
    have BX := Joins.below_alloc1 x8 (.cells #[.int .i64 st, .bool up, .slice V5 n c5] 38)
    have OA := Lib.hid (own_below OR.out BX)
    have LC := Lib.hid (LB.out.trans (BX.mono LB.out.size))
    have HNB := Lib.hid (World.news_of_block (heap_alloc_new x8 (.cells #[.int .i64 st, .bool up, .slice V5 n c5] 38)))
    have GA := Lib.hid (H1.out.below LC.out)
    clear BX
    refine hK.out _ _ trivial (fun hHeld => ?_)
    clear hK K
    (try simp only [Act.put]); (try simp only [List.setIfInBounds_toArray]); (try simp only [List.set_cons_succ]); (try simp only [List.set_cons_zero])
    refine wpAnyH_ready (rs := [11]) (by kernel_rfl) (by simp) ?_
    refine AllReadyH.cons rfl (fun K hK => ?_) (AllReadyH.nil)
    refine step_append_lies _ (by rfl) _ _ _ (by rfl) (wd.heap.size + 1) 38 i0 _ 3 40 Try.underlying26 HI.out.1 HI.out.2.1 HI.out.2.2.1 HI.out.2.2.2 rfl (by omega) (.slice Qa m Qc) m (rs.flatMap LockR.cells) (by rfl) (by have := GA.out.own.1; unfold OwnOf at this; rw [HM.out] at this; exact this) ⟨x8.heap.size, 0, none⟩ 1 1 (LockR.cells (⟨st, up, .slice V5 n c5, s⟩ : LockR)) (by rfl) (by rfl) HNB.out (lock_one _ rfl) (by omega) (by unfold maxLen; omega) (by omega) GA.out.size _ rfl ?_
    intro g4 cap4 w4 hown4 hgrow4 hor4 hlt4
    have B4 := GA.out.blk.grown hgrow4 (fun e => GA.out.far e.symm)
    have f4 : w4.frozen? ⟨wd.heap.size, 3, none⟩ = false := B4.free 3
    have s4 : w4.cell? ⟨wd.heap.size, 3, none⟩ = some (.slice Qa m Qc) := B4.cell 3
    have CX := Lib.hid (H1.out.next (g4 := g4) (cap4 := cap4) (W2 := w4) LC.out OA.out (by rw [HM.out]; exact hown4) hgrow4 hor4)
    rw [HM.out] at CX
    clear B4 hown4 hgrow4 hor4 hlt4
    refine hK.out _ _ trivial (fun hHeld => ?_)
    clear hK K
    (try simp only [Act.put]); (try simp only [List.setIfInBounds_toArray]); (try simp only [List.set_cons_succ]); (try simp only [List.set_cons_zero])
    refine tk 12 ?_
    (try simp only [Act.put]); (try simp only [List.setIfInBounds_toArray]); (try simp only [List.set_cons_succ]); (try simp only [List.set_cons_zero])
    refine tk 13 ?_
    (try simp only [Act.put]); (try simp only [List.setIfInBounds_toArray]); (try simp only [List.set_cons_succ]); (try simp only [List.set_cons_zero])
    refine wpAnyH_ready (rs := [14]) (by kernel_rfl) (by simp) ?_
    refine AllReadyH.cons rfl (fun K hK => ?_) (AllReadyH.nil)
    rw [if_pos (by rfl)]
    go_simp
    clear f4 s4
    refine hK.out _ _ trivial (fun hHeld => ?_)
    clear hK K
    (try simp only [Act.put]); (try simp only [List.setIfInBounds_toArray]); (try simp only [List.set_cons_succ]); (try simp only [List.set_cons_zero])
    refine wpAnyH_done (by kernel_rfl) ?_ _
    exact end0 rfl rfl ⟨_, _, rfl, CX.out⟩
  · rw [if_pos (by rfl)]
    go_simp
    go_at_call 70
    refine (cloneL _ s _ HS.out (by rw [HN.out]; exact hn)).mono ?_
    rintro e x8 ⟨v8, rfl, ho8, hb8⟩
    obtain ⟨V5, c5, e5⟩ := own_form ho8
    rw [HN.out] at e5
    subst e5
    have OR := Lib.hid ho8
    have LB := Lib.hid hb8
    clear ho8 hb8
    go_simp
    refine hK.out _ _ trivial (fun hHeld => ?_)
    clear hK K
    (try simp only [Act.put]); (try simp only [List.setIfInBounds_toArray]); (try simp only [List.set_cons_succ]); (try simp only [List.set_cons_zero])
    refine tk 9 ?_
    (try simp only [Act.put]); (try simp only [List.setIfInBounds_toArray]); (try simp only [List.set_cons_succ]); (try simp only [List.set_cons_zero])
    refine wpAnyH_ready (rs := [4, 10]) (by kernel_rfl) (by simp) ?_
    refine AllReadyH.cons rfl (fun K hK => ?_) (AllReadyH.cons rfl (fun K hK => ?_) (AllReadyH.nil))
    · have y3 : x8.cell? ⟨wd.heap.size, 3, none⟩ = some (.slice Qa m Qc) := (H1.out.below LB.out).blk.cell 3
      rw [if_pos (by rfl)]
      go_simp
      clear y3
      refine hK.out _ _ trivial (fun hHeld => ?_)
      clear hK K
      (try simp only [Act.put]); (try simp only [List.setIfInBounds_toArray]); (try simp only [List.set_cons_succ]); (try simp only [List.set_cons_zero])
      refine wpAnyH_ready (rs := [10]) (by kernel_rfl) (by simp) ?_
      refine AllReadyH.cons rfl (fun K hK => ?_) (AllReadyH.nil)
      rw [if_pos (by rfl)]
      go_simp
      have BX := Joins.below_alloc1 x8 (.cells #[.int .i64 st, .bool up, .slice V5 n c5] 38)
      have OA := Lib.hid (own_below OR.out BX)
      have LC := Lib.hid (LB.out.trans (BX.mono LB.out.size))
      have HNB := Lib.hid (World.news_of_block (heap_alloc_new x8 (.cells #[.int .i64 st, .bool up, .slice V5 n c5] 38)))
      have GA := Lib.hid (H1.out.below LC.out)
      clear BX
      refine hK.out _ _ trivial (fun hHeld => ?_)
      clear hK K
      (try simp only [Act.put]); (try simp only [List.setIfInBounds_toArray]); (try simp only [List.set_cons_succ]); (try simp only [List.set_cons_zero])
      refine wpAnyH_ready (rs := [11]) (by kernel_rfl) (by simp) ?_
      refine AllReadyH.cons rfl (fun K hK => ?_) (AllReadyH.nil)
      refine step_append_lies _ (by rfl) _ _ _ (by rfl) (wd.heap.size + 1) 38 i0 _ 3 40 Try.underlying26 HI.out.1 HI.out.2.1 HI.out.2.2.1 HI.out.2.2.2 rfl (by omega) (.slice Qa m Qc) m (rs.flatMap LockR.cells) (by rfl) (by have := GA.out.own.1; unfold OwnOf at this; rw [HM.out] at this; exact this) ⟨x8.heap.size, 0, none⟩ 1 1 (LockR.cells (⟨st, up, .slice V5 n c5, s⟩ : LockR)) (by rfl) (by rfl) HNB.out (lock_one _ rfl) (by omega) (by unfold maxLen; omega) (by omega) GA.out.size _ rfl ?_
      intro g4 cap4 w4 hown4 hgrow4 hor4 hlt4
      have B4 := GA.out.blk.grown hgrow4 (fun e => GA.out.far e.symm)
      have f4 : w4.frozen? ⟨wd.heap.size, 3, none⟩ = false := B4.free 3
      have s4 : w4.cell? ⟨wd.heap.size, 3, none⟩ = some (.slice Qa m Qc) := B4.cell 3
      have CX := Lib.hid (H1.out.next (g4 := g4) (cap4 := cap4) (W2 := w4) LC.out OA.out (by rw [HM.out]; exact hown4) hgrow4 hor4)
      rw [HM.out] at CX
      clear B4 hown4 hgrow4 hor4 hlt4
      refine hK.out _ _ trivial (fun hHeld => ?_)
      clear hK K
      (try simp only [Act.put]); (try simp only [List.setIfInBounds_toArray]); (try simp only [List.set_cons_succ]); (try simp only [List.set_cons_zero])
      refine tk 12 ?_
      (try simp only [Act.put]); (try simp only [List.setIfInBounds_toArray]); (try simp only [List.set_cons_succ]); (try simp only [List.set_cons_zero])
      refine tk 13 ?_
      (try simp only [Act.put]); (try simp only [List.setIfInBounds_toArray]); (try simp only [List.set_cons_succ]); (try simp only [List.set_cons_zero])
      refine wpAnyH_ready (rs := [14]) (by kernel_rfl) (by simp) ?_
      refine AllReadyH.cons rfl (fun K hK => ?_) (AllReadyH.nil)
      rw [if_pos (by rfl)]
      go_simp
      clear f4 s4
      refine hK.out _ _ trivial (fun hHeld => ?_)
      clear hK K
      (try simp only [Act.put]); (try simp only [List.setIfInBounds_toArray]); (try simp only [List.set_cons_succ]); (try simp only [List.set_cons_zero])
      refine wpAnyH_done (by kernel_rfl) ?_ _
      exact end0 rfl rfl ⟨_, _, rfl, CX.out⟩
    · rw [if_pos (by rfl)]
      go_simp
      have BX := Joins.below_alloc1 x8 (.cells #[.int .i64 st, .bool up, .slice V5 n c5] 38)
      have OA := Lib.hid (own_below OR.out BX)
      have LC := Lib.hid (LB.out.trans (BX.mono LB.out.size))
      have HNB := Lib.hid (World.news_of_block (heap_alloc_new x8 (.cells #[.int .i64 st, .bool up, .slice V5 n c5] 38)))
      have GA := Lib.hid (H1.out.below LC.out)
      clear BX
      refine hK.out _ _ trivial (fun hHeld => ?_)
      clear hK K
      (try simp only [Act.put]); (try simp only [List.setIfInBounds_toArray]); (try simp only [List.set_cons_succ]); (try simp only [List.set_cons_zero])
      refine wpAnyH_ready (rs := [4]) (by kernel_rfl) (by simp) ?_
      refine AllReadyH.cons rfl (fun K hK => ?_) (AllReadyH.nil)
      have y3 : (x8.alloc (.cells #[.int .i64 st, .bool up, .slice V5 n c5] 38)).cell? ⟨wd.heap.size, 3, none⟩ = some (.slice Qa m Qc) := (H1.out.below LC.out).blk.cell 3
      rw [if_pos (by rfl)]
      go_simp
      clear y3
      refine hK.out _ _ trivial (fun hHeld => ?_)
      clear hK K
      (try simp only [Act.put]); (try simp only [List.setIfInBounds_toArray]); (try simp only [List.set_cons_succ]); (try simp only [List.set_cons_zero])
      refine wpAnyH_ready (rs := [11]) (by kernel_rfl) (by simp) ?_
      refine AllReadyH.cons rfl (fun K hK => ?_) (AllReadyH.nil)
      refine step_append_lies _ (by rfl) _ _ _ (by rfl) (wd.heap.size + 1) 38 i0 _ 3 40 Try.underlying26 HI.out.1 HI.out.2.1 HI.out.2.2.1 HI.out.2.2.2 rfl (by omega) (.slice Qa m Qc) m (rs.flatMap LockR.cells) (by rfl) (by have := GA.out.own.1; unfold OwnOf at this; rw [HM.out] at this; exact this) ⟨x8.heap.size, 0, none⟩ 1 1 (LockR.cells (⟨st, up, .slice V5 n c5, s⟩ : LockR)) (by rfl) (by rfl) HNB.out (lock_one _ rfl) (by omega) (by unfold maxLen; omega) (by omega) GA.out.size _ rfl ?_
      intro g4 cap4 w4 hown4 hgrow4 hor4 hlt4
      have B4 := GA.out.blk.grown hgrow4 (fun e => GA.out.far e.symm)
      have f4 : w4.frozen? ⟨wd.heap.size, 3, none⟩ = false := B4.free 3
      have s4 : w4.cell? ⟨wd.heap.size, 3, none⟩ = some (.slice Qa m Qc) := B4.cell 3
      have CX := Lib.hid (H1.out.next (g4 := g4) (cap4 := cap4) (W2 := w4) LC.out OA.out (by rw [HM.out]; exact hown4) hgrow4 hor4)
      rw [HM.out] at CX
      clear B4 hown4 hgrow4 hor4 hlt4
      refine hK.out _ _ trivial (fun hHeld => ?_)
      clear hK K
      (try simp only [Act.put]); (try simp only [List.setIfInBounds_toArray]); (try simp only [List.set_cons_succ]); (try simp only [List.set_cons_zero])
      refine tk 12 ?_
      (try simp only [Act.put]); (try simp only [List.setIfInBounds_toArray]); (try simp only [List.set_cons_succ]); (try simp only [List.set_cons_zero])
      refine tk 13 ?_
      (try simp only [Act.put]); (try simp only [List.setIfInBounds_toArray]); (try simp only [List.set_cons_succ]); (try simp only [List.set_cons_zero])
      refine wpAnyH_ready (rs := [14]) (by kernel_rfl) (by simp) ?_
      refine AllReadyH.cons rfl (fun K hK => ?_) (AllReadyH.nil)
      rw [if_pos (by rfl)]
      go_simp
      clear f4 s4
      refine hK.out _ _ trivial (fun hHeld => ?_)
      clear hK K
      (try simp only [Act.put]); (try simp only [List.setIfInBounds_toArray]); (try simp only [List.set_cons_succ]); (try simp only [List.set_cons_zero])
      refine wpAnyH_done (by kernel_rfl) ?_ _
      exact end0 rfl rfl ⟨_, _, rfl, CX.out⟩
end Go.Proofs.Ytlddampjbmklkaa
