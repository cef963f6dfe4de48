
/- What LocksLaw rests on, part 19: contracts and mathematics. -/
import Derived.Test.YtlddampjbmklkaaLk9
import Derived.Test.YtlddampjbmklkaaLk2
import Derived.Test.YtlddampjbmklkaaLk6
import Derived.Test.YtlddampjbmklkaaLk17
import Derived.Deep.DeepCutAuto
namespace Go.Proofs.Ytlddampjbmklkaa
open Go.RowKit
set_option maxRecDepth 100000
/-- One locking more, over a base of one's own. -/
theorem OwnLocks.next {W W1 W2 : World} {base : Nat} {v u : Value} {rs : List LockR} {st : Int} {up : Bool} {s : List Int} {g4 cap4 : Nat} (h : OwnLocks W base v rs) (hb0 : base ≤ W.heap.size) (hb : Below W.heap.size W W1) (ho : OwnInt W1 W.heap.size u s)
    (hown : W2.ownsRow base 38 3 (.slice (some ⟨g4, 0, none⟩) (rs.length + 1) cap4) (rs.length + 1) (rs.flatMap LockR.cells ++ LockR.cells ⟨st, up, u, s⟩)) (hgr : W1.grownBy W2 v.ownBlock) (hor : v.ownBlock = some g4 ∨ g4 = W1.heap.size) :
    OwnLocks W2 base (.slice (some ⟨g4, 0, none⟩) (rs.length + 1) cap4) (rs ++ [⟨st, up, u, s⟩]) := by
  obtain ⟨o1, o2, o3, o4⟩ := h
  have hz1 := hb.size
  refine ⟨?_, fun r hr => ?_, ?_, fun r hr g hg hg' => ?_⟩
  · simpa [OwnOf] using hown
  · rcases List.mem_append.1 hr with hr | hr
    · exact own_kept (own_below (o2 r hr) hb) hgr (fun b hv e => o4 r hr b e hv)
    · simp at hr
      subst hr
      exact own_lo (own_kept ho hgr (fun b hv e => by have := (own_ge o1 e).2; have := (own_ge ho hv).1; omega)) hb0
  · rw [List.pairwise_append]
    refine ⟨o3, by simp, fun a ha b hb' g hg hg' => ?_⟩
    simp at hb'
    subst hb'
    have := (own_ge (o2 a ha) hg).2
    have := (own_ge ho hg').1
    omega
  · simp [Value.ownBlock] at hg
    subst hg
    rcases List.mem_append.1 hr with hr | hr
    · rcases hor with e | e
      · exact o4 r hr g4 e hg'
      · have := (own_ge (o2 r hr) hg').2
        omega
    · simp at hr
      subst hr
      rcases hor with e | e
      · have := (own_ge o1 e).2
        have := (own_ge ho hg').1
        omega
      · have := (own_ge ho hg').2
        omega
/-- A cycle at the block behind wd, its lockings behind it; what lay in wd is as it was. -/
structure CycAt (wd w : World) (k : ChamberD) (q : Value) (rs : List LockR) : Prop where
  blk : Blk w wd.heap.size #[.int .i64 k.length, .int .i64 k.lanes, .int .i64 k.minutes, q] 72
  own : OwnLocks w (wd.heap.size + 1) q rs
  low : Below wd.heap.size wd w
section
variable {wd w : World} {k : ChamberD} {q : Value} {rs : List LockR}
theorem CycAt.below (h : CycAt wd w k q rs) {w' : World} (hb : Below w.heap.size w w') : CycAt wd w' k q rs := ⟨h.blk.below hb, h.own.below hb, h.low.trans (hb.mono h.low.size)⟩
theorem CycAt.drew (h : CycAt wd w k q rs) : CycAt wd w.drew k q rs := h.below (Below.refl _ w).drew
theorem CycAt.far (h : CycAt wd w k q rs) : q.ownBlock ≠ some wd.heap.size := fun e => Nat.lt_irrefl _ (own_ge h.own.1 e).1
theorem CycAt.form (h : CycAt wd w k q rs) : ∃ A c, q = .slice A rs.length c := own_form h.own.1
theorem CycAt.size (h : CycAt wd w k q rs) : wd.heap.size + 1 ≤ w.heap.size := h.blk.lt
theorem CycAt.new (wd : World) (k : ChamberD) : CycAt wd (wd.alloc (.cells #[.int .i64 k.length, .int .i64 k.lanes, .int .i64 k.minutes, .slice none 0 0] 72)) k (.slice none 0 0) [] :=
  ⟨Blk.new wd _ _, own_none _ _, Joins.below_alloc1 wd _⟩
/-- The lockings are kept by a write into the cycle itself. -/
theorem OwnLocks.set {W : World} {base b : Nat} (h : OwnLocks W base q rs) (hb : b < base) (j : Nat) (u : Value) : OwnLocks (W.setCell ⟨b, j, none⟩ u) base q rs :=
  ⟨own_kept h.1 (grown_set1 _ _ _ _) (fun b' hv e => by have := (own_ge h.1 hv).1; have := Option.some.inj e; omega), fun r hr => own_kept (h.2.1 r hr) (grown_set1 _ _ _ _) (fun b' hv e => by have := (own_ge (h.2.1 r hr) hv).1; have := Option.some.inj e; omega), h.2.2.1, h.2.2.2⟩
theorem CycAt.next {W1 W2 : World} {u : Value} {st : Int} {up : Bool} {s : List Int} {g4 cap4 : Nat} (h : CycAt wd w k q rs) (hb : Below w.heap.size w W1) (ho : OwnInt W1 w.heap.size u s)
    (hown : W2.ownsRow (wd.heap.size + 1) 38 3 (.slice (some ⟨g4, 0, none⟩) (rs.length + 1) cap4) (rs.length + 1) (rs.flatMap LockR.cells ++ LockR.cells ⟨st, up, u, s⟩)) (hgr : W1.grownBy W2 q.ownBlock) (hor : q.ownBlock = some g4 ∨ g4 = W1.heap.size) :
    CycAt wd (W2.setCell ⟨wd.heap.size, 3, none⟩ (.slice (some ⟨g4, 0, none⟩) (rs.length + 1) cap4)) k (.slice (some ⟨g4, 0, none⟩) (rs.length + 1) cap4) (rs ++ [⟨st, up, u, s⟩]) := by
  have hsz := h.size
  have hz1 := hb.size
  have O := h.own.next hsz hb ho hown hgr hor
  have hB : Blk W2 wd.heap.size #[.int .i64 k.length, .int .i64 k.lanes, .int .i64 k.minutes, q] 72 := (h.blk.below hb).grown hgr (fun e => h.far e.symm)
  refine ⟨?_, O.set (Nat.lt_succ_self _) _ _, ?_⟩
  · have K := hB.set 3 (.slice (some ⟨g4, 0, none⟩) (rs.length + 1) cap4)
    simp only [List.setIfInBounds_toArray, List.set_cons_succ, List.set_cons_zero] at K
    exact K
  · have h1 : Below wd.heap.size wd W2 := (h.low.trans (hb.mono h.low.size)).grown hgr (by omega) (fun b e => by have := (own_ge h.own.1 e).1; omega)
    exact h1.setCell (Nat.le_refl _) _
end
end Go.Proofs.Ytlddampjbmklkaa
