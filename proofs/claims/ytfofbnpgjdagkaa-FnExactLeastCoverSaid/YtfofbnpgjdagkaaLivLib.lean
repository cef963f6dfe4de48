
/- A region that draws its order, by an invariant; lists of one's own in it. -/
import Derived.Test.YtfofbnpgjdagkaaKeep
import Derived.Test.YtfofbnpgjdagkaaInts
import Derived.Test.YtfofbnpgjdagkaaTouch
import Derived.Deep.RegionHeld3
namespace Go.Proofs.Ytfofbnpgjdagkaa
open Go.RowKit
set_option maxRecDepth 100000

/-- The region is walked by an invariant I n: n operations are still to come ahead of the last c. -/
theorem wpAnyH_inv {P : Program} {md : Region.Mode} {ops : Array Oper} {Q : Exit → Act → World → Prop} {S : World → Prop} (I : Nat → Array Bool → Act → World → Prop) (c : Nat)
    (base : ∀ listed a w, I 0 listed a w → wpAnyH P md ops Q S c listed a w)
    (step : ∀ n listed a w, I (n + 1) listed a w → ∃ rs, Region.ready md ops listed = rs ∧ rs ≠ [] ∧ ∀ i ∈ rs, wpOp P ops Q i (fun a' w' => S w' ∧ I n (listed.setIfInBounds i true) a' w') a w) :
    ∀ n listed a w, I n listed a w → wpAnyH P md ops Q S (c + n) listed a w := by
  intro n
  induction n with
  | zero => exact base
  | succ n ih =>
    intro listed a w h
    obtain ⟨rs, hr, hne, hi⟩ := step n listed a w h
    exact wpAnyH_all hr hne fun i hm => wpOp_mono (fun a' w' h' => ⟨h'.1, ih _ _ _ h'.2⟩) (hi i hm)

section
variable {ops : Array Oper} {o : Oper} {a : Act} {w : World} {K : Act → World → Prop} {Q : Exit → Act → World → Prop} {E : Prop}
theorem step_build0 (hgd : o.guard = none) (ho : o.op = Op.buildSlice 23 0 #[]) (h : K (a.put o.dst (.slice (some ⟨w.heap.size, 0, none⟩) 0 0)) (w.alloc (.cells #[] 3))) :
    if Region.wanted o (yielded ops a.tmps) = true then Oper.wp Try.prog o a w K Q else E := by
  have hw : Region.wanted o (yielded ops a.tmps) = true := by simp [Region.wanted, hgd]
  rw [if_pos hw]
  unfold Oper.wp execOp
  rw [ho]
  go_simp
  exact h
theorem step_build1 (hgd : o.guard = none) (x : Operand) (y : Int) (ho : o.op = Op.buildSlice 23 1 #[(0, x)]) (hx : a.eval x = .int .i64 y) (h : K (a.put o.dst (.slice (some ⟨w.heap.size, 0, none⟩) 1 1)) (w.alloc (.cells #[.int .i64 y] 3))) :
    if Region.wanted o (yielded ops a.tmps) = true then Oper.wp Try.prog o a w K Q else E := by
  have hw : Region.wanted o (yielded ops a.tmps) = true := by simp [Region.wanted, hgd]
  rw [if_pos hw]
  unfold Oper.wp execOp
  rw [ho]
  simp only [List.map_toArray, List.map_cons, List.map_nil, hx]
  go_simp
  exact h
end

theorem KeepX.cell {ex : Nat → Prop} {w w' : World} (h : KeepX ex w w') {p : Addr} {v : Value} (hc : w.cell? p = some v) (hn : ¬ ex p.block) : w'.cell? p = some v :=
  (World.cell?_of_block (h.block p.block (World.block_lt_of_cell? w _ hc) hn)).trans hc
theorem SlOf.keepX {α : Type} {k : Nat} {cs : α → List Value} {ex : Nat → Prop} {w w' : World} {v : Value} {l : List α} (h : SlOf k cs w v l) (hk : KeepX ex w w') (hv : ∀ g, v.ownBlock = some g → ¬ ex g) : SlOf k cs w' v l := by
  refine ⟨h.1, ?_⟩
  rcases h.2 with ⟨rfl, A, n, rfl⟩ | ⟨g, o, n, rfl, hp, hcap, hc⟩
  · exact .inl ⟨rfl, A, n, rfl⟩
  · refine .inr ⟨g, o, n, rfl, hp, hcap, fun i x hx j u hu => ?_⟩
    have h1 := hc i x hx j u hu
    exact (World.cell?_of_block (hk.block g (World.block_lt_of_cell? w _ h1) (hv g rfl))).trans h1

/-- Lists of one's own, no two in one block, over what has come since wd. -/
structure Liv (wd x : World) (L : List (Nat × Value × List Int)) : Prop where
  own : ∀ p ∈ L, OwnInt x wd.heap.size p.2.1 p.2.2
  ap : ∀ p ∈ L, ∀ q ∈ L, p ≠ q → ApartV p.2.1 q.2.1
  low : Below wd.heap.size wd x
theorem Liv.nil (w : World) : Liv w w [] := ⟨fun p hp => absurd hp (by simp), fun p hp => absurd hp (by simp), Below.refl _ _⟩
theorem Liv.sub {wd x : World} {L L' : List (Nat × Value × List Int)} (h : Liv wd x L) (hs : ∀ p ∈ L', p ∈ L) : Liv wd x L' := ⟨fun p hp => h.own p (hs p hp), fun p hp q hq hne => h.ap p (hs p hp) q (hs q hq) hne, h.low⟩
theorem ApartV.symm' {v u : Value} (h : ApartV v u) : ApartV u v := fun g hg hg' => h g hg' hg
theorem Liv.build {wd x : World} {L : List (Nat × Value × List Int)} (h : Liv wd x L) (τ : Nat) (l : List Int) (hl : l.length ≤ 1000000) :
    Liv wd (x.alloc (.cells (l.map (Value.int .i64)).toArray 3)) ((τ, .slice (some ⟨x.heap.size, 0, none⟩) l.length l.length, l) :: L) := by
  have hb := Joins.below_alloc1 x (.cells (l.map (Value.int .i64)).toArray 3)
  have hfl : l.flatMap intCells = l.map (Value.int .i64) := by
    induction l with
    | nil => rfl
    | cons y l ih => rw [List.flatMap_cons, ih (by simp at hl; omega) (Joins.below_alloc1 x _)]; rfl
  refine ⟨fun p hp => ?_, fun p hp q hq hne => ?_, h.low.trans (hb.mono h.low.size)⟩
  · rcases List.mem_cons.1 hp with rfl | hp
    · have h1 := World.ownsRow_lit (base := wd.heap.size) (e := 3) (size := 1) x (l.map (Value.int .i64)).toArray l.length h.low.size (by unfold maxLen; omega) (by simp)
      unfold OwnInt OwnOf
      rw [hfl]
      exact h1
    · exact own_below (h.own p hp) hb
  · have hfar : ∀ q ∈ L, ApartV (.slice (some ⟨x.heap.size, 0, none⟩) l.length l.length) q.2.1 := fun q hq g hg hg' => by
      simp [Value.ownBlock] at hg
      have := own_range (h.own q hq) g hg'
      omega
    rcases List.mem_cons.1 hp with rfl | hp
    · rcases List.mem_cons.1 hq with rfl | hq
      · exact absurd rfl hne
      · exact hfar q hq
    · rcases List.mem_cons.1 hq with rfl | hq
      · exact (hfar p hp).symm'
      · exact h.ap p hp q hq hne
/-- One of them has been appended to. -/
theorem Liv.app {wd x x' : World} {L L' : List (Nat × Value × List Int)} (h : Liv wd x L) {τ : Nat} {v : Value} {l m : List Int} (hv : (τ, v, l) ∈ L) (τ' : Nat) {g n cap : Nat}
    (hown : OwnInt x' wd.heap.size (.slice (some ⟨g, 0, none⟩) n cap) m) (hgr : x.grownBy x' v.ownBlock) (hor : v.ownBlock = some g ∨ g = x.heap.size) (hL : ∀ q ∈ L', q ∈ L ∧ q.1 ≠ τ) :
    Liv wd x' ((τ', .slice (some ⟨g, 0, none⟩) n cap, m) :: L') := by
  have hfar : ∀ q ∈ L', ApartV (.slice (some ⟨g, 0, none⟩) n cap) q.2.1 := fun q hq j hj hj' => by
    simp [Value.ownBlock] at hj
    subst hj
    rcases hor with e | e
    · exact h.ap _ hv q (hL q hq).1 (fun e' => (hL q hq).2 (by rw [← e'])) g e hj'
    · have := own_range (h.own q (hL q hq).1) g hj'
      omega
  refine ⟨fun p hp => ?_, fun p hp q hq hne => ?_, ?_⟩
  · rcases List.mem_cons.1 hp with rfl | hp
    · exact hown
    · exact own_keep (h.own p (hL p hp).1) (KeepX.grown (ex := fun i => v.ownBlock = some i) hgr (fun _ e => e)) (fun j hj e => h.ap _ hv p (hL p hp).1 (fun e' => (hL p hp).2 (by rw [← e'])) j e hj)
  · rcases List.mem_cons.1 hp with rfl | hp
    · rcases List.mem_cons.1 hq with rfl | hq
      · exact absurd rfl hne
      · exact hfar q hq
    · rcases List.mem_cons.1 hq with rfl | hq
      · exact (hfar p hp).symm'
      · exact h.ap p (hL p hp).1 q (hL q hq).1 hne
  · exact h.low.grown hgr h.low.size (fun j e => by have := own_range (h.own _ hv) j e; omega)

section
variable {ops : Array Oper} {o : Oper} {a : Act} {K : Act → World → Prop} {Q : Exit → Act → World → Prop} {E : Prop}
/-- A step that appends a list (which reads so) to one of them. -/
theorem step_liv {wd x : World} {L L' : List (Nat × Value × List Int)} (h : Liv wd x L) {τ : Nat} (τ' : Nat) {v u : Value} {l m : List Int} (hgd : o.guard = none) (s t : Operand)
    (ho : o.op = .call { callee := .builtin .append, args := #[s, t], argTypes := #[23, 23] }) (hs : a.eval s = v) (ht : a.eval t = u) (hv : (τ, v, l) ∈ L) (hu : SlInt x u m) (hb : l.length + m.length ≤ 10000000)
    (hL : ∀ q ∈ L', q ∈ L ∧ q.1 ≠ τ) (hK : ∀ v' x', Liv wd x' ((τ', v', l ++ m) :: L') → K (a.put o.dst v') x') :
    if Region.wanted o (yielded ops a.tmps) = true then Oper.wp Try.prog o a x K Q else E := by
  obtain ⟨i0, hi, hz0, hz1, hz2⟩ := info1_int
  have ho1 := h.own _ hv
  obtain ⟨A, c, e⟩ := own_form ho1
  simp only at e
  subst e
  rcases hu.2 with ⟨rfl, B, c', rfl⟩ | ⟨g, of, c', rfl, hp, hcap, hc⟩
  · have hlc : l.length ≤ c := by
      rcases ho1.2 with ⟨e, h0⟩ | ⟨g, cap, cur, e, _, _, hnc, _⟩
      · injection e with _ e2 _; omega
      · injection e with _ _ e3; omega
    refine step_append_none x hgd s t _ ho 3 i0 Try.underlying23 hi A l.length c hs hlc B c' ht ?_
    refine hK _ x ?_
    rw [List.append_nil]
    refine ⟨fun p hp => ?_, fun p hp q hq hne => ?_, h.low⟩
    · rcases List.mem_cons.1 hp with rfl | hp
      · exact ho1
      · exact h.own p (hL p hp).1
    · rcases List.mem_cons.1 hp with rfl | hp
      · rcases List.mem_cons.1 hq with rfl | hq
        · exact absurd rfl hne
        · exact h.ap _ hv q (hL q hq).1 (fun e' => (hL q hq).2 (by rw [← e']))
      · rcases List.mem_cons.1 hq with rfl | hq
        · exact h.ap p (hL p hp).1 (τ, .slice A l.length c, l) hv (fun e' => (hL p hp).2 (by rw [e']))
        · exact h.ap p (hL p hp).1 q (hL q hq).1 hne
  · have hsrc : ∀ j w', (m.flatMap intCells)[j]? = some w' → x.cell? ((⟨g, of, none⟩ : Addr).add j) = some w' := fun j w' hj => by
      have hjl : j < m.length := by have := (List.getElem?_eq_some_iff.1 hj).1; rw [flat_len intLen] at this; omega
      obtain ⟨y, hy⟩ : ∃ y, m[j]? = some y := ⟨_, List.getElem?_eq_getElem hjl⟩
      have e1 := flat_at intLen m j y hy 0 _ rfl
      rw [Nat.mul_one, Nat.add_zero, hj] at e1
      injection e1 with e1
      subst e1
      have e2 := hc j y hy 0 _ rfl
      rw [Addr.add_lit]
      simpa using e2
    refine step_append_keeps x hgd s t _ ho wd.heap.size 3 i0 _ 1 8 Try.underlying23 hi hz0 hz1 hz2 rfl (by omega) (.slice A l.length c) l.length (l.flatMap intCells) hs ho1 ⟨g, of, none⟩ m.length c' (m.flatMap intCells) ht (flat_len intLen m) hsrc (fun y hy => ?_) hp (by unfold maxLen; omega) (by omega) h.low.size ?_
    · obtain ⟨z, _, hz⟩ := List.mem_flatMap.1 hy
      exact int_one z y hz
    · intro g4 cap4 x4 hown hgr hor _ _
      refine hK _ x4 (h.app hv τ' (m := l ++ m) ?_ hgr hor hL)
      unfold OwnInt OwnOf
      rw [List.length_append, List.flatMap_append]
      exact hown
end
theorem mem1 {α : Type} {q a0 : α} (h : q ∈ [a0]) : q = a0 := by simpa using h
theorem mem2 {α : Type} {q a0 a1 : α} (h : q ∈ [a0, a1]) : q = a0 ∨ q = a1 := by simpa using h
theorem mem3 {α : Type} {q a0 a1 a2 : α} (h : q ∈ [a0, a1, a2]) : q = a0 ∨ q = a1 ∨ q = a2 := by simpa using h
theorem mem4 {α : Type} {q a0 a1 a2 a3 : α} (h : q ∈ [a0, a1, a2, a3]) : q = a0 ∨ q = a1 ∨ q = a2 ∨ q = a3 := by simpa using h
theorem mem5 {α : Type} {q a0 a1 a2 a3 a4 : α} (h : q ∈ [a0, a1, a2, a3, a4]) : q = a0 ∨ q = a1 ∨ q = a2 ∨ q = a3 ∨ q = a4 := by simpa using h
theorem wp_of_step {P : Program} {ops : Array Oper} {o : Oper} {a : Act} {w : World} {K : Act → World → Prop} {Q : Exit → Act → World → Prop} (hgd : o.guard = none)
    (h : if Region.wanted o (yielded ops a.tmps) = true then Oper.wp P o a w K Q else False) : Oper.wp P o a w K Q := by
  have hw : Region.wanted o (yielded ops a.tmps) = true := by simp [Region.wanted, hgd]
  rw [if_pos hw] at h
  exact h
end Go.Proofs.Ytfofbnpgjdagkaa
