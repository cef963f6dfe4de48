
/- Lists of one's own, rows of any flat struct, in a region that draws its order. Over any program. -/
import Derived.Test.YtfofbnpgjdagkaaKeepX
import Derived.Test.YtfofbnpgjdagkaaTouch
import Derived.Test.YtfofbnpgjdagkaaBox
import Derived.Test.YtfofbnpgjdagkaaAppendKeeps
import Derived.Test.YtfofbnpgjdagkaaOwnVar
namespace Go.Proofs.Ytfofbnpgjdagkaa
open Go.RowKit
set_option maxRecDepth 100000
variable {α : Type} {k : Nat} {cs : α → List Value} {t : TypeId}
theorem apart_symm {v u : Value} (h : ApartV v u) : ApartV u v := fun g hg hg' => h g hg' hg

/-- Lists of one's own, no two in one block, over what has come since wd. -/
structure LivO {α : Type} (k : Nat) (cs : α → List Value) (t : TypeId) (wd x : World) (L : List (Nat × Value × List α)) : Prop where
  own : ∀ p ∈ L, OwnOf k cs t x wd.heap.size p.2.1 p.2.2
  ap : ∀ p ∈ L, ∀ q ∈ L, p ≠ q → ApartV p.2.1 q.2.1
  low : Below wd.heap.size wd x
theorem LivO.nil (w : World) : LivO k cs t w w [] := ⟨fun p hp => absurd hp (by simp), fun p hp => absurd hp (by simp), Below.refl _ _⟩
theorem LivO.sub {wd x : World} {L L' : List (Nat × Value × List α)} (h : LivO k cs t wd x L) (hs : ∀ p ∈ L', p ∈ L) : LivO k cs t wd x L' := ⟨fun p hp => h.own p (hs p hp), fun p hp q hq hne => h.ap p (hs p hp) q (hs q hq) hne, h.low⟩
theorem LivO.build {wd x : World} {L : List (Nat × Value × List α)} (h : LivO k cs t wd x L) (hk : ∀ y, (cs y).length = k) (τ : Nat) (l : List α) (hl : l.length ≤ 1000000) :
    LivO k cs t wd (x.alloc (.cells (l.flatMap cs).toArray t)) ((τ, .slice (some ⟨x.heap.size, 0, none⟩) l.length l.length, l) :: L) := by
  have hb := Joins.below_alloc1 x (.cells (l.flatMap cs).toArray t)
  refine ⟨fun p hp => ?_, fun p hp q hq hne => ?_, h.low.trans (hb.mono h.low.size)⟩
  · rcases List.mem_cons.1 hp with rfl | hp
    · have h1 := World.ownsRow_lit (base := wd.heap.size) (e := t) (size := k) x (l.flatMap cs).toArray l.length h.low.size (by unfold maxLen; omega) (by simp [flat_len hk])
      unfold OwnOf
      exact h1
    · exact own_below (h.own p hp) hb
  · have hfar : ∀ q ∈ L, ApartV (.slice (some ⟨x.heap.size, 0, none⟩) l.length l.length) q.2.1 := fun q hq g hg hg' => by
      simp [Value.ownBlock] at hg
      have := own_range (h.own q hq) g hg'
      omega
    rcases List.mem_cons.1 hp with rfl | hp
    · rcases List.mem_cons.1 hq with rfl | hq
      · exact absurd rfl hne
      · exact hfar q hq
    · rcases List.mem_cons.1 hq with rfl | hq
      · exact apart_symm (hfar p hp)
      · exact h.ap p hp q hq hne
/-- One of them has been appended to. -/
theorem LivO.app {wd x x' : World} {L L' : List (Nat × Value × List α)} (h : LivO k cs t wd x L) {τ : Nat} {v : Value} {l m : List α} (hv : (τ, v, l) ∈ L) (τ' : Nat) {g n cap : Nat}
    (hown : OwnOf k cs t x' wd.heap.size (.slice (some ⟨g, 0, none⟩) n cap) m) (hgr : x.grownBy x' v.ownBlock) (hor : v.ownBlock = some g ∨ g = x.heap.size) (hL : ∀ q ∈ L', q ∈ L ∧ q.1 ≠ τ) :
    LivO k cs t wd x' ((τ', .slice (some ⟨g, 0, none⟩) n cap, m) :: L') := by
  have hfar : ∀ q ∈ L', ApartV (.slice (some ⟨g, 0, none⟩) n cap) q.2.1 := fun q hq j hj hj' => by
    simp [Value.ownBlock] at hj
    subst hj
    rcases hor with e | e
    · exact h.ap _ hv q (hL q hq).1 (fun e' => (hL q hq).2 (by rw [← e'])) g e hj'
    · have := own_range (h.own q (hL q hq).1) g hj'
      omega
  refine ⟨fun p hp => ?_, fun p hp q hq hne => ?_, ?_⟩
  · rcases List.mem_cons.1 hp with rfl | hp
    · exact hown
    · exact own_keep (h.own p (hL p hp).1) (KeepX.grown (ex := fun i => v.ownBlock = some i) hgr (fun _ e => e)) (fun j hj e => h.ap _ hv p (hL p hp).1 (fun e' => (hL p hp).2 (by rw [← e'])) j e hj)
  · rcases List.mem_cons.1 hp with rfl | hp
    · rcases List.mem_cons.1 hq with rfl | hq
      · exact absurd rfl hne
      · exact hfar q hq
    · rcases List.mem_cons.1 hq with rfl | hq
      · exact apart_symm (hfar p hp)
      · exact h.ap p (hL p hp).1 q (hL q hq).1 hne
  · exact h.low.grown hgr h.low.size (fun j e => by have := own_range (h.own _ hv) j e; omega)

section
variable {P : Program} {ops : Array Oper} {o : Oper} {a : Act} {K : Act → World → Prop} {Q : Exit → Act → World → Prop} {E : Prop}
/-- A step that appends a list (which reads so) to one of them. -/
theorem step_livO {wd x : World} {L L' : List (Nat × Value × List α)} {tl : TypeId} {i0 : TypeInfo} {z : Value} {bytes : Nat} (h : LivO k cs t wd x L) (hk : ∀ y, (cs y).length = k) (h1 : ∀ y, ∀ u ∈ cs y, u.oneCell' = true) {τ : Nat} (τ' : Nat) {v u : Value} {l m : List α} (hgd : o.guard = none) (s r : Operand)
    (ho : o.op = .call { callee := .builtin .append, args := #[s, r], argTypes := #[tl, tl] }) (hs : a.eval s = v) (hr : a.eval r = u)
    (ht : P.underlying tl = some (.slice t)) (hi : P.info? t = some i0) (hz : i0.zero = some z) (hsize : i0.size = k) (hby : i0.bytes = bytes) (hzs : z.cells.size = k) (hsz : 0 < k) (hbb : bytes ≤ 1000000)
    (hv : (τ, v, l) ∈ L) (hu : SlOf k cs x u m) (hb : l.length + m.length ≤ 10000000)
    (hL : ∀ q ∈ L', q ∈ L ∧ q.1 ≠ τ) (hK : ∀ v' x', LivO k cs t wd x' ((τ', v', l ++ m) :: L') → K (a.put o.dst v') x') :
    if Region.wanted o (yielded ops a.tmps) = true then Oper.wp P o a x K Q else E := by
  have ho1 := h.own _ hv
  obtain ⟨A, c, e⟩ := own_form ho1
  simp only at e
  subst e
  rcases hu.2 with ⟨rfl, B, c', rfl⟩ | ⟨g, of, c', rfl, hp, hcap, hc⟩
  · have hlc : l.length ≤ c := by
      rcases ho1.2 with ⟨e, h0⟩ | ⟨g, cap, cur, e, _, _, hnc, _⟩
      · injection e with _ e2 _; omega
      · injection e with _ _ e3; omega
    refine step_append_none x hgd s r tl ho t i0 ht hi A l.length c hs hlc B c' hr ?_
    refine hK _ x ?_
    rw [List.append_nil]
    refine ⟨fun p hp => ?_, fun p hp q hq hne => ?_, h.low⟩
    · rcases List.mem_cons.1 hp with rfl | hp
      · exact ho1
      · exact h.own p (hL p hp).1
    · rcases List.mem_cons.1 hp with rfl | hp
      · rcases List.mem_cons.1 hq with rfl | hq
        · exact absurd rfl hne
        · exact h.ap _ hv q (hL q hq).1 (fun e' => (hL q hq).2 (by rw [← e']))
      · rcases List.mem_cons.1 hq with rfl | hq
        · exact h.ap p (hL p hp).1 (τ, .slice A l.length c, l) hv (fun e' => (hL p hp).2 (by rw [e']))
        · exact h.ap p (hL p hp).1 q (hL q hq).1 hne
  · have hsrc : ∀ j w', (m.flatMap cs)[j]? = some w' → x.cell? ((⟨g, of, none⟩ : Addr).add j) = some w' := fun j w' hj => by
      have hjl : j < m.length * k := by have := (List.getElem?_eq_some_iff.1 hj).1; rwa [flat_len hk] at this
      have hdiv : j / k < m.length := Nat.div_lt_of_lt_mul (by rw [Nat.mul_comm]; exact hjl)
      obtain ⟨y, hy⟩ : ∃ y, m[j / k]? = some y := ⟨_, List.getElem?_eq_getElem hdiv⟩
      have hmod : j % k < (cs y).length := by rw [hk]; exact Nat.mod_lt _ hsz
      obtain ⟨u', hu'⟩ : ∃ u', (cs y)[j % k]? = some u' := ⟨_, List.getElem?_eq_getElem hmod⟩
      have e1 := flat_at hk m (j / k) y hy (j % k) u' hu'
      have ej : j / k * k + j % k = j := by rw [Nat.mul_comm]; exact Nat.div_add_mod j k
      rw [ej, hj] at e1
      injection e1 with e1
      subst e1
      have e2 := hc (j / k) y hy (j % k) w' hu'
      have eo : of + j / k * k + j % k = of + j := by omega
      rw [eo] at e2
      rw [Addr.add_lit]
      exact e2
    refine step_append_lies x hgd s r tl ho wd.heap.size t i0 z k bytes ht hi hz hsize hby hzs hsz (.slice A l.length c) l.length (l.flatMap cs) hs ho1 ⟨g, of, none⟩ m.length c' (m.flatMap cs) hr (flat_len hk m) hsrc (fun y hy => ?_) hp (by unfold maxLen; omega) ?_ h.low.size _ rfl ?_
    · obtain ⟨q, _, hq⟩ := List.mem_flatMap.1 hy
      exact h1 q y hq
    · have := Nat.mul_le_mul hb hbb; omega
    · intro g4 cap4 x4 hown hgr hor _
      refine hK _ x4 (h.app hv τ' (m := l ++ m) ?_ hgr hor hL)
      unfold OwnOf
      rw [List.length_append, List.flatMap_append]
      exact hown
end
theorem wp_of_stepO {P : Program} {ops : Array Oper} {o : Oper} {a : Act} {w : World} {K : Act → World → Prop} {Q : Exit → Act → World → Prop} (hgd : o.guard = none)
    (h : if Region.wanted o (yielded ops a.tmps) = true then Oper.wp P o a w K Q else False) : Oper.wp P o a w K Q := by
  have hw : Region.wanted o (yielded ops a.tmps) = true := by simp [Region.wanted, hgd]
  rw [if_pos hw] at h
  exact h
end Go.Proofs.Ytfofbnpgjdagkaa
