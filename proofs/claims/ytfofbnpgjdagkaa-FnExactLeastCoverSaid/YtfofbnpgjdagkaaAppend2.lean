
/- append onto a list of one's own: where there is no room, the old block stays as it was. Over any program. -/
import Derived.OwnWalkIn
import Derived.Laws.AppendOwn
import Derived.RangeFuncNested
import Derived.Test.YtfofbnpgjdagkaaBlk0
namespace Go.Proofs.Ytfofbnpgjdagkaa
open Go.RowKit

theorem run_append_own_full {P : Program} (w : World) (base : Nat) (t ty e : TypeId) (i : TypeInfo) (z : Value) (size bytes : Nat) (ht : P.underlying t = some (.slice e)) (hi : P.info? e = some i) (hz : i.zero = some z)
    (hsize : i.size = size) (hby : i.bytes = bytes) (hzs : z.cells.size = size) (hsz : 0 < size)
    (v : Value) (n : Nat) (xs : List Value) (hown : w.ownsRow base e size v n xs)
    (a : Addr) (m c : Nat) (news : List Value) (hl : news.length = m * size) (hnews : ∀ j u, news[j]? = some u → w.cell? (a.add j) = some u) (h1 : ∀ u ∈ news, u.oneCell' = true)
    (h63 : n + m ≤ maxLen) (hbytes : (n + m) * bytes ≤ 140737488355328) (hbase : base ≤ w.heap.size) :
    ∃ v' w', (Builtin.append_ #[t, t] ty #[v, .slice (some a) m c]).run P w = .ok v' w' ∧ w'.ownsRow base e size v' (n + m) (xs ++ news) ∧ w.grownBy w' v.ownBlock ∧
      (v' = .slice none 0 0 ↔ v = .slice none 0 0 ∧ m = 0) ∧ ∀ g cap, v = .slice (some ⟨g, 0, none⟩) n cap → cap < n + m → w.grownBy w' none := by
  obtain ⟨v', w', hr, h2, h3, h4⟩ := run_append_own (P := P) w base t ty e i z size bytes ht hi hz hsize hby hzs hsz v n xs hown a m c news hl hnews h1 h63 hbytes hbase
  refine ⟨v', w', hr, h2, h3, h4, ?_⟩
  intro g cap ev hlt
  subst ev
  subst hsize
  subst hby
  have hsmall : n + m ≤ 9223372036854775807 := by simp only [maxLen] at h63; omega
  have hr2 := run_append_grow (P := P) w t ty e i z ht hi hz ⟨g, 0, none⟩ n cap xs hown.1 (hown.cells (g := g) rfl) a m c news hl hnews hlt (by omega) (growslice_fits (by omega) hbytes)
  rw [hr] at hr2
  injection hr2 with e1 e2
  subst e2
  exact ⟨rfl, rfl, rfl, by simp, fun k hk _ => heap_alloc_old w.drew _ hk⟩

theorem wpListIn_append_full {F : Fence} {n : Nat} {P : Program} (w : World) {ops : Array Oper} {rest : List Oper} {o : Oper} {a : Act} {Q : Exit → Act → World → Prop}
    (hg : o.guard = none) (s x : Operand) (t : TypeId) (hop : o.op = Op.call { callee := Callee.builtin Builtin.append, args := #[s, x], argTypes := #[t, t] })
    (base : Nat) (e : TypeId) (i : TypeInfo) (z : Value) (size bytes : Nat) (h1 : P.underlying t = some (.slice e)) (h2 : P.info? e = some i) (h3 : i.zero = some z) (h4 : i.size = size) (h5 : i.bytes = bytes) (h6 : z.cells.size = size) (h7 : 0 < size)
    (v : Value) (k : Nat) (xs : List Value) (hs : a.eval s = v) (hown : w.ownsRow base e size v k xs) (ad : Addr) (m c : Nat) (news : List Value) (hx : a.eval x = .slice (some ad) m c) (hn : news.length = m * size)
    (hc : ∀ j u, news[j]? = some u → w.cell? (ad.add j) = some u) (h1c : ∀ u ∈ news, u.oneCell' = true) (b1 : k + m ≤ maxLen) (b2 : (k + m) * bytes ≤ 140737488355328) (b3 : base ≤ w.heap.size)
    (hK : ∀ v' w', w'.ownsRow base e size v' (k + m) (xs ++ news) → w.grownBy w' v.ownBlock → (∀ g cap, v = .slice (some ⟨g, 0, none⟩) k cap → cap < k + m → w.grownBy w' none) → wpListIn F n P ops Q rest (a.put o.dst v') w') :
    wpListIn F n P ops Q (o :: rest) a w := by
  refine wpListIn_plain hg fun K hK' => ?_
  obtain ⟨v', w', hrun, r1, r2, r3, r4⟩ := run_append_own_full (P := P) w base t o.type e i z size bytes h1 h2 h3 h4 h5 h6 h7 v k xs hown ad m c news hn hc h1c b1 b2 b3
  unfold Oper.wpIn
  refine ⟨?_, ?_⟩
  · simp [Oper.about, hop, resolve, Target.leads, Sem.run_pure]
  · rw [Oper.semAt_plain F _ _ (by rw [hop]; intro c hc'; cases hc')]
    simp [execOp, hop, resolve, invoke, builtin, hs, hx, hrun, Result.andThen]
    exact hK' _ _ (hK v' w' r1 r2 r4)

/-- What lay below n₀, and every block of just two cells of type t, lies as it lay. -/
def Kp2 (t : TypeId) (n₀ : Nat) (A B : World) : Prop := Below n₀ A B ∧ ∀ (k : Nat) (cs : Array Value), A.heap[k]? = some (.cells cs t (0, 0)) → cs.size = 2 → B.heap[k]? = A.heap[k]?
theorem Kp2.t {t : TypeId} {n₀ : Nat} {A B C : World} (h : Kp2 t n₀ A B) (k : Kp2 t n₀ B C) : Kp2 t n₀ A C :=
  ⟨h.1.trans k.1, fun j cs hj hs => (k.2 j cs ((h.2 j cs hj hs).trans hj) hs).trans (h.2 j cs hj hs)⟩
theorem Kp2.alloc {t : TypeId} {n₀ : Nat} {W : World} (h : n₀ ≤ W.heap.size) (o : Obj) : Kp2 t n₀ W (W.alloc o) :=
  ⟨(Below.refl _ W).alloc h o, fun _ _ hk _ => heap_alloc_old W o (Array.getElem?_eq_some_iff.1 hk).1⟩
theorem Kp2.b {t : TypeId} {n₀ : Nat} {w : World} (hn : n₀ ≤ w.heap.size) (W : World) (l : Nat) (o o' : Obj) (hl : w.heap.size ≤ l) (h : W.heap[l]? = some o) (h1 : o.isCells = false) (h2 : o.isWalk = false) : Kp2 t n₀ W (W.putObj l o') :=
  ⟨belowK_b hn W l o o' hl h h1 h2, fun k cs hk _ => World.putObj_heap_other (fun e => by subst e; rw [h] at hk; cases hk; cases h1)⟩
theorem Kp2.blk {t : TypeId} {n₀ : Nat} {A B : World} (h : Kp2 t n₀ A B) {k : Nat} {a b : Value} (hk : Blk A k #[a, b] t) : Blk B k #[a, b] t := (h.2 k _ hk rfl).trans hk
/-- An append of one element onto a list in a box keeps the blocks of two cells, if a list of none has no block. -/
theorem Kp2.appended {t tb : TypeId} {n₀ B : Nat} {W w1 : World} {v v' : Value} {k : Nat} {xs : List Value} {tmp : Obj} (hb : Below n₀ W (w1.setCell ⟨B, 0, none⟩ v')) (hbox : Boxed W B tb v) (hne : tb ≠ t) {base : Nat} (hrow : W.ownsRow base t 2 v k xs)
    (hnil : k = 0 → v = .slice none 0 0) (hgrow : (W.alloc tmp).grownBy w1 v.ownBlock) (hfull : ∀ g cap, v = .slice (some ⟨g, 0, none⟩) k cap → cap < k + 1 → (W.alloc tmp).grownBy w1 none) : Kp2 t n₀ W (w1.setCell ⟨B, 0, none⟩ v') := by
  refine ⟨hb, fun j cs hj hs => ?_⟩
  have hjW : j < W.heap.size := (Array.getElem?_eq_some_iff.1 hj).1
  have hjB : j ≠ B := by
    intro e; subst e
    rw [show W.heap[j]? = _ from hbox] at hj
    injection hj with hj
    injection hj with _ h2
    exact hne h2
  have e1 : (w1.setCell ⟨B, 0, none⟩ v').heap[j]? = w1.heap[j]? := Below.heap_setCell w1 ⟨B, 0, none⟩ v' j hjB
  have e2 : (W.alloc tmp).heap[j]? = W.heap[j]? := heap_alloc_old W tmp hjW
  have hjA : j < (W.alloc tmp).heap.size := by simp; omega
  rw [e1]
  by_cases ho : some j = v.ownBlock
  · rcases hrow.2 with ⟨rfl, _⟩ | ⟨g, cap, cur, rfl, _, hgb, hkc, _, hcs, _⟩
    · simp [Value.ownBlock] at ho
    · obtain rfl : j = g := by simpa [Value.ownBlock] using ho
      rw [hgb] at hj
      injection hj with hj
      injection hj with h1 _
      subst h1
      have hk0 : k ≠ 0 := fun e => by have := hnil e; simp at this
      exact ((hfull j cap rfl (by omega)).block j hjA (by simp)).trans e2
  · exact (hgrow.block j hjA ho).trans e2
end Go.Proofs.Ytfofbnpgjdagkaa
