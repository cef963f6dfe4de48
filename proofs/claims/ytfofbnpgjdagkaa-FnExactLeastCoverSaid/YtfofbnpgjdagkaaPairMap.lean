
/- A map from pairs of places to bools, keyed by arrays of two ints: what it holds, what is read out of it, how it is filled. -/
import Derived.Test.YtfofbnpgjdagkaaKeepX
import Derived.Test.YtfofbnpgjdagkaaText
import Derived.Maps.Own
import Derived.Maps.Views
import Derived.Maps.OwnSet
import Derived.WideKeyPair
namespace Go.Proofs.Ytfofbnpgjdagkaa
open Go.RowKit Go.Maps Go.WideMaps
set_option maxRecDepth 100000

theorem arr_pair : ArrKey Try.prog 82 3 2 := ⟨Try.underlying82, by kernel_rfl, by kernel_rfl, by kernel_rfl⟩
theorem law_pair : Keyed Try.prog 82 := Keyed.of_law arr_pair.law
def pairL (i k : Nat) : Lit := .string (keyBytes [.int .i64 (i : Int), .int .i64 (k : Int)])
theorem pairL_lit (i k : Nat) : WideAt.IsKeyLit (pairL i k) := trivial
theorem nat_wf {i : Nat} (h : i ≤ 1000000) : (Lit.int .i64 (i : Int)).wf = true := WalkArith.wf_i64 (by omega)
theorem pair_key {i k : Nat} (hi : i ≤ 1000000) (hk : k ≤ 1000000) : keyOf Try.prog 82 (.agg #[.int .i64 (i : Int), .int .i64 (k : Int)]) = some (pairL i k) :=
  keyOf_pair arr_pair Try.underlying3 ⟨Try.prog.types.size - 1, by
    have : 0 < Try.prog.types.size := of_decide_eq_true (by kernel_rfl)
    omega⟩ (nat_wf hi) (nat_wf hk)
theorem pairL_inj {i k i' k' : Nat} (hi : i ≤ 1000000) (hk : k ≤ 1000000) (hi' : i' ≤ 1000000) (hk' : k' ≤ 1000000) (e : pairL i k = pairL i' k') : i = i' ∧ k = k' := by
  have h1 := pair_key hi hk
  rw [e] at h1
  have h := law_pair.inj h1 (pair_key hi' hk')
  injection h with h
  have h := congrArg Array.toList h
  simp only [List.cons.injEq, Value.int.injEq, true_and, and_true] at h
  omega
theorem plainElem_bool_inv {H : Type} {v : Value} {z : DataW H × List MemPlace} (h : plainElem Try.prog 4 v = some z) : ∃ x, v = .bool x ∧ z = (.lit (.bool x), []) := by
  unfold plainElem at h
  rw [Try.underlying4] at h
  cases v <;> simp at h
  exact ⟨_, rfl, h.symm⟩

/-- Block b is a map of at most n entries that holds B i k at (i, k) for the pairs that are done. -/
def OwnsPairs (w : World) (b n : Nat) (B : Nat → Nat → Bool) (done : Nat → Nat → Prop) : Prop :=
  ∃ D : DataW Unit, w.ownsMap Try.prog 82 (plainElem Try.prog 4) b n D ∧ ∀ i k, i < k → k ≤ 12 → done i k → ∀ z, D.atKey (pairL i k) z = .lit (.bool (B i k))
/-- All pairs of m places. -/
def PairAt (w : World) (b m : Nat) (B : Nat → Nat → Bool) : Prop := m ≤ 12 ∧ ∃ n, OwnsPairs w b n B (fun _ k => k < m)
theorem OwnsPairs.made (w : World) (B : Nat → Nat → Bool) : OwnsPairs (w.alloc (.map #[] 0)) w.heap.size 0 B (fun _ _ => False) := ⟨_, World.ownsMap_made w _ _ _, fun _ _ _ _ h => h.elim⟩
theorem OwnsPairs.lt {w : World} {b n : Nat} {B : Nat → Nat → Bool} {done : Nat → Nat → Prop} (h : OwnsPairs w b n B done) : b < w.heap.size := by
  obtain ⟨D, h, _⟩ := h
  exact h.lt
theorem OwnsPairs.block {w w' : World} {b n : Nat} {B : Nat → Nat → Bool} {done : Nat → Nat → Prop} (h : OwnsPairs w b n B done) (e : w'.heap[b]? = w.heap[b]?) : OwnsPairs w' b n B done := by
  obtain ⟨D, ⟨es, clock, hb, r⟩, h2⟩ := h
  exact ⟨D, ⟨es, clock, e.trans hb, r⟩, h2⟩
theorem OwnsPairs.below {w w' : World} {b n : Nat} {B : Nat → Nat → Bool} {done : Nat → Nat → Prop} (h : OwnsPairs w b n B done) (hb : Below w.heap.size w w') : OwnsPairs w' b n B done := h.block (hb.block b h.lt)
theorem OwnsPairs.imp {w : World} {b n n' : Nat} {B : Nat → Nat → Bool} {done done' : Nat → Nat → Prop} (h : OwnsPairs w b n B done) (hn : n ≤ n') (hd : ∀ i k, i < k → k ≤ 12 → done' i k → done i k) : OwnsPairs w b n' B done' := by
  obtain ⟨D, h1, h2⟩ := h
  exact ⟨D, h1.mono hn, fun i k hik hk hd' => h2 i k hik hk (hd i k hik hk hd')⟩
theorem PairAt.lt {w : World} {b m : Nat} {B : Nat → Nat → Bool} (h : PairAt w b m B) : b < w.heap.size := by
  obtain ⟨_, n, h⟩ := h
  exact h.lt
theorem PairAt.below {w w' : World} {b m : Nat} {B : Nat → Nat → Bool} (h : PairAt w b m B) (hb : Below w.heap.size w w') : PairAt w' b m B := by
  obtain ⟨hm, n, h⟩ := h
  exact ⟨hm, n, h.below hb⟩
theorem PairAt.keep {ex : Nat → Prop} {w w' : World} {b m : Nat} {B : Nat → Nat → Bool} (h : PairAt w b m B) (hk : KeepX ex w w') (hx : ¬ ex b) : PairAt w' b m B := by
  have hlt := h.lt
  obtain ⟨hm, n, h⟩ := h
  exact ⟨hm, n, h.block (hk.block b hlt hx)⟩
/-- What is read. -/
theorem PairAt.look {w : World} {b m : Nat} {B : Nat → Nat → Bool} (h : PairAt w b m B) {i k : Nat} (hik : i < k) (hk : k < m) :
    (Instr.lookup 62 (.map (some b)) (.agg #[.int .i64 (i : Int), .int .i64 (k : Int)]) false).run Try.prog w = .ok (.bool (B i k)) w := by
  obtain ⟨hm, n, D, hown, hD⟩ := h
  obtain ⟨v, ps, hrun, hv⟩ := hown.lookup law_pair Try.underlying62 (Try.zeroValue4 w) (plainElem_bool Try.underlying4 false) (pair_key (i := i) (k := k) (by omega) (by omega))
  rw [hD i k hik (by omega) hk] at hv
  obtain ⟨x, rfl, hz⟩ := plainElem_bool_inv hv
  have : B i k = x := by injection hz with h1 _; injection h1 with h1; injection h1
  rw [hrun, this]
/-- One pair more. -/
theorem OwnsPairs.put {w : World} {b n : Nat} {B : Nat → Nat → Bool} {done : Nat → Nat → Prop} (h : OwnsPairs w b n B done) (hn : n ≤ 1000000) {i k : Nat} (hik : i < k) (hk : k ≤ 12) {x : Bool} (hx : B i k = x) :
    ∃ w', (Instr.mapUpdate 62 (.map (some b)) (.agg #[.int .i64 (i : Int), .int .i64 (k : Int)]) (.bool x)).run Try.prog w = .ok () w' ∧ OwnsPairs w' b (n + 1) B (fun i' k' => done i' k' ∨ (i' = i ∧ k' = k)) ∧ w.grownBy w' (some b) := by
  obtain ⟨D, hown, hD⟩ := h
  obtain ⟨w', hrun, hown', hg⟩ := hown.update law_pair Try.underlying62 (by unfold maxLen; omega) (pair_key (i := i) (k := k) (by omega) (by omega)) (plainElem_bool Try.underlying4 x)
  refine ⟨w', hrun, ⟨_, hown', fun i' k' hik' hk' hd z => ?_⟩, hg⟩
  by_cases e : i' = i ∧ k' = k
  · obtain ⟨rfl, rfl⟩ := e
    rw [atKey_put_same hown.isMap (pairL_lit _ _), hx]
  · have hne : pairL i' k' ≠ pairL i k := fun e' => e (pairL_inj (by omega) (by omega) (by omega) (by omega) e')
    rw [atKey_put_other hne]
    rcases hd with hd | hd
    · exact hD i' k' hik' hk' hd z
    · exact absurd hd e
/-- The store, for a walk. -/
theorem wpList_put_pair {ops : Array Oper} {rest : List Oper} {o : Oper} {a : Act} {Q : Exit → Act → World → Prop} (w : World) (hg : o.guard = none) (mo xo vo : Operand) (hop : o.op = Op.mapUpdate 62 mo xo vo)
    {b n : Nat} {B : Nat → Nat → Bool} {done : Nat → Nat → Prop} (h : OwnsPairs w b n B done) (hn : n ≤ 1000000) {i k : Nat} (hik : i < k) (hk : k ≤ 12) {x : Bool} (hx : B i k = x)
    (hm : a.eval mo = .map (some b)) (hxk : a.eval xo = .agg #[.int .i64 (i : Int), .int .i64 (k : Int)]) (hv : a.eval vo = .bool x)
    (hK : ∀ w', OwnsPairs w' b (n + 1) B (fun i' k' => done i' k' ∨ (i' = i ∧ k' = k)) → w.grownBy w' (some b) → wpList Try.prog ops Q rest (a.put o.dst undef) w') :
    wpList Try.prog ops Q (o :: rest) a w := by
  refine wpList_plain hg fun K' hK' => ?_
  obtain ⟨w', hrun, r1, r2⟩ := h.put hn hik hk hx
  unfold Oper.wp
  simp [execOp, hop, hm, hxk, hv, hrun, Result.andThen]
  exact hK' _ _ (hK w' r1 r2)
end Go.Proofs.Ytfofbnpgjdagkaa
