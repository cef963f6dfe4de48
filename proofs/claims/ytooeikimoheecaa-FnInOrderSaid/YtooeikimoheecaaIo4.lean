
/- What InOrderLaw rests on, part 4: contracts and mathematics. -/
import Derived.Test.YtooeikimoheecaaIo2
namespace Go.Proofs.Ytooeikimoheecaa
open Go.RowKit
section
variable {P : Program} {ops : Array Oper} {md : Region.Mode} {F : Fence} {n : Nat} {Q : Exit → Act → World → Prop} {S : World → Prop}
/-- Whatever order is picked, the first operations, k of them, come up ahead of all others. -/
def aheadB (md : Region.Mode) (ops : Array Oper) (k : Nat) : Nat → Array Bool → Bool
  | 0, listed => (List.range k).all fun i => listed.getD i true
  | f + 1, listed => !(Region.ready md ops listed).isEmpty && (Region.ready md ops listed).all fun i => decide (i < k) && aheadB md ops k f (listed.setIfInBounds i true)
def heldTo (F : Fence) (n : Nat) (P : Program) (md : Region.Mode) (ops : Array Oper) (Q : Exit → Act → World → Prop) (S : World → Prop) (R : Array Bool → Act → World → Prop) : Nat → Array Bool → Act → World → Prop
  | 0, listed, a, w => R listed a w
  | f + 1, listed, a, w => ∀ i ∈ Region.ready md ops listed, wpOpIn F n P ops Q i (fun a' w' => S w' ∧ heldTo F n P md ops Q S R f (listed.setIfInBounds i true) a' w') a w
theorem aheadB_succ {k f : Nat} {listed : Array Bool} (h : aheadB md ops k (f + 1) listed = true) : Region.ready md ops listed ≠ [] ∧ ∀ i ∈ Region.ready md ops listed, i < k ∧ aheadB md ops k f (listed.setIfInBounds i true) = true := by
  unfold aheadB at h
  simp only [Bool.and_eq_true, Bool.not_eq_true', List.all_eq_true, decide_eq_true_eq] at h
  exact ⟨fun e => by rw [e] at h; simp at h, h.2⟩
theorem anyIn_of_to {k g : Nat} {R : Array Bool → Act → World → Prop} (hR : ∀ listed a w, R listed a w → wpAnyIn F n P md ops Q g listed a w) :
    ∀ (f : Nat) (listed : Array Bool) (a : Act) (w : World), aheadB md ops k f listed = true → heldTo F n P md ops Q S R f listed a w → wpAnyIn F n P md ops Q (f + g) listed a w
  | 0, listed, a, w, _, h => by rw [Nat.zero_add]; exact hR _ _ _ h
  | f + 1, listed, a, w, hB, h => by
    rw [show f + 1 + g = (f + g) + 1 by omega]
    obtain ⟨h1, h2⟩ := aheadB_succ hB
    exact ⟨fun h0 => absurd h0 h1, fun i hi => wpOpIn_mono (fun a' w' h' => anyIn_of_to hR f _ a' w' (h2 i hi).2 h'.2) (h i hi)⟩
theorem heldTo_first (L : Lets F n P) (hd : noDefer ops = true) {k : Nat} {R : Array Bool → Act → World → Prop} {i : Nat} {oi : Oper} {v : Value} (hi : ops[i]? = some oi) (hsel : ∀ (j : Nat) (o : Oper) cs b, ops[j]? = some o → o.op ≠ .select cs b)
    (hQ : ∀ c a w, Q (.panic c) (a.put oi.dst v) w → Q (.panic c) a w) :
    ∀ (f : Nat) (listed : Array Bool) (a : Act) (w : World), aheadB md ops k (f + 1) listed = true →
      (∀ j oj, ops[j]? = some oj → j ≠ i → listed.getD j true = false → (∀ e ∈ oj.after, Region.binds md e = true → e.on ≠ i) → oi.apart ops oj = true) →
      i ∈ Region.ready md ops listed → YieldsIf P ops S oi v a → S w →
      heldTo F n P md ops Q S R f (listed.setIfInBounds i true) (a.put oi.dst v) w → heldTo F n P md ops Q S R (f + 1) listed a w := by
  intro f
  induction f with
  | zero =>
    intro listed a w hB _ hr hy hS H j hj
    by_cases hji : j = i
    · subst hji; exact yieldsIf_opIn L hd hi hy hS ⟨hS, H⟩
    · obtain ⟨_, h2⟩ := aheadB_succ hB
      have h3 := (h2 i hr).2
      unfold aheadB at h3
      rw [List.all_eq_true] at h3
      have h4 := h3 j (List.mem_range.2 (h2 j hj).1)
      have h5 := (mem_ready.1 (ready_mono hj hji)).1
      rw [h4] at h5
      cases h5
  | succ f ih =>
    intro listed a w hB hfree hr hy hS H j hj
    by_cases hji : j = i
    · subst hji; exact yieldsIf_opIn L hd hi hy hS ⟨hS, H⟩
    · have h1 := H j (ready_mono hj hji)
      obtain ⟨hjun, oj, hoj, hall⟩ := mem_ready.1 hj
      have hnot : ∀ e ∈ oj.after, Region.binds md e = true → e.on ≠ i := fun e he hb heq => by
        have h1 := hall e he hb
        have h0 := (mem_ready.1 hr).1
        rw [heq] at h1
        rcases Nat.lt_or_ge i listed.size with h' | h'
        · simp [h'] at h0 h1; rw [h0] at h1; cases h1
        · simp [Array.getElem?_eq_none h'] at h1
      have h2 := opIn_putIf L hd hoj (hfree j oj hoj hji hjun hnot) (fun cs b => hsel i oi cs b hi) (fun cs b => hsel j oj cs b hoj) hQ hy h1
      have hfree' : ∀ k ok, ops[k]? = some ok → k ≠ i → (listed.setIfInBounds j true).getD k true = false →
          (∀ e ∈ ok.after, Region.binds md e = true → e.on ≠ i) → oi.apart ops ok = true := fun k ok hk hki hun hno => by
        refine hfree k ok hk hki ?_ hno
        by_cases hjk : j = k
        · subst hjk; exact hjun
        · rw [getD_set_ne true hjk] at hun; exact hun
      refine wpOpIn_mono (fun a' w' h3 => ⟨h3.2.1, ih (listed.setIfInBounds j true) a' w' ((aheadB_succ hB).2 j hj).2 hfree' (ready_mono hr (Ne.symm hji)) h3.1 h3.2.1 ?_⟩) h2
      rw [Array.setIfInBounds_comm _ _ hji]
      exact h3.2.2
theorem heldTo_take (L : Lets F n P) (hd : noDefer ops = true) (k : Nat) {R : Array Bool → Act → World → Prop} {i : Nat} {oi : Oper} {v : Value} {f : Nat} {listed : Array Bool} {a : Act} {w : World} (hB : aheadB md ops k (f + 1) listed = true) (hi : ops[i]? = some oi)
    (hs : Region.noSelect ops = true) (hf : Region.free md ops listed i = true) (hr : (Region.ready md ops listed).contains i = true)
    (hQ : ∀ c a w, Q (.panic c) (a.put oi.dst v) w → Q (.panic c) a w) (hy : YieldsIf P ops S oi v a) (hS : S w)
    (h : heldTo F n P md ops Q S R f (listed.setIfInBounds i true) (a.put oi.dst v) w) : heldTo F n P md ops Q S R (f + 1) listed a w :=
  heldTo_first L hd hi (Region.noSelect_spec hs) hQ f listed a w hB (Region.free_spec hi hf) (by simpa using hr) hy hS h
theorem heldTo_one {i : Nat} {o : Oper} {R : Array Bool → Act → World → Prop} {f : Nat} {listed : Array Bool} {a : Act} {w : World} (hr : Region.ready md ops listed = [i]) (hi : ops[i]? = some o) (hw : Region.wanted o (yielded ops a.tmps) = true)
    (h : ∀ K : Act → World → Prop, Hid (∀ a' w', S w' → (S w' → heldTo F n P md ops Q S R f (listed.setIfInBounds i true) a' w') → K a' w') → Oper.wpIn F n P o a w K Q) : heldTo F n P md ops Q S R (f + 1) listed a w := by
  intro j hj
  rw [hr] at hj
  obtain rfl : j = i := by simpa using hj
  unfold wpOpIn
  simp only [hi, hw, if_true]
  exact h _ (Lib.hid fun a' w' h1 h2 => ⟨h1, h2 h1⟩)
theorem heldTo_end {R : Array Bool → Act → World → Prop} {listed : Array Bool} {a : Act} {w : World} (h : R listed a w) : heldTo F n P md ops Q S R 0 listed a w := h
/-- The rest, one that is alone at a time. -/
theorem anyIn_one {i : Nat} {o : Oper} {f : Nat} {listed : Array Bool} {a : Act} {w : World} (hr : Region.ready md ops listed = [i]) (hi : ops[i]? = some o) (hw : Region.wanted o (yielded ops a.tmps) = true)
    (h : ∀ K : Act → World → Prop, Hid (∀ a' w', wpAnyIn F n P md ops Q f (listed.setIfInBounds i true) a' w' → K a' w') → Oper.wpIn F n P o a w K Q) : wpAnyIn F n P md ops Q (f + 1) listed a w := by
  refine ⟨fun h0 => (by rw [hr] at h0; cases h0), fun j hj => ?_⟩
  rw [hr] at hj
  obtain rfl : j = i := by simpa using hj
  unfold wpOpIn
  simp only [hi, hw, if_true]
  exact h _ (Lib.hid fun a' w' h1 => h1)
theorem wpIn_region_headIn (k g : Nat) {id : Nat} {a : Act} {w : World} (hg : k + g = ops.size) (hB : aheadB .any ops k k (Array.replicate ops.size false) = true) (hm : P.follows .mixedOrders = true) (hS : S w.drew)
    (h : S w.drew → heldTo F n P .any ops (onlyN (Q .normal)) S (fun listed a w => wpAnyIn F n P .any ops (onlyN (Q .normal)) g listed a w) k (Array.replicate ops.size false) a w.drew) : (Code.region id ops true).wpIn F n P Q a w := by
  refine wpIn_mono (wpIn_region_any (Q := onlyN (Q .normal)) hm ?_) ?_
  · have := anyIn_of_to (k := k) (g := g) (fun _ _ _ h => h) _ _ _ _ hB (h hS)
    rw [hg] at this
    exact this
  · intro e a' w' hq
    cases e <;> first | exact hq | exact hq.elim
end
end Go.Proofs.Ytooeikimoheecaa
