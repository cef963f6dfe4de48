
/- All routes from the last of some points to a target: plain mathematics. -/
import Derived.Test.YtgjappjlnkdpnaaRouteImpl
namespace Go.Proofs.Ytgjappjlnkdpnaa
set_option maxRecDepth 100000

/-- What a route along pts has yet to do with f points more. -/
def walkF (d : ChartD) (to : Int) : Nat → List Int → List Int → List (List Int)
  | 0, pts, rt => if pts.getLast?.getD 0 = to then [rt] else []
  | f + 1, pts, rt => if pts.getLast?.getD 0 = to then [rt] else (List.range d.segs.length).flatMap fun i : Nat => if nextI d pts (i : Int) < 0 then [] else walkF d to f (pts ++ [nextI d pts (i : Int)]) (rt ++ [(i : Int)])
def stepW (d : ChartD) (to : Int) (f : Nat) (pts rt : List Int) (i : Nat) : List (List Int) :=
  match f with
  | 0 => []
  | f + 1 => if nextI d pts (i : Int) < 0 then [] else walkF d to f (pts ++ [nextI d pts (i : Int)]) (rt ++ [(i : Int)])
theorem walkF_here {d : ChartD} {to : Int} {f : Nat} {pts rt : List Int} (h : pts.getLast?.getD 0 = to) : walkF d to f pts rt = [rt] := by
  cases f <;> (unfold walkF; rw [if_pos h])
theorem walkF_on {d : ChartD} {to : Int} {f : Nat} {pts rt : List Int} (h : ¬ pts.getLast?.getD 0 = to) : walkF d to f pts rt = (List.range d.segs.length).flatMap (stepW d to f pts rt) := by
  cases f with
  | zero =>
    unfold walkF
    rw [if_neg h]
    exact (List.flatMap_eq_nil_iff.2 (fun i _ => rfl)).symm
  | succ f =>
    rw [walkF, if_neg h]
    rfl
theorem stepW_bad {d : ChartD} {to : Int} {f : Nat} {pts rt : List Int} {i : Nat} (h : nextI d pts (i : Int) < 0) : stepW d to f pts rt i = [] := by
  cases f with
  | zero => rfl
  | succ f => unfold stepW; exact if_pos h
theorem stepW_good {d : ChartD} {to : Int} {f : Nat} {pts rt : List Int} {i : Nat} (h : ¬ nextI d pts (i : Int) < 0) : stepW d to (f + 1) pts rt i = walkF d to f (pts ++ [nextI d pts (i : Int)]) (rt ++ [(i : Int)]) := by
  unfold stepW; exact if_neg h
/-- What the first k segments give. -/
def upW (d : ChartD) (to : Int) (f : Nat) (pts rt : List Int) (k : Nat) : List (List Int) := (List.range k).flatMap (stepW d to f pts rt)
theorem upW_zero (d : ChartD) (to : Int) (f : Nat) (pts rt : List Int) : upW d to f pts rt 0 = [] := rfl
theorem upW_next (d : ChartD) (to : Int) (f : Nat) (pts rt : List Int) (k : Nat) : upW d to f pts rt (k + 1) = upW d to f pts rt k ++ stepW d to f pts rt k := by
  unfold upW; rw [List.range_succ, List.flatMap_append]; simp
theorem walkF_up {d : ChartD} {to : Int} {f : Nat} {pts rt : List Int} (h : ¬ pts.getLast?.getD 0 = to) : walkF d to f pts rt = upW d to f pts rt d.segs.length := walkF_on h

/-- Points of a chart, each once. -/
def GoodP (n : Nat) (pts : List Int) : Prop := pts ≠ [] ∧ pts.Nodup ∧ ∀ x ∈ pts, 0 ≤ x ∧ x < (n : Int)
theorem nodup_len (n : Nat) : ∀ l : List Int, l.Nodup → (∀ x ∈ l, 0 ≤ x ∧ x < (n : Int)) → l.length ≤ n := by
  induction n with
  | zero =>
    intro l _ h
    cases l with
    | nil => exact Nat.le_refl _
    | cons x l => have := h x (by simp); omega
  | succ n ih =>
    intro l hn h
    by_cases hm : (n : Int) ∈ l
    · have h1 := ih (l.erase (n : Int)) (hn.erase _) (fun x hx => by
        have := (hn.mem_erase_iff).1 hx
        have h2 := h x this.2
        have h3 := this.1
        omega)
      rw [List.length_erase_of_mem hm] at h1
      omega
    · have h1 := ih l hn (fun x hx => by
        have h2 := h x hx
        have : x ≠ (n : Int) := fun e => hm (e ▸ hx)
        omega)
      omega
theorem GoodP.len {n : Nat} {pts : List Int} (h : GoodP n pts) : pts.length ≤ n := nodup_len n pts h.2.1 h.2.2
theorem endP_range {d : ChartD} (hd : chartB d = true) {i p : Int} (h : ¬ endP d i p < 0) : 0 ≤ endP d i p ∧ endP d i p < (d.points.length : Int) := by
  unfold endP at h ⊢
  cases hs : segAt d i with
  | none => rw [hs] at h; simp at h
  | some s =>
    rw [hs] at h
    simp only at h ⊢
    have hx : d.segs[i.toNat]? = some s := by
      unfold segAt at hs
      split at hs
      · exact hs
      · cases hs
    have := segB_true (chartB_seg hd hx)
    unfold otherI at h ⊢
    split
    · omega
    · split
      · omega
      · rename_i h1 h2; rw [if_neg h1, if_neg h2] at h; omega
theorem GoodP.next {d : ChartD} (hd : chartB d = true) {pts : List Int} (h : GoodP d.points.length pts) {i : Int} (hn : ¬ nextI d pts i < 0) : GoodP d.points.length (pts ++ [nextI d pts i]) := by
  have hn' := hn
  unfold nextI at hn'
  by_cases ha : pts.any (· == endP d i (pts.getLast?.getD 0)) = true
  · rw [if_pos ha] at hn'; omega
  · rw [if_neg ha] at hn'
    have e : nextI d pts i = endP d i (pts.getLast?.getD 0) := by unfold nextI; exact if_neg ha
    have hr := endP_range hd hn'
    rw [e]
    refine ⟨by simp, ?_, fun x hx => ?_⟩
    · rw [List.nodup_append]
      refine ⟨h.2.1, by simp, fun a ha' b hb => ?_⟩
      simp at hb
      subst hb
      intro e2
      subst e2
      exact ha (List.any_eq_true.2 ⟨_, ha', by simp⟩)
    · rcases List.mem_append.1 hx with hx | hx
      · exact h.2.2 x hx
      · simp at hx; subst hx; exact hr
theorem GoodP.one {n : Nat} {x : Int} (h : inB x 0 ((n : Int) - 1) = true) : GoodP n [x] := by
  unfold inB at h
  have := of_decide_eq_true h
  exact ⟨by simp, by simp, fun y hy => by simp at hy; subst hy; omega⟩
theorem flat_le {α : Type} (n : Nat) (l : List α) (g : α → List (List Int)) (h : ∀ x ∈ l, (g x).length ≤ n) : (l.flatMap g).length ≤ l.length * n := by
  induction l with
  | nil => simp
  | cons x l ih =>
    have h1 := h x (by simp)
    have h2 := ih (fun y hy => h y (by simp [hy]))
    rw [List.flatMap_cons, List.length_append, List.length_cons, Nat.add_mul, Nat.one_mul]
    omega
theorem walkF_len {d : ChartD} (hs : d.segs.length ≤ 10) (to : Int) : ∀ (f : Nat) (pts rt : List Int), (walkF d to f pts rt).length ≤ 10 ^ f := by
  intro f
  induction f with
  | zero => intro pts rt; unfold walkF; split <;> simp
  | succ f ih =>
    intro pts rt
    unfold walkF
    split
    · have : 1 ≤ 10 ^ (f + 1) := Nat.one_le_pow _ _ (by omega)
      simpa using this
    · have h1 := flat_le (10 ^ f) (List.range d.segs.length) (fun i : Nat => if nextI d pts (i : Int) < 0 then [] else walkF d to f (pts ++ [nextI d pts (i : Int)]) (rt ++ [(i : Int)])) (fun i _ => by
        show (if _ then _ else _ : List (List Int)).length ≤ _
        split
        · simp
        · exact ih _ _)
      rw [List.length_range] at h1
      have h2 : d.segs.length * 10 ^ f ≤ 10 * 10 ^ f := Nat.mul_le_mul_right _ hs
      rw [Nat.pow_succ, Nat.mul_comm (10 ^ f) 10]
      exact Nat.le_trans h1 h2
theorem walkF_each {d : ChartD} (to : Int) : ∀ (f : Nat) (pts rt : List Int), ∀ r ∈ walkF d to f pts rt, r.length ≤ rt.length + f := by
  intro f
  induction f with
  | zero =>
    intro pts rt r hr
    unfold walkF at hr
    split at hr
    · simp at hr; subst hr; omega
    · simp at hr
  | succ f ih =>
    intro pts rt r hr
    unfold walkF at hr
    split at hr
    · simp at hr; subst hr; omega
    · obtain ⟨i, _, hi⟩ := List.mem_flatMap.1 hr
      split at hi
      · simp at hi
      · have := ih _ _ r hi
        simp at this
        omega
theorem upW_len {d : ChartD} (hs : d.segs.length ≤ 10) (to : Int) (f : Nat) (pts rt : List Int) {k : Nat} (hk : k ≤ 10) : (upW d to f pts rt k).length ≤ 10 ^ f := by
  cases f with
  | zero =>
    have : upW d to 0 pts rt k = [] := List.flatMap_eq_nil_iff.2 (fun i _ => rfl)
    rw [this]; simp
  | succ f =>
    have h1 := flat_le (10 ^ f) (List.range k) (stepW d to (f + 1) pts rt) (fun i _ => by
      by_cases h : nextI d pts (i : Int) < 0
      · rw [stepW_bad h]; simp
      · rw [stepW_good h]; exact walkF_len hs to f _ _)
    rw [List.length_range] at h1
    have h2 : k * 10 ^ f ≤ 10 * 10 ^ f := Nat.mul_le_mul_right _ hk
    rw [Nat.pow_succ, Nat.mul_comm (10 ^ f) 10]
    exact Nat.le_trans h1 h2
end Go.Proofs.Ytgjappjlnkdpnaa
