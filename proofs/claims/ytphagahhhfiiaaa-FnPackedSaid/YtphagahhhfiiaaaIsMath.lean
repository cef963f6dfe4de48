
/- Lock chambers: whether a list of lanes is a packing, ship by ship: plain mathematics. -/
import Derived.Test.YtphagahhhfiiaaaPackMath
namespace Go.Proofs.Ytphagahhhfiiaaa
set_option maxRecDepth 100000

theorem sumIn_pos' : ∀ {l s : List Int} {j : Nat}, (∀ n ∈ l, 0 ≤ n) → 0 ≤ sumIn l s j
  | [], s, j, _ => by simp [sumIn]
  | a :: l, [], j, _ => by simp [sumIn]
  | a :: l, b :: s, j, h => by
    have h1 := sumIn_pos' (l := l) (s := s) (j := j) (fun x hx => h x (by simp [hx]))
    have h2 := h a (by simp)
    show 0 ≤ (if b = (j : Int) then a else 0) + sumIn l s j
    split <;> omega
theorem sumIn_part : ∀ {l s : List Int} {n j : Nat}, (∀ x ∈ l, 0 ≤ x) → sumIn (l.take n) (s.take n) j ≤ sumIn l s j
  | [], s, n, j, _ => by simp [sumIn]
  | a :: l, [], n, j, _ => by cases n <;> simp [sumIn]
  | a :: l, b :: s, 0, j, h => by
    have := sumIn_pos' (l := a :: l) (s := b :: s) (j := j) h
    simpa [sumIn] using this
  | a :: l, b :: s, n + 1, j, h => by
    have := sumIn_part (l := l) (s := s) (n := n) (j := j) (fun x hx => h x (by simp [hx]))
    show (if b = (j : Int) then a else 0) + sumIn (l.take n) (s.take n) j ≤ (if b = (j : Int) then a else 0) + sumIn l s j
    omega
theorem sumIn_snoc : ∀ {l s : List Int} {i j : Nat} {x y : Int}, l[i]? = some x → s[i]? = some y → sumIn (l.take (i + 1)) (s.take (i + 1)) j = sumIn (l.take i) (s.take i) j + (if y = (j : Int) then x else 0)
  | [], s, i, j, x, y, h, _ => by simp at h
  | a :: l, [], i, j, x, y, _, h => by simp at h
  | a :: l, b :: s, 0, j, x, y, h, h' => by
    simp at h h'
    subst h h'
    show (if b = (j : Int) then a else 0) + sumIn (l.take 0) (s.take 0) j = sumIn [] [] j + _
    simp [sumIn]
  | a :: l, b :: s, i + 1, j, x, y, h, h' => by
    have := sumIn_snoc (l := l) (s := s) (i := i) (j := j) (by simpa using h) (by simpa using h')
    show (if b = (j : Int) then a else 0) + sumIn (l.take (i + 1)) (s.take (i + 1)) j = (if b = (j : Int) then a else 0) + sumIn (l.take i) (s.take i) j + _
    omega
/-- The first i ships lie right. -/
def IsTo (k : ChamberD) (l s : List Int) (i : Nat) : Prop := (∀ (t : Nat) x, t < i → s[t]? = some x → inB x 0 (k.lanes - 1) = true) ∧ ∀ j : Nat, j < k.lanes.toNat → sumIn (l.take i) (s.take i) j ≤ k.length
theorem IsTo.zero {k : ChamberD} (l s : List Int) (h : chamB k = true) : IsTo k l s 0 := by
  obtain ⟨a, -⟩ := chamB_true h
  exact ⟨fun t x ht => by omega, fun j _ => by simp [sumIn]; omega⟩
theorem IsTo.next {k : ChamberD} {l s : List Int} {i : Nat} {x y : Int} (h : IsTo k l s i) (hx : l[i]? = some x) (hy : s[i]? = some y) (hb : inB y 0 (k.lanes - 1) = true) (hr : sumIn (l.take i) (s.take i) y.toNat + x ≤ k.length) : IsTo k l s (i + 1) := by
  have hb2 := of_decide_eq_true hb
  refine ⟨fun t z ht hz => ?_, fun j hj => ?_⟩
  · by_cases e : t = i
    · subst e; rw [hy] at hz; injection hz with hz; rw [← hz]; exact hb
    · exact h.1 t z (by omega) hz
  · rw [sumIn_snoc hx hy]
    by_cases e : y = (j : Int)
    · subst e
      rw [if_pos rfl]
      rw [Int.toNat_natCast] at hr
      exact hr
    · rw [if_neg e]
      have := h.2 j hj
      omega
theorem IsTo.all {k : ChamberD} {l s : List Int} (h : IsTo k l s l.length) (h1 : chamB k = true) (h2 : lensB l = true) (hl : s.length = l.length) : packB k l s = true := by
  unfold packB
  rw [h1, h2]
  simp only [Bool.and_eq_true, Bool.true_and, beq_iff_eq, List.all_eq_true, List.mem_range, decide_eq_true_iff]
  refine ⟨⟨hl, fun x hx => ?_⟩, fun j hj => ?_⟩
  · obtain ⟨t, ht, e⟩ := List.getElem_of_mem hx
    exact h.1 t x (by omega) (by rw [List.getElem?_eq_getElem ht, e])
  · have := h.2 j hj
    rw [List.take_length, ← hl, List.take_length] at this
    exact this
theorem packB_off {k : ChamberD} {l s : List Int} {i : Nat} {y : Int} (hy : s[i]? = some y) (hb : inB y 0 (k.lanes - 1) = false) : packB k l s = false := by
  have : s.all (fun x => inB x 0 (k.lanes - 1)) = false := by
    rw [List.all_eq_false]
    exact ⟨y, List.mem_of_getElem? hy, by rw [hb]; simp⟩
  unfold packB
  rw [this]
  simp
theorem packB_over {k : ChamberD} {l s : List Int} {i : Nat} {x y : Int} (h2 : lensB l = true) (hx : l[i]? = some x) (hy : s[i]? = some y) (hb : inB y 0 (k.lanes - 1) = true) (hr : ¬ sumIn (l.take i) (s.take i) y.toNat + x ≤ k.length) : packB k l s = false := by
  have hb2 := of_decide_eq_true hb
  have hn : ∀ n ∈ l, 0 ≤ n := fun n hn => by
    obtain ⟨t, ht, e⟩ := List.getElem_of_mem hn
    have := lensB_at h2 (show l[t]? = some n by rw [List.getElem?_eq_getElem ht, e])
    omega
  have h3 := sumIn_part (l := l) (s := s) (n := i + 1) (j := y.toNat) hn
  rw [sumIn_snoc hx hy, if_pos (by omega)] at h3
  have : (List.range k.lanes.toNat).all (fun j => decide (sumIn l s j ≤ k.length)) = false := by
    rw [List.all_eq_false]
    exact ⟨y.toNat, List.mem_range.2 (by omega), by simp; omega⟩
  unfold packB
  rw [this]
  simp
theorem packB_len {k : ChamberD} {l s : List Int} (h : s.length ≠ l.length) : packB k l s = false := by
  have : (s.length == l.length) = false := by simpa using h
  unfold packB
  rw [this]
  simp
theorem packB_bad {k : ChamberD} {l s : List Int} (h : (chamB k && lensB l) = false) : packB k l s = false := by
  unfold packB
  rw [h]
  simp
end Go.Proofs.Ytphagahhhfiiaaa
