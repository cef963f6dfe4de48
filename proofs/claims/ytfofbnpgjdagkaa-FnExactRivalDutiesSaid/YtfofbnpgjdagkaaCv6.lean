
/- What ExactRivalDuties and Dilworth and CoversLaw rests on, part 6: contracts and mathematics. -/
import Derived.Test.YtfofbnpgjdagkaaCv3
namespace Go.Proofs.Ytfofbnpgjdagkaa
theorem lessL_irrefl : ∀ a : List Nat, lessL a a = false
  | [] => rfl
  | x :: a => by unfold lessL; rw [if_pos rfl]; exact lessL_irrefl a
theorem lessL_trans : ∀ {a b c : List Nat}, lessL a b = true → lessL b c = true → lessL a c = true
  | [], _, _, h, _ => by simp [lessL] at h
  | _ :: _, [], _, h, _ => by simp [lessL] at h
  | _ :: _, _ :: _, [], _, h => by simp [lessL] at h
  | x :: a, y :: b, z :: c, h, k => by
    unfold lessL at h k ⊢
    by_cases e1 : x = y
    · subst e1
      rw [if_pos rfl] at h
      by_cases e2 : x = z
      · subst e2
        rw [if_pos rfl] at k ⊢
        exact lessL_trans h k
      · rw [if_neg e2] at k ⊢
        exact k
    · rw [if_neg e1] at h
      have h := of_decide_eq_true h
      by_cases e2 : y = z
      · subst e2
        rw [if_neg e1]
        exact decide_eq_true h
      · rw [if_neg e2] at k
        have k := of_decide_eq_true k
        rw [if_neg (by omega)]
        exact decide_eq_true (by omega)
theorem lessL_total : ∀ {a b : List Nat}, a.length = b.length → lessL a b = false → lessL b a = false → a = b
  | [], [], _, _, _ => rfl
  | [], _ :: _, h, _, _ => by simp at h
  | _ :: _, [], h, _, _ => by simp at h
  | x :: a, y :: b, hl, h, k => by
    unfold lessL at h k
    by_cases e : x = y
    · subst e
      rw [if_pos rfl] at h k
      rw [lessL_total (by simpa using hl) h k]
    · rw [if_neg e] at h
      rw [if_neg (fun e' => e e'.symm)] at k
      have h := of_decide_eq_false h
      have k := of_decide_eq_false k
      omega
theorem lessL_append (p a b : List Nat) : lessL (p ++ a) (p ++ b) = lessL a b := by
  induction p with
  | nil => rfl
  | cons x p ih =>
    rw [List.cons_append, List.cons_append]
    show (if x = x then lessL (p ++ a) (p ++ b) else _) = _
    rw [if_pos rfl]
    exact ih
/-- A is no better than C. -/
def NotB (A C : List Nat) : Prop := A.length ≤ C.length ∧ (A.length = C.length → lessL A C = false)
theorem NotB.refl (A : List Nat) : NotB A A := ⟨Nat.le_refl _, fun _ => lessL_irrefl A⟩
section
variable {B : Nat → Nat → Bool} {m : Nat}
def RivP (B : Nat → Nat → Bool) (A : List Nat) : Prop := A.Pairwise (fun a b => B b a = false)
/-- A set of rivals in order. -/
def SetR (B : Nat → Nat → Bool) (m : Nat) (A : List Nat) : Prop := A.Pairwise (· < ·) ∧ (∀ x ∈ A, x < m) ∧ RivP B A
theorem setL_sorted (m b : Nat) : (setL m b).Pairwise (· < ·) := List.pairwise_lt_range.filter _
/-- A list in order is what its bits tell. -/
theorem sorted_set {A : List Nat} (hs : A.Pairwise (· < ·)) (hm : ∀ x ∈ A, x < m) : ∃ b, b < 2 ^ m ∧ setL m b = A := by
  obtain ⟨b, hb, e⟩ := setL_of (fun i => decide (i ∈ A)) m
  refine ⟨b, hb, ?_⟩
  rw [e]
  have h1 : ((List.range m).filter (fun i => decide (i ∈ A))).Pairwise (· < ·) := List.pairwise_lt_range.filter _
  refine List.Perm.eq_of_pairwise (le := (· < ·)) (fun a b _ _ h1 h2 => by omega) h1 hs ?_
  refine (List.perm_ext_iff_of_nodup (h1.imp (fun h => Nat.ne_of_lt h)) (hs.imp (fun h => Nat.ne_of_lt h))).2 fun x => ?_
  rw [List.mem_filter, List.mem_range]
  simp only [decide_eq_true_eq]
  exact ⟨fun h => h.2, fun h => ⟨hm x h, h⟩⟩
theorem rivalTo_set (B : Nat → Nat → Bool) (m : Nat) : ∀ n, (rivalTo B m n).Pairwise (· < ·)
  | 0 => by simp [rivalTo]
  | n + 1 => by
    rw [rivalTo_next]
    unfold stepV
    split
    · exact rivalTo_set B m n
    · exact setL_sorted m n
/-- None of the first n sets is better. -/
theorem rivalTo_best (B : Nat → Nat → Bool) (m : Nat) : ∀ n b, b < n → rivalsB B (setL m b) = true → NotB (setL m b) (rivalTo B m n)
  | 0, b, hb, _ => by omega
  | n + 1, b, hb, hr => by
    rw [rivalTo_next]
    unfold stepV
    by_cases hk : keepB B (rivalTo B m n) (setL m n) = true
    · rw [if_pos hk]
      by_cases e : b = n
      · subst e
        unfold keepB at hk
        rw [hr] at hk
        simp only [Bool.or_eq_true, Bool.and_eq_true, decide_eq_true_eq, beq_iff_eq, Bool.not_true, Bool.false_eq_true, or_false, Bool.not_eq_true'] at hk
        rcases hk with hk | hk
        · exact ⟨Nat.le_of_lt hk, fun e => by omega⟩
        · exact ⟨by omega, fun _ => hk.2⟩
      · exact rivalTo_best B m n b (by omega) hr
    · rw [if_neg hk]
      unfold keepB at hk
      simp only [Bool.or_eq_true, not_or, Bool.and_eq_true, decide_eq_true_eq, Bool.not_eq_true', Bool.not_eq_false, beq_iff_eq, not_and] at hk
      by_cases e : b = n
      · subst e; exact NotB.refl _
      · obtain ⟨h1, h2⟩ := rivalTo_best B m n b (by omega) hr
        refine ⟨by omega, fun el => ?_⟩
        by_cases e2 : (setL m n).length = (rivalTo B m n).length
        · have h3 := hk.1.2 e2
          cases hl : lessL (setL m b) (setL m n) with
          | false => rfl
          | true =>
            have := lessL_trans hl h3
            rw [h2 (by omega)] at this
            cases this
        · omega
theorem rival_best {A : List Nat} (h : SetR B m A) : NotB A (rivalL B m) := by
  obtain ⟨b, hb, e⟩ := sorted_set h.1 h.2.1
  rw [← e]
  exact rivalTo_best B m _ b hb (by rw [e]; exact rivals_pair.2 h.2.2)
theorem rival_set (B : Nat → Nat → Bool) (m : Nat) : SetR B m (rivalL B m) := ⟨rivalTo_set B m _, rival_ok.1, rival_ok.2.2⟩
/-- There is only one best set. -/
theorem rival_only {A : List Nat} (h : SetR B m A) (hb : ∀ C, SetR B m C → NotB C A) : A = rivalL B m := by
  obtain ⟨h1, h2⟩ := rival_best h
  obtain ⟨h3, h4⟩ := hb _ (rival_set B m)
  exact lessL_total (by omega) (h2 (by omega)) (h4 (by omega))
/-- A: r and more, from n on. -/
def ExtR (B : Nat → Nat → Bool) (m : Nat) (r : List Nat) (n : Nat) (A : List Nat) : Prop := ∃ t, A = r ++ t ∧ t.Pairwise (· < ·) ∧ (∀ x ∈ t, n ≤ x ∧ x < m) ∧ RivP B A
def BestE (B : Nat → Nat → Bool) (m : Nat) (r : List Nat) (n : Nat) (out : List Nat) : Prop := ExtR B m r n out ∧ ∀ A, ExtR B m r n A → NotB A out
/-- The best one among r and those whose next number is below k. -/
def BestTo (B : Nat → Nat → Bool) (m : Nat) (r : List Nat) (n k : Nat) (out : List Nat) : Prop :=
  (∃ s, out = r ++ s ∧ s.Pairwise (· < ·) ∧ (∀ x ∈ s, n ≤ x ∧ x < m) ∧ RivP B out ∧ ∀ x, s.head? = some x → x < k) ∧
  ∀ t, ExtR B m r n (r ++ t) → (∀ x, t.head? = some x → x < k) → NotB (r ++ t) out
theorem BestTo.start {r : List Nat} {n : Nat} (h : RivP B r) : BestTo B m r n n r := by
  refine ⟨⟨[], by simp, List.Pairwise.nil, fun x hx => by simp at hx, h, fun x hx => by simp at hx⟩, fun t ht hh => ?_⟩
  obtain ⟨t', e, h1, h2, h3⟩ := ht
  have e := List.append_cancel_left e
  subst e
  cases t with
  | nil => rw [List.append_nil]; exact NotB.refl _
  | cons x t =>
    have := (h2 x List.mem_cons_self).1
    have := hh x rfl
    omega
theorem BestTo.len {r : List Nat} {n k : Nat} {out : List Nat} (h : BestTo B m r n k out) : r.length ≤ out.length := by
  obtain ⟨⟨s, rfl, _⟩, _⟩ := h
  rw [List.length_append]; omega
/-- One number more is looked at. -/
theorem BestTo.step {r : List Nat} {n k : Nat} {out out' : List Nat} (h : BestTo B m r n k out) (hl : out.length ≤ out'.length)
    (hs : ∃ s, out' = r ++ s ∧ s.Pairwise (· < ·) ∧ (∀ x ∈ s, n ≤ x ∧ x < m) ∧ RivP B out' ∧ ∀ x, s.head? = some x → x < k + 1)
    (hold : out = out' ∨ out.length < out'.length) (hnew : ∀ t, ExtR B m r n (r ++ k :: t) → NotB (r ++ k :: t) out') : BestTo B m r n (k + 1) out' := by
  refine ⟨hs, fun t ht hh => ?_⟩
  have key : (∀ x, t.head? = some x → x < k) → NotB (r ++ t) out' := fun hx => by
    obtain ⟨h1, h2⟩ := h.2 t ht hx
    rcases hold with rfl | hlt
    · exact ⟨h1, h2⟩
    · exact ⟨by omega, fun e => by omega⟩
  cases t with
  | nil => exact key (fun x hx => by simp at hx)
  | cons x t =>
    by_cases e : x = k
    · subst e; exact hnew t ht
    · refine key (fun y hy => ?_)
      have := hh x rfl
      injection hy with hy
      omega
theorem sorted_len : ∀ {t : List Nat} {k : Nat}, t.Pairwise (· < ·) → (∀ x ∈ t, k ≤ x ∧ x < m) → t.length ≤ m - k
  | [], _, _, _ => Nat.zero_le _
  | x :: t, k, h, hx => by
    obtain ⟨h1, h2⟩ := List.pairwise_cons.1 h
    have hx0 := hx x List.mem_cons_self
    have := sorted_len (k := x + 1) h2 (fun y hy => ⟨h1 y hy, (hx y (List.mem_cons_of_mem _ hy)).2⟩)
    rw [List.length_cons]
    omega
/-- A list that is no longer and goes on later is no better. -/
theorem later_not {r : List Nat} {n k : Nat} {out : List Nat} (h : BestTo B m r n k out) {x : Nat} {t : List Nat} (hx : k ≤ x) (hl : (r ++ x :: t).length ≤ out.length) : NotB (r ++ x :: t) out := by
  obtain ⟨⟨s, rfl, _, _, _, hs⟩, _⟩ := h
  refine ⟨hl, fun e => ?_⟩
  rw [lessL_append]
  cases s with
  | nil => simp at e
  | cons y s =>
    have := hs y rfl
    unfold lessL
    rw [if_neg (by omega)]
    exact decide_eq_false (by omega)
/-- k goes with one of r. -/
theorem BestTo.skip {r : List Nat} {n k : Nat} {out : List Nat} (h : BestTo B m r n k out) {i : Nat} (hi : i ∈ r) (hb : B k i = true) : BestTo B m r n (k + 1) out := by
  refine h.step (Nat.le_refl _) ?_ (.inl rfl) (fun t ht => ?_)
  · obtain ⟨⟨s, e, h1, h2, h3, h4⟩, _⟩ := h
    exact ⟨s, e, h1, h2, h3, fun x hx => Nat.lt_succ_of_lt (h4 x hx)⟩
  · obtain ⟨t', e, _, _, h3⟩ := ht
    have := (List.pairwise_append.1 h3).2.2 i hi k List.mem_cons_self
    rw [hb] at this
    cases this
theorem ext_cons {r t : List Nat} {n k : Nat} (h : ExtR B m r n (r ++ k :: t)) : ExtR B m (r ++ [k]) (k + 1) (r ++ k :: t) ∧ n ≤ k ∧ k < m ∧ RivP B (r ++ [k]) := by
  obtain ⟨t', e, h1, h2, h3⟩ := h
  have e := List.append_cancel_left e
  subst e
  obtain ⟨hk, ht⟩ := List.pairwise_cons.1 h1
  have hk0 := h2 k List.mem_cons_self
  refine ⟨⟨t, by simp, ht, fun x hx => ⟨hk x hx, (h2 x (List.mem_cons_of_mem _ hx)).2⟩, h3⟩, hk0.1, hk0.2, ?_⟩
  refine h3.sublist ?_
  exact List.Sublist.append_left (List.cons_sublist_cons.2 (List.nil_sublist _)) r
theorem ext_of {r A : List Nat} {n k : Nat} (h : ExtR B m (r ++ [k]) (k + 1) A) (hn : n ≤ k) (hk : k < m) : ∃ t, A = r ++ k :: t ∧ ExtR B m r n A := by
  obtain ⟨t, rfl, h1, h2, h3⟩ := h
  refine ⟨t, by simp, k :: t, by simp, List.pairwise_cons.2 ⟨fun x hx => (h2 x hx).1, h1⟩, fun x hx => ?_, h3⟩
  rcases List.mem_cons.1 hx with rfl | hx
  · exact ⟨hn, hk⟩
  · have := h2 x hx
    omega
/-- The best one with k is better. -/
theorem BestTo.more {r : List Nat} {n k : Nat} {out A : List Nat} (h : BestTo B m r n k out) (hn : n ≤ k) (hk : k < m) (hA : BestE B m (r ++ [k]) (k + 1) A) (hl : out.length < A.length) : BestTo B m r n (k + 1) A := by
  obtain ⟨t, e, t', e', h1, h2, h3⟩ := ext_of (n := n) hA.1 hn hk
  have e2 := List.append_cancel_left (e.symm.trans e')
  subst e2
  refine h.step (Nat.le_of_lt hl) ⟨_, e, h1, h2, h3, fun x hx => ?_⟩ (.inr hl) (fun s hs => hA.2 _ (ext_cons hs).1)
  injection hx with hx
  omega
/-- The best one with k is no better. -/
theorem BestTo.less {r : List Nat} {n k : Nat} {out A : List Nat} (h : BestTo B m r n k out) (hA : BestE B m (r ++ [k]) (k + 1) A) (hl : A.length ≤ out.length) : BestTo B m r n (k + 1) out := by
  refine h.step (Nat.le_refl _) ?_ (.inl rfl) (fun t ht => ?_)
  · obtain ⟨⟨s, e, h1, h2, h3, h4⟩, _⟩ := h
    exact ⟨s, e, h1, h2, h3, fun x hx => Nat.lt_succ_of_lt (h4 x hx)⟩
  · exact later_not h (Nat.le_refl _) (Nat.le_trans (hA.2 _ (ext_cons ht).1).1 hl)
/-- No number is left, or too few are. -/
theorem BestTo.stop {r : List Nat} {n k : Nat} {out : List Nat} (h : BestTo B m r n k out) (hs : m ≤ k ∨ r.length + m - k ≤ out.length) : BestE B m r n out := by
  refine ⟨?_, fun A hA => ?_⟩
  · obtain ⟨⟨s, e, h1, h2, h3, h4⟩, _⟩ := h
    exact ⟨s, e, h1, h2, h3⟩
  · obtain ⟨t, rfl, h1, h2, h3⟩ := id hA
    by_cases hh : ∀ x, t.head? = some x → x < k
    · exact h.2 t hA hh
    · cases t with
      | nil => exact absurd (fun x hx => by simp at hx) hh
      | cons x t =>
        have hx : k ≤ x := by
          rcases Nat.lt_or_ge x k with hlt | hge
          · exact absurd (fun y hy => by injection hy with hy; omega) hh
          · exact hge
        have hxm := (h2 x List.mem_cons_self).2
        have hlen := sorted_len (k := k) h1 (fun y hy => by
          rcases List.mem_cons.1 hy with rfl | hy
          · exact ⟨hx, hxm⟩
          · have := (List.pairwise_cons.1 h1).1 y hy
            have := h2 y (List.mem_cons_of_mem _ hy)
            omega)
        refine later_not h hx ?_
        rw [List.length_append]
        rcases hs with hs | hs <;> omega
/-- k is a rival of all of r. -/
theorem riv_snoc {r : List Nat} {k : Nat} (h : RivP B r) (hk : ∀ i ∈ r, B k i = false) : RivP B (r ++ [k]) := List.pairwise_append.2 ⟨h, by simp, fun a ha b hb => by simp at hb; subst hb; exact hk a ha⟩
/-- From the empty set on: the greatest set that comes first. -/
theorem best_all {out : List Nat} (h : BestE B m [] 0 out) : out = rivalL B m := by
  obtain ⟨⟨t, e, h1, h2, h3⟩, hb⟩ := h
  rw [List.nil_append] at e
  subst e
  exact rival_only ⟨h1, fun x hx => (h2 x hx).2, h3⟩ (fun C hC => hb C ⟨C, rfl, hC.1, fun x hx => ⟨Nat.zero_le _, hC.2.1 x hx⟩, hC.2.2⟩)
end
theorem few_none {B : Nat → Nat → Bool} {m q : Nat} (hB : ∀ i j, B i j = B j i) (h : q < (rivalL B m).length) : searchR B q m [] = none := by
  cases hs : searchR B q m [] with
  | none => rfl
  | some w =>
    obtain ⟨hc, hl⟩ := search_ok (CovOk.nil B q) hs
    have := rivals_le hB hc (by simpa using hl)
    omega
/-- The first number for which the search ends is the least one. -/
theorem cover_first {B : Nat → Nat → Bool} {m n : Nat} {w : List Nat} (hn : n ≤ m) (hs : searchR B n m [] = some w) (hl : ∀ q, q < n → searchR B q m [] = none) : coverO B m = some (w, n) := by
  unfold coverO
  rw [List.findSome?_eq_some_iff]
  refine ⟨List.range n, n, (List.range (m - n)).map (fun i => n + (i + 1)), ?_, by rw [hs]; rfl, fun q hq => ?_⟩
  · have h1 : m + 1 = n + ((m - n) + 1) := by omega
    rw [h1, List.range_add, List.range_succ_eq_map, List.map_cons, List.map_map]
    simp [Function.comp_def]
  · rw [hl q (List.mem_range.1 hq)]; rfl
theorem search_top (B : Nat → Nat → Bool) (m : Nat) : (searchR B m m []).isSome = true := search_all (fun i => i) (fun i hi => hi) (fun i j hj _ e => by have : i = j := e; omega)
end Go.Proofs.Ytfofbnpgjdagkaa
