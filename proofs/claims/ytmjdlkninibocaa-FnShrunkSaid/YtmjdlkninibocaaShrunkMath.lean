
/- Shrunk windows, runs of minutes and the next minute: plain mathematics. -/
import Derived.Test.YtmjdlkninibocaaWinMath
import Derived.Test.YtmjdlkninibocaaWinShrink
import Derived.Test.YtmjdlkninibocaaWinCount
namespace Go.Proofs.Ytmjdlkninibocaa

/-- Two windows of a valid list are the same or lie apart. -/
theorem WOk.cmp {l : List WindowD} (h : WOk l) {x y : WindowD} (hx : x ∈ l) (hy : y ∈ l) : x = y ∨ x.tt + 1 < y.fr ∨ y.tt + 1 < x.fr := by
  obtain ⟨i, hi, rfl⟩ := List.getElem_of_mem hx
  obtain ⟨j, hj, rfl⟩ := List.getElem_of_mem hy
  have hp := List.pairwise_iff_getElem.1 h.2
  rcases Nat.lt_trichotomy i j with e | e | e
  · exact .inr (.inl (hp i j hi hj e))
  · subst e; exact .inl rfl
  · exact .inr (.inr (hp j i hj hi e))

theorem mem_shr {n : Int} {l : List WindowD} {z : WindowD} : z ∈ shrW n l ↔ ∃ x ∈ l, n ≤ x.tt - x.fr ∧ z = ⟨x.fr, x.tt - n⟩ := by
  unfold shrW longB cutW
  rw [List.mem_map]
  constructor
  · rintro ⟨x, hx, rfl⟩
    rw [List.mem_filter] at hx
    exact ⟨x, hx.1, of_decide_eq_true hx.2, rfl⟩
  · rintro ⟨x, hx, h, rfl⟩
    exact ⟨x, List.mem_filter.2 ⟨hx, decide_eq_true h⟩, rfl⟩
theorem shr_ok {n : Int} {l : List WindowD} (h : WOk l) (hn : 0 ≤ n) : WOk (shrW n l) := by
  refine ⟨fun z hz => ?_, ?_⟩
  · obtain ⟨x, hx, hp, rfl⟩ := mem_shr.1 hz
    obtain ⟨a, b, c⟩ := h.1 x hx
    exact ⟨a, by simp only; omega, by simp only; omega⟩
  · unfold shrW
    refine List.Pairwise.map _ (fun x y (hxy : x.tt + 1 < y.fr) => ?_) (h.2.filter _)
    show x.tt - n + 1 < y.fr
    omega
theorem sum_shr {n : Int} (hn : 0 ≤ n) (l : List WindowD) : (∀ x ∈ l, x.fr ≤ x.tt) → sumW (shrW n l) ≤ sumW l := by
  refine snoc_ind (P := fun l => (∀ x ∈ l, x.fr ≤ x.tt) → sumW (shrW n l) ≤ sumW l) (fun _ => by simp [shrW]) (fun l x ih h => ?_) l
  have hx := h x (by simp)
  have h1 := ih fun y hy => h y (by simp [hy])
  rw [sumW_snoc]
  by_cases hp : n ≤ x.tt - x.fr
  · have e : shrW n (l ++ [x]) = shrW n l ++ [⟨x.fr, x.tt - n⟩] := by simp [shrW, longB, cutW, hp]
    rw [e, sumW_snoc]
    simp only
    omega
  · have e : shrW n (l ++ [x]) = shrW n l := by simp [shrW, longB, hp]
    rw [e]
    omega

/-- The r minutes behind m lie in the windows, and the next one does not. -/
def Run (l : List WindowD) (m : Int) (r : Nat) : Prop := (∀ j : Int, m < j → j ≤ m + r → Has l j) ∧ ¬ Has l (m + r + 1)
theorem Run.start {l : List WindowD} {m : Int} (h : ∀ x ∈ l, x.tt ≤ m) : Run l m 0 :=
  ⟨fun j h1 h2 => by omega, fun ⟨x, hx, _, h2⟩ => by have := h x hx; omega⟩
theorem Run.yes {l : List WindowD} {m : Int} {r : Nat} (h : Run l m r) (hm : Has l m) : Run l (m - 1) (r + 1) := by
  refine ⟨fun j h1 h2 => ?_, ?_⟩
  · by_cases e : j = m
    · rw [e]; exact hm
    · exact h.1 j (by omega) (by omega)
  · have e : m - 1 + ((r + 1 : Nat) : Int) + 1 = m + r + 1 := by omega
    rw [e]; exact h.2
theorem Run.no {l : List WindowD} {m : Int} (hm : ¬ Has l m) : Run l (m - 1) 0 := by
  refine ⟨fun j h1 h2 => by omega, ?_⟩
  have e : m - 1 + ((0 : Nat) : Int) + 1 = m := by omega
  rw [e]; exact hm
theorem Run.shr {l : List WindowD} {m n : Int} {r : Nat} (hw : WOk l) (h : Run l (m - 1) r) (hn : 0 ≤ n) : Has (shrW n l) m ↔ n < r := by
  have hs : Has (shrW n l) m ↔ ∃ x ∈ l, n ≤ x.tt - x.fr ∧ x.fr ≤ m ∧ m ≤ x.tt - n := by
    constructor
    · rintro ⟨z, hz, h1, h2⟩
      obtain ⟨x, hx, hp, rfl⟩ := mem_shr.1 hz
      exact ⟨x, hx, hp, h1, h2⟩
    · rintro ⟨x, hx, hp, h1, h2⟩
      exact ⟨_, mem_shr.2 ⟨x, hx, hp, rfl⟩, h1, h2⟩
  rw [hs]
  by_cases hr : r = 0
  · subst hr
    have e : m - 1 + ((0 : Nat) : Int) + 1 = m := by omega
    have h2 := h.2
    rw [e] at h2
    constructor
    · rintro ⟨x, hx, hp, h1, h3⟩
      exact absurd ⟨x, hx, h1, by omega⟩ h2
    · intro h3; omega
  · obtain ⟨x, hx, x1, x2⟩ := h.1 m (by omega) (by omega)
    have hx3 : x.tt = m + r - 1 := by
      rcases Int.lt_trichotomy x.tt (m + r - 1) with e | e | e
      · obtain ⟨y, hy, y1, y2⟩ := h.1 (x.tt + 1) (by omega) (by omega)
        rcases hw.cmp hx hy with e2 | e2 | e2
        · subst e2; omega
        · omega
        · omega
      · exact e
      · exact absurd ⟨x, hx, by omega, by omega⟩ h.2
    constructor
    · rintro ⟨y, hy, hp, y1, y2⟩
      rcases hw.cmp hx hy with e2 | e2 | e2
      · subst e2; omega
      · omega
      · omega
    · intro h3
      exact ⟨x, hx, by omega, x1, by omega⟩

/-- What the next minute is. -/
theorem next_spec {l : List WindowD} (hw : WOk l) (t : Int) : (nextI l t = -1 ∧ ∀ x ∈ l, x.tt < t) ∨ (t ≤ nextI l t ∧ Has l (nextI l t) ∧ (nextI l t = t ∨ ¬ Has l t)) := by
  unfold nextI
  rw [hw.to, if_pos rfl]
  cases hf : l.find? (fun x => decide (t ≤ x.tt)) with
  | none =>
    refine .inl ⟨rfl, fun x hx => ?_⟩
    have := List.find?_eq_none.1 hf x hx
    simp at this
    exact this
  | some x =>
    right
    obtain ⟨hp, pa, pb, e, has⟩ := List.find?_eq_some_iff_append.1 hf
    have hp' : t ≤ x.tt := of_decide_eq_true hp
    have hx : x ∈ l := by rw [e]; simp
    obtain ⟨x0, x1, x2⟩ := hw.1 x hx
    refine ⟨by simp only; omega, ⟨x, hx, by simp only; omega, by simp only; omega⟩, ?_⟩
    by_cases hxt : x.fr ≤ t
    · left; simp only; omega
    · right
      rintro ⟨y, hy, y1, y2⟩
      have hp2 := hw.2
      rw [e] at hy hp2
      rcases List.mem_append.1 hy with hy | hy
      · have := has y hy
        simp at this
        omega
      · rcases List.mem_cons.1 hy with hy | hy
        · subst hy; omega
        · have := (List.pairwise_cons.1 (List.pairwise_append.1 hp2).2.1).1 y hy
          omega
end Go.Proofs.Ytmjdlkninibocaa
