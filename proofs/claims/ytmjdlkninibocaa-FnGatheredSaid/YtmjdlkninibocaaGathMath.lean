
/- Gathered windows, the other minutes, common minutes: plain mathematics. -/
import Derived.Test.YtmjdlkninibocaaWinMath
import Derived.Test.YtmjdlkninibocaaWinOther
import Derived.Test.YtmjdlkninibocaaWinCommon2
import Derived.Test.YtmjdlkninibocaaWinGatherSpec
import Derived.Test.YtmjdlkninibocaaWinCount
namespace Go.Proofs.Ytmjdlkninibocaa

theorem gath_ok (l : List WindowD) : WOk (gathL l) := (ofMarks_spec _ 2881 (by omega)).1
theorem gath_has (l : List WindowD) {m : Int} (h0 : 0 ≤ m) (h1 : m ≤ 2880) : Has (gathL l) m ↔ Has l m := by
  unfold gathL
  rw [(ofMarks_spec _ 2881 (by omega)).2 m]
  constructor
  · rintro ⟨j, rfl, _, hj⟩
    exact (has_iff l _).1 hj
  · intro h
    exact ⟨m.toNat, by omega, by omega, by rw [show ((m.toNat : Nat) : Int) = m by omega]; exact (has_iff l m).2 h⟩

/-- What the fold over valid windows has built: the minutes up to m that are not in the windows. -/
def Gf (l : List WindowD) (acc : List WindowD) (m : Int) : Prop :=
  WOk acc ∧ (∀ y ∈ acc, y.tt + 1 < m) ∧ 0 ≤ m ∧ m ≤ 2881 ∧ (∀ x ∈ l, x.tt < m) ∧ (l = [] → m = 0) ∧ (∀ j, Has acc j ↔ 0 ≤ j ∧ j < m ∧ ¬ Has l j) ∧ sumW acc + sumW l = m ∧ (l ≠ [] → ∃ x ∈ l, m = x.tt + 1)
theorem gfold_spec (l : List WindowD) : WOk l → Gf l (gfold l).1 (gfold l).2 := by
  refine snoc_ind (P := fun l => WOk l → Gf l (gfold l).1 (gfold l).2) ?_ ?_ l
  · intro _
    refine ⟨WOk.nil, by simp [gfold], by simp [gfold], by simp [gfold], by simp, fun _ => rfl, fun j => ⟨fun h => absurd h (Has.nil _), fun h => ?_⟩, rfl, by simp⟩
    have e : (gfold []).2 = 0 := rfl
    rw [e] at h
    omega
  · intro l x ih h
    obtain ⟨h1, h2, h3, h4, h5, h6, h7, h8, h9⟩ := ih h.init
    have hx := h.last
    have hm : (gfold l).2 ≤ x.fr := by
      by_cases he : l = []
      · have := h6 he; omega
      · obtain ⟨y, hy, e⟩ := h9 he
        have := h.ahead hy
        omega
    have hm2 : l ≠ [] → (gfold l).2 < x.fr := by
      intro he
      obtain ⟨y, hy, e⟩ := h9 he
      have := h.ahead hy
      omega
    have e : gfold (l ++ [x]) = gstep (gfold l) x := by unfold gfold; rw [List.foldl_append]; rfl
    rw [e]
    have hl : ∀ j, Has (l ++ [x]) j ↔ Has l j ∨ (x.fr ≤ j ∧ j ≤ x.tt) := fun j => by rw [has_append, has_one]
    have hlate : ∀ j, Has l j → j < (gfold l).2 := fun j ⟨y, hy, _, hy2⟩ => by have := h5 y hy; omega
    unfold gstep
    by_cases hp : (gfold l).2 < x.fr
    · rw [if_pos hp]
      refine ⟨h1.snoc ⟨h3, by simp only; omega, by simp only; omega⟩ (fun y hy => h2 y hy), fun y hy => ?_, by simp only; omega, by simp only; omega, fun y hy => ?_, by simp, fun j => ?_, ?_, fun _ => ⟨x, by simp, rfl⟩⟩
      · simp only
        rcases List.mem_append.1 hy with hy | hy
        · have := h2 y hy; omega
        · rw [List.mem_singleton.1 hy]; simp only; omega
      · simp only
        rcases List.mem_append.1 hy with hy | hy
        · have := h5 y hy; omega
        · rw [List.mem_singleton.1 hy]; omega
      · rw [has_append, has_one, h7 j, hl j]
        simp only
        constructor
        · rintro (⟨a, b, d⟩ | ⟨a, b⟩)
          · exact ⟨a, by omega, fun h => by rcases h with h | h; exact d h; omega⟩
          · exact ⟨by omega, by omega, fun h => by rcases h with h | h; (have := hlate j h; omega); omega⟩
        · rintro ⟨a, b, d⟩
          by_cases hj : j < (gfold l).2
          · exact .inl ⟨a, hj, fun h => d (.inl h)⟩
          · right
            refine ⟨by omega, ?_⟩
            rcases Int.lt_or_le (x.fr - 1) j with h | h
            · exact absurd (.inr ⟨by omega, by omega⟩) d
            · exact h
      · rw [sumW_snoc, sumW_snoc]; simp only; omega
    · rw [if_neg hp]
      have he : x.fr = (gfold l).2 := by omega
      refine ⟨h1, fun y hy => ?_, by simp only; omega, by simp only; omega, fun y hy => ?_, by simp, fun j => ?_, ?_, fun _ => ⟨x, by simp, rfl⟩⟩
      · simp only; have := h2 y hy; omega
      · simp only
        rcases List.mem_append.1 hy with hy | hy
        · have := h5 y hy; omega
        · rw [List.mem_singleton.1 hy]; omega
      · rw [h7 j, hl j]
        simp only
        constructor
        · rintro ⟨a, b, d⟩
          exact ⟨a, by omega, fun h => by rcases h with h | h; exact d h; omega⟩
        · rintro ⟨a, b, d⟩
          refine ⟨a, ?_, fun h => d (.inl h)⟩
          rcases Int.lt_or_le j (gfold l).2 with h | h
          · exact h
          · exact absurd (.inr ⟨by omega, by omega⟩) d
      · rw [sumW_snoc]; simp only; omega

/-- The other minutes: valid windows, every minute of the time in one of the two, and in one alone. -/
theorem other_spec {l : List WindowD} (h : WOk l) : WOk (otherW l) ∧ (∀ m, Has (otherW l) m ↔ 0 ≤ m ∧ m ≤ 2880 ∧ ¬ Has l m) ∧ sumW l + sumW (otherW l) = 2881 := by
  obtain ⟨h1, h2, h3, h4, h5, h6, h7, h8, h9⟩ := gfold_spec l h
  have hlate : ∀ j, Has l j → j < (gfold l).2 := fun j ⟨y, hy, _, hy2⟩ => by have := h5 y hy; omega
  unfold otherW
  by_cases hp : (gfold l).2 ≤ 2880
  · rw [if_pos hp]
    refine ⟨h1.snoc ⟨h3, by simp only; omega, by simp⟩ h2, fun m => ?_, ?_⟩
    · rw [has_append, has_one, h7 m]
      simp only
      constructor
      · rintro (⟨a, b, d⟩ | ⟨a, b⟩)
        · exact ⟨a, by omega, d⟩
        · exact ⟨by omega, b, fun h => by have := hlate m h; omega⟩
      · rintro ⟨a, b, d⟩
        by_cases hm : m < (gfold l).2
        · exact .inl ⟨a, hm, d⟩
        · exact .inr ⟨by omega, b⟩
    · rw [sumW_snoc]; simp only; omega
  · rw [if_neg hp]
    refine ⟨h1, fun m => ?_, by omega⟩
    rw [h7 m]
    constructor
    · rintro ⟨a, b, d⟩; exact ⟨a, by omega, d⟩
    · rintro ⟨a, b, d⟩; exact ⟨a, by omega, d⟩

theorem has_meet (x y : WindowD) (m : Int) : Has (meet x y) m ↔ (x.fr ≤ m ∧ m ≤ x.tt) ∧ (y.fr ≤ m ∧ m ≤ y.tt) := by
  unfold meet
  split
  · rw [has_one]; simp only; omega
  · refine ⟨fun h => absurd h (Has.nil _), fun h => ?_⟩
    omega
theorem has_rowMeet (x : WindowD) (b : List WindowD) (m : Int) : Has (rowMeet x b) m ↔ (x.fr ≤ m ∧ m ≤ x.tt) ∧ Has b m := by
  induction b with
  | nil => exact ⟨fun h => absurd h (Has.nil _), fun h => absurd h.2 (Has.nil _)⟩
  | cons y b ih =>
    have e : rowMeet x (y :: b) = meet x y ++ rowMeet x b := by simp [rowMeet]
    rw [e, has_append, has_meet, ih, has_cons]
    constructor
    · rintro (⟨h1, h2⟩ | ⟨h1, h2⟩)
      · exact ⟨h1, .inl h2⟩
      · exact ⟨h1, .inr h2⟩
    · rintro ⟨h1, h2 | h2⟩
      · exact .inl ⟨h1, h2⟩
      · exact .inr ⟨h1, h2⟩
theorem has_allMeet (a b : List WindowD) (m : Int) : Has (allMeet a b) m ↔ Has a m ∧ Has b m := by
  induction a with
  | nil => exact ⟨fun h => absurd h (Has.nil _), fun h => absurd h.1 (Has.nil _)⟩
  | cons x a ih =>
    have e : allMeet (x :: a) b = rowMeet x b ++ allMeet a b := by simp [allMeet]
    rw [e, has_append, has_rowMeet, ih, has_cons]
    constructor
    · rintro (⟨h1, h2⟩ | ⟨h1, h2⟩)
      · exact ⟨.inl h1, h2⟩
      · exact ⟨.inr h1, h2⟩
    · rintro ⟨h1 | h1, h2⟩
      · exact .inl ⟨h1, h2⟩
      · exact .inr ⟨h1, h2⟩
theorem mem_meet {x y z : WindowD} (h : z ∈ meet x y) : z.fr ≤ z.tt ∧ x.fr ≤ z.fr ∧ y.fr ≤ z.fr ∧ z.tt ≤ x.tt ∧ z.tt ≤ y.tt := by
  unfold meet at h
  split at h
  · rw [List.mem_singleton.1 h]; simp only; omega
  · simp at h
theorem mem_rowMeet {x z : WindowD} {b : List WindowD} (h : z ∈ rowMeet x b) : ∃ y ∈ b, z ∈ meet x y := by
  unfold rowMeet at h
  rw [List.mem_flatMap] at h
  exact h
theorem allMeet_ok {a b : List WindowD} (ha : WOk a) (hb : WOk b) : WOk (allMeet a b) := by
  refine ⟨fun z hz => ?_, ?_⟩
  · unfold allMeet at hz
    obtain ⟨x, hx, hz⟩ := List.mem_flatMap.1 hz
    obtain ⟨y, hy, hz⟩ := mem_rowMeet hz
    obtain ⟨z1, z2, z3, z4, z5⟩ := mem_meet hz
    have := ha.1 x hx
    omega
  · induction a with
    | nil => exact List.Pairwise.nil
    | cons x a ih =>
      have e : allMeet (x :: a) b = rowMeet x b ++ allMeet a b := by simp [allMeet]
      rw [e, List.pairwise_append]
      refine ⟨?_, ih ha.tail, fun z hz z' hz' => ?_⟩
      · clear ih e ha
        induction b with
        | nil => exact List.Pairwise.nil
        | cons y b ih =>
          have e : rowMeet x (y :: b) = meet x y ++ rowMeet x b := by simp [rowMeet]
          rw [e, List.pairwise_append]
          refine ⟨?_, ih hb.tail, fun z hz z' hz' => ?_⟩
          · unfold meet; split
            · exact List.pairwise_singleton _ _
            · exact List.Pairwise.nil
          · obtain ⟨y', hy', hz'⟩ := mem_rowMeet hz'
            have h1 := mem_meet hz
            have h2 := mem_meet hz'
            have := hb.behind hy'
            omega
      · unfold allMeet at hz'
        obtain ⟨x', hx', hz'⟩ := List.mem_flatMap.1 hz'
        obtain ⟨y, hy, hz⟩ := mem_rowMeet hz
        obtain ⟨y', hy', hz'⟩ := mem_rowMeet hz'
        have h1 := mem_meet hz
        have h2 := mem_meet hz'
        have := ha.behind hx'
        omega
theorem common_ok {a b : List WindowD} (ha : WOk a) (hb : WOk b) : WOk (commonL a b) ∧ ∀ m, Has (commonL a b) m ↔ Has a m ∧ Has b m := by
  unfold commonL
  rw [if_pos ⟨ha.to, hb.to⟩, commF_eq a b ha hb]
  exact ⟨allMeet_ok ha hb, has_allMeet a b⟩
theorem WOk.none {l : List WindowD} (h : WOk l) (hn : ∀ m, ¬ Has l m) : l = [] := by
  cases l with
  | nil => rfl
  | cons x l =>
    have := h.head
    exact absurd ((has_cons _ _ _).2 (.inl ⟨Int.le_refl _, this.2.1⟩)) (hn x.fr)
end Go.Proofs.Ytmjdlkninibocaa
