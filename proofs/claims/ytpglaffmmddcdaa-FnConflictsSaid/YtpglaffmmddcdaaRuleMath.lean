
/- Rules of traffic: what chapter 10's functions tell: plain mathematics. -/
import Derived.Test.YtpglaffmmddcdaaChartFns
import Derived.Test.YtpglaffmmddcdaaPassages
import Derived.Test.YtpglaffmmddcdaaRegimes
namespace Go.Proofs.Ytpglaffmmddcdaa
set_option maxRecDepth 100000

def regB (r : RegimeD) : Bool := inB r.gap 0 60
def overB (p q : PassageD) : Bool := decide (max p.start q.start < min p.stop q.stop)
theorem overB_comm (p q : PassageD) : overB p q = overB q p := by
  unfold overB
  rw [Int.max_comm, Int.min_comm]
/-- Whether two numbers differ by less than a gap; the difference is exact. -/
def nearB (a b g : Int) : Bool := decide (max a b - min a b < g)
theorem nearB_comm (a b g : Int) : nearB a b g = nearB b a g := by
  unfold nearB
  rw [Int.max_comm, Int.min_comm]
theorem nearB_mono {a b g g' : Int} (hg : g ≤ g') (h : nearB a b g = true) : nearB a b g' = true := by
  unfold nearB at h ⊢
  exact decide_eq_true (by have := of_decide_eq_true h; omega)
/-- Whether one of two passages starts first and ends last. -/
def passedB (p q : PassageD) : Bool := (decide (p.start < q.start) && decide (q.stop < p.stop)) || (decide (q.start < p.start) && decide (p.stop < q.stop))
theorem passedB_comm (p q : PassageD) : passedB p q = passedB q p := by unfold passedB; rw [Bool.or_comm]
/-- The conflict of two passages on one segment. -/
def confAt (r : RegimeD) (meet : Bool) (p q : PassageD) : Int :=
  if p.ship = q.ship then (if overB p q = true then 1 else 0)
  else if p.toward ≠ q.toward then (if overB p q = true ∧ (r.noMeet = true ∨ meet = false) then 2 else 0)
  else if nearB p.start q.start r.gap = true ∨ nearB p.stop q.stop r.gap = true then 3
  else if passedB p q = true then 4 else 0
theorem confAt_comm (r : RegimeD) (m : Bool) (p q : PassageD) : confAt r m p q = confAt r m q p := by
  unfold confAt
  rw [overB_comm p q, nearB_comm p.start, nearB_comm p.stop, passedB_comm p q]
  by_cases h1 : p.ship = q.ship
  · rw [if_pos h1, if_pos h1.symm]
  · rw [if_neg h1, if_neg (fun h : q.ship = p.ship => h1 h.symm)]
    by_cases h2 : p.toward = q.toward
    · rw [if_neg (fun h : p.toward ≠ q.toward => h h2), if_neg (fun h : q.toward ≠ p.toward => h h2.symm)]
    · rw [if_pos (show p.toward ≠ q.toward from h2), if_pos (fun h : q.toward = p.toward => h2 h.symm)]
theorem confAt_bnd (r : RegimeD) (m : Bool) (p q : PassageD) : 0 ≤ confAt r m p q ∧ confAt r m p q ≤ 4 := by
  unfold confAt
  repeat' split
  all_goals omega
theorem confAt_same {r : RegimeD} {m : Bool} {p q : PassageD} (h : p.ship = q.ship) : confAt r m p q = if overB p q = true then 1 else 0 := if_pos h
theorem confAt_meet {r : RegimeD} {m : Bool} {p q : PassageD} (h : ¬ p.ship = q.ship) (h2 : p.toward ≠ q.toward) : confAt r m p q = if overB p q = true ∧ (r.noMeet = true ∨ m = false) then 2 else 0 := by
  unfold confAt; rw [if_neg h, if_pos h2]
theorem confAt_way {r : RegimeD} {m : Bool} {p q : PassageD} (h : ¬ p.ship = q.ship) (h2 : p.toward = q.toward) : confAt r m p q = if nearB p.start q.start r.gap = true ∨ nearB p.stop q.stop r.gap = true then 3 else if passedB p q = true then 4 else 0 := by
  unfold confAt; rw [if_neg h, if_neg (fun e => e h2)]
/-- The four rules of an encounter. -/
def twiceB (p q : PassageD) : Bool := (p.ship == q.ship) && overB p q
def meetB (m : Bool) (p q : PassageD) : Bool := !(p.ship == q.ship) && (p.toward != q.toward) && !m && overB p q
def followB (p q : PassageD) : Bool := !(p.ship == q.ship) && (p.toward == q.toward)
def closeB (g : Int) (p q : PassageD) : Bool := followB p q && (nearB p.start q.start g || nearB p.stop q.stop g)
def passB' (p q : PassageD) : Bool := followB p q && passedB p q
theorem confAt_rules (r : RegimeD) (m : Bool) (p q : PassageD) : confAt r m p q = if twiceB p q = true then 1 else if meetB (m && !r.noMeet) p q = true then 2 else if closeB r.gap p q = true then 3 else if passB' p q = true then 4 else 0 := by
  unfold twiceB meetB closeB passB' followB
  by_cases h1 : p.ship = q.ship
  · rw [confAt_same h1, h1]; simp
  · by_cases h2 : p.toward = q.toward
    · rw [confAt_way h1 h2, h2]; simp [h1]
    · rw [confAt_meet h1 h2]; simp [h1, h2]
      cases overB p q <;> cases m <;> cases r.noMeet <;> simp
theorem near_lo {a b g : Int} (h : a ≤ b) : nearB a b g = decide (b - a < g) := by unfold nearB; rw [decide_eq_decide]; omega
theorem near_hi {a b g : Int} (h : b ≤ a) : nearB a b g = decide (a - b < g) := by unfold nearB; rw [decide_eq_decide]; omega
/-- What must hold before two passages are compared. -/
def confPre (d : ChartD) (r : RegimeD) (p q : PassageD) : Bool := chartB d && regB r && inB p.segment 0 ((d.segs.length : Int) - 1) && (p.segment == q.segment)
def confI (d : ChartD) (r : RegimeD) (p q : PassageD) : Int := if confPre d r p q = true then (match segAt d p.segment with | some g => confAt r g.meet p q | none => 0) else 0
theorem confI_bad {d : ChartD} {r : RegimeD} {p q : PassageD} (h : confPre d r p q = false) : confI d r p q = 0 := if_neg (by rw [h]; simp)
theorem confI_ok {d : ChartD} {r : RegimeD} {p q : PassageD} {g : SegmentD} (h : confPre d r p q = true) (hg : segAt d p.segment = some g) : confI d r p q = confAt r g.meet p q := by
  unfold confI
  rw [if_pos h, hg]
theorem confPre_seg {d : ChartD} {r : RegimeD} {p q : PassageD} (h : confPre d r p q = true) : p.segment = q.segment := by
  unfold confPre at h
  simp only [Bool.and_eq_true, beq_iff_eq] at h
  exact h.2
theorem confPre_comm (d : ChartD) (r : RegimeD) (p q : PassageD) : confPre d r p q = confPre d r q p := by
  unfold confPre
  by_cases h : p.segment = q.segment
  · rw [h]
  · rw [show (p.segment == q.segment) = false by simpa using h, show (q.segment == p.segment) = false by simpa using fun e => h e.symm]
    simp
theorem confI_comm (d : ChartD) (r : RegimeD) (p q : PassageD) : confI d r p q = confI d r q p := by
  cases h : confPre d r p q with
  | false => rw [confI_bad h, confI_bad (by rw [confPre_comm]; exact h)]
  | true =>
    have h' : confPre d r q p = true := by rw [confPre_comm]; exact h
    unfold confI
    rw [if_pos h, if_pos h', confPre_seg h]
    cases segAt d q.segment with
    | none => rfl
    | some g => exact confAt_comm r g.meet p q
theorem confI_bnd (d : ChartD) (r : RegimeD) (p q : PassageD) : 0 ≤ confI d r p q ∧ confI d r p q ≤ 4 := by
  unfold confI
  split
  · split
    · exact confAt_bnd _ _ _ _
    · omega
  · omega
/-- A stricter regime. -/
def strictB (a b : RegimeD) : Bool := regB a && regB b && decide (b.gap ≤ a.gap) && (a.noMeet || !b.noMeet)
theorem strictB_true {a b : RegimeD} (h : strictB a b = true) : regB a = true ∧ regB b = true ∧ b.gap ≤ a.gap ∧ (a.noMeet = true ∨ b.noMeet = false) := by
  unfold strictB at h
  simp only [Bool.and_eq_true, Bool.or_eq_true, decide_eq_true_eq, Bool.not_eq_true'] at h
  exact ⟨h.1.1.1, h.1.1.2, h.1.2, h.2⟩
/-- What is in conflict stays so under a stricter regime. -/
theorem conf_strict {d : ChartD} {a b : RegimeD} {p q : PassageD} (h : strictB a b = true) (hc : confI d b p q ≠ 0) : confI d a p q ≠ 0 := by
  obtain ⟨ha, hb, hgap, hno⟩ := strictB_true h
  cases hp : confPre d b p q with
  | false => exact absurd (confI_bad hp) hc
  | true =>
    have hp' : confPre d a p q = true := by
      unfold confPre at hp ⊢
      rw [hb] at hp
      rw [ha]
      exact hp
    unfold confI at hc ⊢
    rw [if_pos hp] at hc
    rw [if_pos hp']
    cases hg : segAt d p.segment with
    | none => rw [hg] at hc; exact hc
    | some g =>
      rw [hg] at hc
      simp only at hc ⊢
      unfold confAt at hc ⊢
      by_cases h1 : p.ship = q.ship
      · rw [if_pos h1] at hc ⊢; exact hc
      · rw [if_neg h1] at hc ⊢
        by_cases h2 : p.toward ≠ q.toward
        · rw [if_pos h2] at hc ⊢
          by_cases h3 : overB p q = true ∧ (b.noMeet = true ∨ g.meet = false)
          · rw [if_pos ⟨h3.1, by
              rcases h3.2 with e | e
              · rcases hno with e' | e'
                · exact .inl e'
                · rw [e] at e'; cases e'
              · exact .inr e⟩]
            omega
          · rw [if_neg h3] at hc; exact absurd rfl hc
        · rw [if_neg h2] at hc ⊢
          by_cases h3 : nearB p.start q.start b.gap = true ∨ nearB p.stop q.stop b.gap = true
          · rw [if_pos (by
              rcases h3 with e | e
              · exact .inl (nearB_mono hgap e)
              · exact .inr (nearB_mono hgap e))]
            omega
          · rw [if_neg h3] at hc
            by_cases h4 : nearB p.start q.start a.gap = true ∨ nearB p.stop q.stop a.gap = true
            · rw [if_pos h4]; omega
            · rw [if_neg h4]; exact hc

/-- The first i below n at which g i k is not zero. -/
def rowF (g : Nat → Nat → Int) (k : Nat) : Nat → Option (Nat × Nat × Int)
  | 0 => none
  | i + 1 => match rowF g k i with | some x => some x | none => if g i k ≠ 0 then some (i, k, g i k) else none
/-- The first pair i < k < n at which g i k is not zero. -/
def allF (g : Nat → Nat → Int) : Nat → Option (Nat × Nat × Int)
  | 0 => none
  | k + 1 => match allF g k with | some x => some x | none => rowF g k k
theorem rowF_yes {g : Nat → Nat → Int} {k i : Nat} (h : rowF g k i = none) (hn : g i k ≠ 0) : rowF g k (i + 1) = some (i, k, g i k) := by unfold rowF; rw [h]; exact if_pos hn
theorem rowF_no {g : Nat → Nat → Int} {k i : Nat} (h : rowF g k i = none) (hn : g i k = 0) : rowF g k (i + 1) = none := by unfold rowF; rw [h]; exact if_neg (fun e => e hn)
theorem rowF_stays {g : Nat → Nat → Int} {k i : Nat} {x : Nat × Nat × Int} (h : rowF g k i = some x) : ∀ n, rowF g k (i + n) = some x
  | 0 => h
  | n + 1 => by
    show rowF g k ((i + n) + 1) = some x
    unfold rowF
    rw [rowF_stays h n]
theorem allF_next {g : Nat → Nat → Int} {k : Nat} (h : allF g k = none) (hr : rowF g k k = none) : allF g (k + 1) = none := by unfold allF; rw [h]; exact hr
theorem allF_yes {g : Nat → Nat → Int} {k i n : Nat} (h : allF g k = none) (hr : rowF g k i = none) (hn : g i k ≠ 0) (hi : i < k) (hk : k < n) : allF g n = some (i, k, g i k) := by
  obtain ⟨j, rfl⟩ : ∃ j, k = (i + 1) + j := ⟨k - (i + 1), by omega⟩
  have h1 := rowF_stays (rowF_yes hr hn) j
  have h2 : allF g ((i + 1 + j) + 1) = some (i, i + 1 + j, g i (i + 1 + j)) := by unfold allF; rw [h]; exact h1
  obtain ⟨m, rfl⟩ : ∃ m, n = (i + 1 + j + 1) + m := ⟨n - (i + 1 + j + 1), by omega⟩
  clear hk
  induction m with
  | zero => exact h2
  | succ m ih =>
    show allF g ((i + 1 + j + 1 + m) + 1) = _
    unfold allF
    rw [ih]
theorem rowF_facts {g : Nat → Nat → Int} {k : Nat} : ∀ {i : Nat} {x : Nat × Nat × Int}, rowF g k i = some x → x.1 < i ∧ x.2.1 = k ∧ x.2.2 = g x.1 k ∧ g x.1 k ≠ 0 ∧ ∀ j, j < x.1 → g j k = 0
  | 0, x, h => by cases h
  | i + 1, x, h => by
    unfold rowF at h
    cases h1 : rowF g k i with
    | some y =>
      rw [h1] at h
      injection h with e
      subst e
      obtain ⟨a, b⟩ := rowF_facts h1
      exact ⟨by omega, b⟩
    | none =>
      rw [h1] at h
      simp only at h
      split at h
      · rename_i hn
        injection h with e
        subst e
        refine ⟨by simp, rfl, rfl, hn, fun j hj => ?_⟩
        have key : ∀ i, rowF g k i = none → ∀ j, j < i → g j k = 0 := by
          intro i
          induction i with
          | zero => intro _ j hj; omega
          | succ i ih =>
            intro hi j hj
            unfold rowF at hi
            cases h2 : rowF g k i with
            | some y => rw [h2] at hi; cases hi
            | none =>
              rw [h2] at hi
              simp only at hi
              split at hi
              · cases hi
              · rename_i h3
                by_cases e : j = i
                · subst e; omega
                · exact ih h2 j (by omega)
        exact key i h1 j hj
      · cases h
theorem rowF_none {g : Nat → Nat → Int} {k : Nat} : ∀ {i : Nat}, rowF g k i = none → ∀ j, j < i → g j k = 0
  | 0, _, j, hj => by omega
  | i + 1, h, j, hj => by
    unfold rowF at h
    cases h2 : rowF g k i with
    | some y => rw [h2] at h; cases h
    | none =>
      rw [h2] at h
      simp only at h
      split at h
      · cases h
      · rename_i h3
        by_cases e : j = i
        · subst e; omega
        · exact rowF_none h2 j (by omega)
theorem allF_none {g : Nat → Nat → Int} : ∀ {n : Nat}, allF g n = none → ∀ i k, i < k → k < n → g i k = 0
  | 0, _, i, k, _, hk => by omega
  | n + 1, h, i, k, hi, hk => by
    unfold allF at h
    cases h2 : allF g n with
    | some y => rw [h2] at h; cases h
    | none =>
      rw [h2] at h
      by_cases e : k = n
      · subst e; exact rowF_none h i hi
      · exact allF_none h2 i k hi (by omega)
theorem allF_facts {g : Nat → Nat → Int} : ∀ {n : Nat} {x : Nat × Nat × Int}, allF g n = some x → x.1 < x.2.1 ∧ x.2.1 < n ∧ x.2.2 = g x.1 x.2.1 ∧ g x.1 x.2.1 ≠ 0 ∧ ∀ i k, i < k → k < x.2.1 → g i k = 0
  | 0, x, h => by cases h
  | n + 1, x, h => by
    unfold allF at h
    cases h2 : allF g n with
    | some y =>
      rw [h2] at h
      injection h with e
      subst e
      obtain ⟨a, b, c⟩ := allF_facts h2
      exact ⟨a, by omega, c⟩
    | none =>
      rw [h2] at h
      obtain ⟨a, b, c, e, f⟩ := rowF_facts h
      rw [b]
      exact ⟨a, by omega, c, e, fun i k hi hk => allF_none h2 i k hi hk⟩
/-- The conflict of two passages of a list. -/
def pairI (d : ChartD) (r : RegimeD) (l : List PassageD) (i k : Nat) : Int := match l[i]?, l[k]? with | some p, some q => confI d r p q | _, _ => 0
theorem pairI_at {d : ChartD} {r : RegimeD} {l : List PassageD} {i k : Nat} {p q : PassageD} (hp : l[i]? = some p) (hq : l[k]? = some q) : pairI d r l i k = confI d r p q := by unfold pairI; rw [hp, hq]
def firstC (d : ChartD) (r : RegimeD) (l : List PassageD) : Option (Nat × Nat × Int) := allF (pairI d r l) l.length
def fcI (x : Option (Nat × Nat × Int)) : Int := match x with | some y => (y.1 : Int) | none => -1
def fcK (x : Option (Nat × Nat × Int)) : Int := match x with | some y => (y.2.1 : Int) | none => -1
def fcN (x : Option (Nat × Nat × Int)) : Int := match x with | some y => y.2.2 | none => 0
def clearB (d : ChartD) (r : RegimeD) (l : List PassageD) : Bool := chartB d && regB r && (fcN (firstC d r l) == 0)
/-- Whether a passage of one list is in conflict with one of another list. -/
def clashB (d : ChartD) (r : RegimeD) (a b : List PassageD) : Bool := a.any fun p => b.any fun q => !(confI d r p q == 0)
def noClash (d : ChartD) (r : RegimeD) (b : List PassageD) (p : PassageD) (j : Nat) : Prop := ∀ i q, i < j → b[i]? = some q → confI d r p q = 0
theorem clashB_yes {d : ChartD} {r : RegimeD} {a b : List PassageD} {p q : PassageD} (hp : p ∈ a) (hq : q ∈ b) (h : confI d r p q ≠ 0) : clashB d r a b = true := by
  unfold clashB
  rw [List.any_eq_true]
  refine ⟨p, hp, ?_⟩
  rw [List.any_eq_true]
  exact ⟨q, hq, by simpa using h⟩
theorem clashB_no {d : ChartD} {r : RegimeD} {a b : List PassageD} (h : ∀ p ∈ a, ∀ q ∈ b, confI d r p q = 0) : clashB d r a b = false := by
  unfold clashB
  rw [List.any_eq_false]
  intro p hp
  rw [List.any_eq_true]
  rintro ⟨q, hq, hn⟩
  rw [h p hp q hq] at hn
  simp at hn
/-- The name of a code. -/
def confName (n : Int) : ByteArray := if n = 0 then ⟨#[110, 111, 110, 101]⟩ else if n = 1 then ⟨#[115, 97, 109, 101]⟩ else if n = 2 then ⟨#[109, 101, 101, 116]⟩ else if n = 3 then ⟨#[103, 97, 112]⟩ else if n = 4 then ⟨#[112, 97, 115, 115]⟩ else ⟨#[]⟩
end Go.Proofs.Ytpglaffmmddcdaa
