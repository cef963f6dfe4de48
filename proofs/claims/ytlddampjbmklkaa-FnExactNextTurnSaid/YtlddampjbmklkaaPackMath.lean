
/- Lock chambers: what chapter 11's functions tell: plain mathematics. -/
import Derived.Test.YtlddampjbmklkaaChambers
import Derived.Test.YtlddampjbmklkaaInts
import Derived.Test.YtlddampjbmklkaaPart
namespace Go.Proofs.Ytlddampjbmklkaa
set_option maxRecDepth 100000

def chamB (k : ChamberD) : Bool := inB k.length 10 1000 && inB k.lanes 1 3 && inB k.minutes 1 120
def lensB (l : List Int) : Bool := decide (l.length ≤ 8) && l.all (fun n => inB n 1 400)
theorem chamB_true {k : ChamberD} (h : chamB k = true) : 10 ≤ k.length ∧ k.length ≤ 1000 ∧ 1 ≤ k.lanes ∧ k.lanes ≤ 3 ∧ 1 ≤ k.minutes ∧ k.minutes ≤ 120 := by
  unfold chamB inB at h
  simp only [Bool.and_eq_true, decide_eq_true_iff] at h
  omega
theorem lensB_len {l : List Int} (h : lensB l = true) : l.length ≤ 8 := by
  unfold lensB at h
  simp only [Bool.and_eq_true, decide_eq_true_iff] at h
  exact h.1
theorem lensB_at {l : List Int} (h : lensB l = true) {i : Nat} {n : Int} (hn : l[i]? = some n) : 1 ≤ n ∧ n ≤ 400 := by
  unfold lensB at h
  simp only [Bool.and_eq_true, List.all_eq_true] at h
  exact of_decide_eq_true (h.2 n (List.mem_of_getElem? hn))
/-- The first k lengths are right. -/
def LensTo (l : List Int) (k : Nat) : Prop := ∀ i n, i < k → l[i]? = some n → inB n 1 400 = true
theorem LensTo.next {l : List Int} {k : Nat} {n : Int} (h : LensTo l k) (hn : l[k]? = some n) (hb : inB n 1 400 = true) : LensTo l (k + 1) := fun i m hi hm => by
  by_cases e : i = k
  · subst e; rw [hn] at hm; injection hm with hm; rw [← hm]; exact hb
  · exact h i m (by omega) hm
theorem LensTo.all {l : List Int} (h : LensTo l l.length) (hl : l.length ≤ 8) : lensB l = true := by
  unfold lensB
  rw [decide_eq_true hl, Bool.true_and, List.all_eq_true]
  intro n hn
  obtain ⟨i, hi, e⟩ := List.getElem_of_mem hn
  exact h i n hi (by rw [List.getElem?_eq_getElem hi, e])
theorem lensB_long {l : List Int} (h : ¬ l.length ≤ 8) : lensB l = false := by unfold lensB; rw [decide_eq_false h]; rfl
theorem lensB_no {l : List Int} {i : Nat} {n : Int} (hn : l[i]? = some n) (hb : inB n 1 400 = false) : lensB l = false := by
  cases h : lensB l with
  | false => rfl
  | true =>
    have := lensB_at h hn
    exact absurd (show inB n 1 400 = true from decide_eq_true this) (by rw [hb]; simp)
theorem lensB_part {l s : List Int} (h : lensB l = true) (hs : s.length ≤ 8) (hm : ∀ x ∈ s, x ∈ l) : lensB s = true := by
  unfold lensB at h ⊢
  simp only [Bool.and_eq_true, List.all_eq_true] at h ⊢
  exact ⟨decide_eq_true hs, fun x hx => h.2 x (hm x hx)⟩

/-- The least lane from j on in which a ship can lie so that the others can be packed behind it. -/
def laneR (L n : Int) (used : List Int) (rest : List Int → Option (List Int)) : Nat → Nat → Option (List Int)
  | _, 0 => none
  | j, m + 1 =>
    match (if used.getD j 0 + n ≤ L then rest (used.set j (used.getD j 0 + n)) else none) with
    | some out => some ((j : Int) :: out)
    | none => laneR L n used rest (j + 1) m
/-- The lexicographically least packing of the ships, on top of what is used. -/
def packR (L : Int) (lanes : Nat) : List Int → List Int → Option (List Int)
  | [], _ => some []
  | n :: l, used => laneR L n used (packR L lanes l) 0 lanes
/-- What lies in a lane. -/
def sumIn : List Int → List Int → Nat → Int
  | n :: l, s :: ss, j => (if s = (j : Int) then n else 0) + sumIn l ss j
  | _, _, _ => 0
/-- Whether a division into lanes fits on top of what is used. -/
def Fits (L : Int) (lanes : Nat) (l s used : List Int) : Prop := s.length = l.length ∧ (∀ x ∈ s, 0 ≤ x ∧ x < (lanes : Int)) ∧ ∀ j, j < lanes → used.getD j 0 + sumIn l s j ≤ L

theorem laneR_some {L n : Int} {used : List Int} {rest : List Int → Option (List Int)} : ∀ {m j : Nat} {o : List Int}, laneR L n used rest j m = some o → ∃ i out, j ≤ i ∧ i < j + m ∧ o = (i : Int) :: out ∧ used.getD i 0 + n ≤ L ∧ rest (used.set i (used.getD i 0 + n)) = some out
  | 0, j, o, h => by cases h
  | m + 1, j, o, h => by
    unfold laneR at h
    split at h
    · rename_i out hx
      injection h with e
      by_cases hf : used.getD j 0 + n ≤ L
      · rw [if_pos hf] at hx
        exact ⟨j, out, Nat.le_refl _, by omega, e.symm, hf, hx⟩
      · rw [if_neg hf] at hx; cases hx
    · obtain ⟨i, out, h1, h2, h3⟩ := laneR_some h
      exact ⟨i, out, by omega, by omega, h3⟩
theorem laneR_none {L n : Int} {used : List Int} {rest : List Int → Option (List Int)} : ∀ {m j : Nat}, laneR L n used rest j m = none → ∀ i, j ≤ i → i < j + m → used.getD i 0 + n ≤ L → rest (used.set i (used.getD i 0 + n)) = none
  | 0, j, _, i, h1, h2, _ => by omega
  | m + 1, j, h, i, h1, h2, hf => by
    unfold laneR at h
    split at h
    · cases h
    · rename_i hx
      by_cases e : i = j
      · subst e
        rw [if_pos hf] at hx
        exact hx
      · exact laneR_none h i (by omega) (by omega) hf
theorem getD_set_same (l : List Int) (i : Nat) (x : Int) (h : i < l.length) : (l.set i x).getD i 0 = x := by simp [List.getD, h]
theorem getD_set_other (l : List Int) {i j : Nat} (x : Int) (h : i ≠ j) : (l.set i x).getD j 0 = l.getD j 0 := by simp [List.getD, h]
/-- What is packed fits. -/
theorem packR_fits {L : Int} {lanes : Nat} : ∀ {l used s : List Int}, used.length = lanes → (∀ j, j < lanes → used.getD j 0 ≤ L) → packR L lanes l used = some s → Fits L lanes l s used
  | [], used, s, _, hu, h => by
    injection h with e
    subst e
    exact ⟨rfl, by simp, fun j hj => by simp [sumIn]; exact hu j hj⟩
  | n :: l, used, s, hl, hu, h => by
    obtain ⟨i, out, -, hi, rfl, hf, ho⟩ := laneR_some h
    have hil : i < used.length := by omega
    have ih := packR_fits (l := l) (used := used.set i (used.getD i 0 + n)) (by simpa using hl) (fun j hj => by
      by_cases e : i = j
      · subst e; rw [getD_set_same _ _ _ hil]; exact hf
      · rw [getD_set_other _ _ e]; exact hu j hj) ho
    obtain ⟨h1, h2, h3⟩ := ih
    refine ⟨by simp [h1], fun x hx => ?_, fun j hj => ?_⟩
    · rcases List.mem_cons.1 hx with rfl | hx
      · omega
      · exact h2 x hx
    · have := h3 j hj
      show used.getD j 0 + ((if (i : Int) = (j : Int) then n else 0) + sumIn l out j) ≤ L
      by_cases e : i = j
      · subst e; rw [getD_set_same _ _ _ hil] at this; rw [if_pos rfl]; omega
      · rw [getD_set_other _ _ e] at this; rw [if_neg (by omega)]; omega
/-- What is not packed fits in no way. -/
theorem packR_none {L : Int} {lanes : Nat} : ∀ {l used s : List Int}, used.length = lanes → (∀ n ∈ l, 0 ≤ n) → packR L lanes l used = none → ¬ Fits L lanes l s used
  | [], used, s, _, _, h => by cases h
  | n :: l, used, s, hl, hn, h => by
    rintro ⟨h1, h2, h3⟩
    cases s with
    | nil => simp at h1
    | cons x ss =>
      obtain ⟨x0, x1⟩ := h2 x (by simp)
      obtain ⟨i, rfl⟩ : ∃ i : Nat, x = (i : Int) := ⟨x.toNat, by omega⟩
      have hi : i < lanes := by omega
      have hil : i < used.length := by omega
      have pos : ∀ (l s : List Int) (j : Nat), (∀ n ∈ l, 0 ≤ n) → 0 ≤ sumIn l s j := by
        intro l
        induction l with
        | nil => intro s j _; simp [sumIn]
        | cons a l ih =>
          intro s j ha
          cases s with
          | nil => simp [sumIn]
          | cons b s =>
            have h1 := ih s j (fun x hx => ha x (by simp [hx]))
            have h2 := ha a (by simp)
            show 0 ≤ (if b = (j : Int) then a else 0) + sumIn l s j
            split <;> omega
      have hf : used.getD i 0 + n ≤ L := by
        have e := h3 i hi
        have : sumIn (n :: l) ((i : Int) :: ss) i = n + sumIn l ss i := by show (if (i : Int) = (i : Int) then n else 0) + _ = _; rw [if_pos rfl]
        rw [this] at e
        have := pos l ss i (fun x hx => hn x (by simp [hx]))
        omega
      have hr := laneR_none h i (Nat.zero_le _) (by omega) hf
      refine packR_none (s := ss) (by simpa using hl) (fun x hx => hn x (by simp [hx])) hr ⟨by simpa using h1, fun x hx => h2 x (by simp [hx]), fun j hj => ?_⟩
      have e := h3 j hj
      have e2 : sumIn (n :: l) ((i : Int) :: ss) j = (if (i : Int) = (j : Int) then n else 0) + sumIn l ss j := rfl
      rw [e2] at e
      by_cases hij : i = j
      · subst hij; rw [getD_set_same _ _ _ hil]; rw [if_pos rfl] at e; omega
      · rw [getD_set_other _ _ hij]; rw [if_neg (by omega)] at e; omega
def packO (k : ChamberD) (l : List Int) : Option (List Int) := if chamB k = true ∧ lensB l = true then packR k.length k.lanes.toNat l (List.replicate k.lanes.toNat 0) else none
theorem packO_bad {k : ChamberD} {l : List Int} (h : ¬ (chamB k = true ∧ lensB l = true)) : packO k l = none := if_neg h
theorem packO_ok {k : ChamberD} {l : List Int} (h1 : chamB k = true) (h2 : lensB l = true) : packO k l = packR k.length k.lanes.toNat l (List.replicate k.lanes.toNat 0) := if_pos ⟨h1, h2⟩
/-- A packing: as the document says it. -/
def packB (k : ChamberD) (l s : List Int) : Bool := chamB k && lensB l && (s.length == l.length) && s.all (fun x => inB x 0 (k.lanes - 1)) && (List.range k.lanes.toNat).all (fun j => decide (sumIn l s j ≤ k.length))
theorem packB_fits {k : ChamberD} {l s : List Int} (h1 : chamB k = true) (h2 : lensB l = true) : packB k l s = true ↔ Fits k.length k.lanes.toNat l s (List.replicate k.lanes.toNat 0) := by
  obtain ⟨-, -, l0, -⟩ := chamB_true h1
  have z : ∀ j, (List.replicate k.lanes.toNat (0 : Int)).getD j 0 = 0 := fun j => by
    rw [List.getD, List.getElem?_replicate]; split <;> rfl
  unfold packB Fits
  rw [h1, h2]
  simp only [Bool.and_eq_true, Bool.true_and, beq_iff_eq, List.all_eq_true, List.mem_range, decide_eq_true_iff, z, Int.zero_add]
  constructor
  · rintro ⟨⟨a, b⟩, c⟩
    exact ⟨a, fun x hx => by have := of_decide_eq_true (b x hx); omega, c⟩
  · rintro ⟨a, b, c⟩
    exact ⟨⟨a, fun x hx => decide_eq_true (by have := b x hx; omega)⟩, c⟩
theorem packO_some {k : ChamberD} {l s : List Int} (h : packO k l = some s) : packB k l s = true := by
  by_cases hc : chamB k = true ∧ lensB l = true
  · rw [packO_ok hc.1 hc.2] at h
    obtain ⟨a, -⟩ := chamB_true hc.1
    refine (packB_fits hc.1 hc.2).2 (packR_fits (by simp) (fun j _ => ?_) h)
    rw [List.getD, List.getElem?_replicate]
    split <;> simp <;> omega
  · rw [packO_bad hc] at h; cases h
theorem packO_none {k : ChamberD} {l s : List Int} (h : packO k l = none) : packB k l s = false := by
  by_cases hc : chamB k = true ∧ lensB l = true
  · rw [packO_ok hc.1 hc.2] at h
    cases hp : packB k l s with
    | false => rfl
    | true => exact absurd ((packB_fits hc.1 hc.2).1 hp) (packR_none (by simp) (fun n hn => by obtain ⟨i, hi, e⟩ := List.getElem_of_mem hn; have := lensB_at hc.2 (show l[i]? = some n by rw [List.getElem?_eq_getElem hi, e]); omega) h)
  · unfold packB
    cases h1 : chamB k <;> cases h2 : lensB l <;> simp_all
def timeI (k : ChamberD) (n : Int) : Int := if chamB k = true ∧ inB n 0 20 = true then (if n = 0 then 0 else n * k.minutes + (n - 1) * k.minutes) else -1
end Go.Proofs.Ytlddampjbmklkaa
