
/- Lock chambers: the least number of lockings: plain mathematics. -/
import Derived.Test.YtphagahhhfiiaaaLongMath
namespace Go.Proofs.Ytphagahhhfiiaaa
set_option maxRecDepth 100000

/-- All ships can be packed in n lockings. -/
def lotsB (k : ChamberD) (l : List Int) (n : Nat) : Bool := (packR k.length (n * k.lanes.toNat) l (List.replicate (n * k.lanes.toNat) 0)).isSome
def leastN (k : ChamberD) (l : List Int) : Nat := longR (fun n => !lotsB k l n) 0 (l.length + 1)
def leastI (k : ChamberD) (l : List Int) : Int := if chamB k = true ∧ lensB l = true ∧ leastN k l ≤ l.length then ((leastN k l : Nat) : Int) else -1
theorem lots_iff {k : ChamberD} {l : List Int} (h1 : chamB k = true) (h2 : lensB l = true) (n : Nat) : lotsB k l n = true ↔ PacksIn k.length (n * k.lanes.toNat) l := by
  obtain ⟨a, -⟩ := chamB_true h1
  exact packs_iff (by omega) (lens_pos h2)
theorem leastN_le_of {k : ChamberD} {l : List Int} {n : Nat} (h : lotsB k l n = true) : leastN k l ≤ n := by
  rcases Nat.lt_or_ge n (leastN k l) with hlt | hge
  · have := longR_all (p := fun n => !lotsB k l n) (m := l.length + 1) (n := 0) (i := n) (Nat.zero_le _) hlt
    rw [h] at this
    cases this
  · exact hge
theorem leastN_lots {k : ChamberD} {l : List Int} (h : leastN k l ≤ l.length) : lotsB k l (leastN k l) = true := by
  have := longR_stop (p := fun n => !lotsB k l n) (m := l.length + 1) (n := 0) (by have : leastN k l = longR (fun n => !lotsB k l n) 0 (l.length + 1) := rfl; omega)
  have e : (!lotsB k l (leastN k l)) = false := this
  simpa using e
/-- Each ship alone: so many lockings are enough. -/
theorem packs_each {L : Int} {a : Nat} (hL : 0 ≤ L) (ha : 0 < a) : ∀ {l : List Int}, (∀ n ∈ l, 0 ≤ n) → (∀ x ∈ l, x ≤ L) → PacksIn L (l.length * a) l
  | [], _, _ => packs_nil hL _
  | x :: l, hn, hx => by
    obtain ⟨s, h1, h2, h3⟩ := packs_each (l := l) hL ha (fun n h => hn n (by simp [h])) (fun y h => hx y (by simp [h]))
    have hm : (x :: l).length * a = l.length * a + a := by rw [List.length_cons, Nat.add_mul, Nat.one_mul]
    rw [hm]
    refine ⟨((l.length * a : Nat) : Int) :: s, by simp [h1], fun y hy => ?_, fun j hj => ?_⟩
    · rcases List.mem_cons.1 hy with rfl | hy
      · omega
      · have := h2 y hy; omega
    · show (if ((l.length * a : Nat) : Int) = (j : Int) then x else 0) + sumIn l s j ≤ L
      by_cases e : l.length * a = j
      · subst e
        rw [if_pos rfl, sumIn_far (fun y hy => by have := h2 y hy; omega)]
        have := hx x (by simp)
        omega
      · rw [if_neg (by omega)]
        by_cases e2 : j < l.length * a
        · have := h3 j e2; omega
        · rw [sumIn_far (fun y hy => by have := h2 y hy; omega)]; omega
theorem leastN_short {k : ChamberD} {l : List Int} (h1 : chamB k = true) (h2 : lensB l = true) (h3 : shortB k l = true) : leastN k l ≤ l.length := by
  obtain ⟨a, -, b, -⟩ := chamB_true h1
  refine leastN_le_of ((lots_iff h1 h2 _).2 (packs_each (by omega) (by omega) (lens_pos h2) (fun x hx => ?_)))
  unfold shortB at h3
  rw [List.all_eq_true] at h3
  exact of_decide_eq_true (h3 x hx)
theorem leastN_long {k : ChamberD} {l : List Int} (h1 : chamB k = true) (h2 : lensB l = true) (h : leastN k l ≤ l.length) : shortB k l = true := by
  have hp := (lots_iff h1 h2 _).1 (leastN_lots h)
  unfold shortB
  rw [List.all_eq_true]
  exact fun x hx => decide_eq_true (packs_le (lens_pos h2) hp x hx)
end Go.Proofs.Ytphagahhhfiiaaa
