
/- Lock chambers: lanes that are empty are alike: plain mathematics. -/
import Derived.Test.YtphagahhhfiiaaaPackMath
namespace Go.Proofs.Ytphagahhhfiiaaa
set_option maxRecDepth 100000

theorem laneP_over {L n : Int} {us : List Int} {rest : List Int → Option (List Int)} {j m : Nat} (h : ¬ us.getD j 0 + n ≤ L) : laneR L n us rest j (m + 1) = laneR L n us rest (j + 1) m := by
  conv => lhs; unfold laneR
  rw [if_neg h]
theorem laneP_no {L n : Int} {us : List Int} {rest : List Int → Option (List Int)} {j m : Nat} (h : us.getD j 0 + n ≤ L) (hr : rest (us.set j (us.getD j 0 + n)) = none) : laneR L n us rest j (m + 1) = laneR L n us rest (j + 1) m := by
  conv => lhs; unfold laneR
  rw [if_pos h, hr]
theorem laneP_yes {L n : Int} {us : List Int} {rest : List Int → Option (List Int)} {j m : Nat} {out : List Int} (h : us.getD j 0 + n ≤ L) (hr : rest (us.set j (us.getD j 0 + n)) = some out) : laneR L n us rest j (m + 1) = some ((j : Int) :: out) := by
  unfold laneR
  rw [if_pos h, hr]
theorem laneP_none {L n : Int} {us : List Int} {rest : List Int → Option (List Int)} : ∀ {m j : Nat}, (∀ i, j ≤ i → i < j + m → us.getD i 0 + n ≤ L → rest (us.set i (us.getD i 0 + n)) = none) → laneR L n us rest j m = none
  | 0, _, _ => rfl
  | m + 1, j, h => by
    by_cases hf : us.getD j 0 + n ≤ L
    · rw [laneP_no hf (h j (Nat.le_refl _) (by omega) hf)]
      exact laneP_none fun i h1 h2 => h i (by omega) (by omega)
    · rw [laneP_over hf]
      exact laneP_none fun i h1 h2 => h i (by omega) (by omega)
/-- Two labels exchanged. -/
def swapI (i j : Nat) (x : Int) : Int := if x = (i : Int) then (j : Int) else if x = (j : Int) then (i : Int) else x
def swapN (i j k : Nat) : Nat := if k = i then j else if k = j then i else k
theorem swap_hit (i j k : Nat) (x : Int) : swapI i j x = (k : Int) ↔ x = (swapN i j k : Int) := by
  unfold swapI swapN
  have k1 : ((if k = i then j else if k = j then i else k : Nat) : Int) = if k = i then (j : Int) else if k = j then (i : Int) else (k : Int) := by
    split
    · rfl
    · split <;> rfl
  rw [k1]
  split <;> split <;> (try split) <;> (try split) <;> omega
theorem sumIn_swap (i j : Nat) : ∀ (l s : List Int) (k : Nat), sumIn l (s.map (swapI i j)) k = sumIn l s (swapN i j k)
  | [], s, k => by simp [sumIn]
  | a :: l, [], k => by simp [sumIn]
  | a :: l, b :: s, k => by
    have ih := sumIn_swap i j l s k
    show (if swapI i j b = (k : Int) then a else 0) + sumIn l (s.map (swapI i j)) k = (if b = (swapN i j k : Int) then a else 0) + sumIn l s (swapN i j k)
    rw [ih]
    by_cases e : b = (swapN i j k : Int)
    · rw [if_pos e, if_pos ((swap_hit i j k b).2 e)]
    · rw [if_neg e, if_neg (fun h => e ((swap_hit i j k b).1 h))]
/-- Where a ship cannot begin one empty lane, it cannot begin another one. -/
theorem empty_same {L x : Int} {n : Nat} {l us : List Int} {i j : Nat} (hl : us.length = n) (hi : i < n) (hj : j < n) (hij : i ≠ j) (ui : us.getD i 0 = 0) (uj : us.getD j 0 = 0) (hu : ∀ k, k < n → us.getD k 0 ≤ L) (hx : x ≤ L) (hn : ∀ y ∈ l, 0 ≤ y)
    (h : packR L n l (us.set j x) = none) : packR L n l (us.set i x) = none := by
  cases hp : packR L n l (us.set i x) with
  | none => rfl
  | some s =>
    exfalso
    obtain ⟨h1, h2, h3⟩ := packR_fits (by simpa using hl) (fun k hk => by
      by_cases e : i = k
      · subst e; rw [getD_set_same _ _ _ (by omega)]; exact hx
      · rw [getD_set_other _ _ e]; exact hu k hk) hp
    refine packR_none (s := s.map (swapI i j)) (by simpa using hl) hn h ⟨by simpa using h1, fun y hy => ?_, fun k hk => ?_⟩
    · obtain ⟨z, hz, rfl⟩ := List.mem_map.1 hy
      have := h2 z hz
      unfold swapI
      split
      · omega
      · split <;> omega
    · rw [sumIn_swap]
      have hsk : swapN i j k < n := by unfold swapN; split; omega; split <;> omega
      have h4 := h3 (swapN i j k) hsk
      have e : (us.set j x).getD k 0 = (us.set i x).getD (swapN i j k) 0 := by
        unfold swapN
        by_cases e1 : k = i
        · subst e1
          rw [if_pos rfl, getD_set_other _ _ (fun e => hij e.symm), getD_set_other _ _ hij, ui, uj]
        · rw [if_neg e1]
          by_cases e2 : k = j
          · subst e2
            rw [if_pos rfl, getD_set_same _ _ _ (by omega), getD_set_same _ _ _ (by omega)]
          · rw [if_neg e2, getD_set_other _ _ (fun e => e2 e.symm), getD_set_other _ _ (fun e => e1 e.symm)]
      rw [e]
      exact h4
end Go.Proofs.Ytphagahhhfiiaaa
