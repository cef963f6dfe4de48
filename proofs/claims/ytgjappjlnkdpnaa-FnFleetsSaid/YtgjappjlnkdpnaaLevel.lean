
/- The level of a valid tide at a minute: impl.levelOf and spec.l02Level: contracts. -/
import Derived.Test.YtgjappjlnkdpnaaTideOk
import Derived.IntWalk
namespace Go.Proofs.Ytgjappjlnkdpnaa
open Go.RowKit
set_option maxRecDepth 100000

/-- What a part adds at the minute t. -/
def addI (t : Int) (x : PartD) : Int := (x.amp * waveI (t + x.pha) x.per).tdiv 10000
def levI (m : Int) (l : List PartD) (t : Int) : Int := l.foldl (fun s x => s + addI t x) m
def ampI (l : List PartD) : Int := l.foldl (fun s x => s + x.amp) 0

theorem tdiv_le {a y : Int} (h0 : -(a * 10000) ≤ y) (h1 : y ≤ a * 10000) : -a ≤ y.tdiv 10000 ∧ y.tdiv 10000 ≤ a := by
  rcases Int.le_total 0 y with h | h
  · rw [Int.tdiv_eq_ediv_of_nonneg h]; omega
  · have e : y.tdiv 10000 = -((-y).tdiv 10000) := by rw [Int.neg_tdiv, Int.neg_neg]
    rw [e, Int.tdiv_eq_ediv_of_nonneg (by omega)]; omega
theorem mul_le {a y : Int} (ha : 0 ≤ a) (h0 : -10000 ≤ y) (h1 : y ≤ 10000) : -(a * 10000) ≤ a * y ∧ a * y ≤ a * 10000 := by
  have u := Int.mul_le_mul_of_nonneg_left h1 ha
  have v := Int.mul_le_mul_of_nonneg_left h0 ha
  have e : a * -10000 = -(a * 10000) := by omega
  omega
theorem addI_num {t : Int} {x : PartD} (hx : partB x = true) : -10000000 ≤ x.amp * waveI (t + x.pha) x.per ∧ x.amp * waveI (t + x.pha) x.per ≤ 10000000 := by
  obtain ⟨a0, a1, _⟩ := partB_true hx
  obtain ⟨w0, w1⟩ := waveI_le (t + x.pha) x.per
  have := mul_le a0 w0 w1
  omega
theorem addI_le {t : Int} {x : PartD} (hx : partB x = true) : -x.amp ≤ addI t x ∧ addI t x ≤ x.amp := by
  obtain ⟨a0, a1, _⟩ := partB_true hx
  obtain ⟨w0, w1⟩ := waveI_le (t + x.pha) x.per
  obtain ⟨u, v⟩ := mul_le a0 w0 w1
  exact tdiv_le u v
theorem levI_snoc (m : Int) (l : List PartD) (t : Int) (x : PartD) : levI m (l ++ [x]) t = levI m l t + addI t x := by simp [levI]
theorem ampI_snoc (l : List PartD) (x : PartD) : ampI (l ++ [x]) = ampI l + x.amp := by simp [ampI]
theorem take_parts {l : List PartD} (h : ∀ x ∈ l, partB x = true) (k : Nat) : ∀ x ∈ l.take k, partB x = true := fun x hx => h x (List.mem_of_mem_take hx)
theorem sum_bounds (m t : Int) (l : List PartD) (h : ∀ x ∈ l, partB x = true) (k : Nat) (hk : k ≤ l.length) : 0 ≤ ampI (l.take k) ∧ ampI (l.take k) ≤ 1000 * k ∧ m - ampI (l.take k) ≤ levI m (l.take k) t ∧ levI m (l.take k) t ≤ m + ampI (l.take k) := by
  induction k with
  | zero => simp [ampI, levI]
  | succ k ih =>
    obtain ⟨x, hx⟩ : ∃ x, l[k]? = some x := ⟨_, List.getElem?_eq_getElem (by omega)⟩
    have hp := h x (List.mem_of_getElem? hx)
    obtain ⟨a0, a1, _⟩ := partB_true hp
    have := addI_le (t := t) hp
    have := ih (by omega)
    rw [take_snoc' l k x hx, levI_snoc, ampI_snoc]
    omega
theorem levI_le (m t : Int) (l : List PartD) (h : ∀ x ∈ l, partB x = true) : 0 ≤ ampI l ∧ ampI l ≤ 1000 * l.length ∧ m - ampI l ≤ levI m l t ∧ levI m l t ≤ m + ampI l := by
  have := sum_bounds m t l h l.length (Nat.le_refl _)
  rwa [List.take_length] at this

/-- LevelAt's answer. -/
def atI (m : Int) (l : List PartD) (t : Int) : Int := if tideB m l = true ∧ 0 ≤ t ∧ t ≤ 2880 then levI m l t else 0
theorem atI_yes {m : Int} {l : List PartD} {t : Int} (h : tideB m l = true) (t0 : 0 ≤ t) (t1 : t ≤ 2880) : atI m l t = levI m l t := if_pos ⟨h, t0, t1⟩
theorem atI_no {m : Int} {l : List PartD} {t : Int} (h : ¬ (tideB m l = true ∧ 0 ≤ t ∧ t ≤ 2880)) : atI m l t = 0 := if_neg h

end Go.Proofs.Ytgjappjlnkdpnaa
