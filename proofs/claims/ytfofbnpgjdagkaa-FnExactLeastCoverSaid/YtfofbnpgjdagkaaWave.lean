
/- The wave of a tide: the program's and the model's Wave answer the same number at all integers: contracts. -/
import Derived.Test.YtfofbnpgjdagkaaText
namespace Go.Proofs.Ytfofbnpgjdagkaa
open Go.RowKit

def perB (p : Int) : Bool := decide (4 ≤ p ∧ p ≤ 2880 ∧ p % 4 = 0)
def crest (x h : Int) : Int := 40000 * x * (h - x) / (h * h)
def waveI (n p : Int) : Int := if perB p = true then (if n % p < p / 2 then crest (n % p) (p / 2) else -crest (n % p - p / 2) (p / 2)) else 0

theorem perB_true {p : Int} (h : perB p = true) : 4 ≤ p ∧ p ≤ 2880 ∧ p % 4 = 0 := of_decide_eq_true h
theorem perB_false {p : Int} (h : perB p = false) : ¬ (4 ≤ p ∧ p ≤ 2880 ∧ p % 4 = 0) := of_decide_eq_false h
theorem perB_mk {p : Int} (h : 4 ≤ p ∧ p ≤ 2880 ∧ p % 4 = 0) : perB p = true := decide_eq_true h
theorem perB_no {p : Int} (h : ¬ (4 ≤ p ∧ p ≤ 2880 ∧ p % 4 = 0)) : perB p = false := decide_eq_false h

theorem crest_num {x h : Int} (h0 : 0 ≤ x) (h1 : x ≤ h) (h2 : h ≤ 1440) : 0 ≤ 40000 * x * (h - x) ∧ 40000 * x * (h - x) ≤ 82944000000 := by
  have a : 0 ≤ x * (h - x) := Int.mul_nonneg h0 (by omega)
  have b : x * (h - x) ≤ 1440 * 1440 := Int.mul_le_mul (by omega) (by omega) (by omega) (by omega)
  have e : 40000 * x * (h - x) = 40000 * (x * (h - x)) := Int.mul_assoc _ _ _
  rw [e]; omega
theorem crest_den {h : Int} (h0 : 1 ≤ h) (h2 : h ≤ 1440) : 1 ≤ h * h ∧ h * h ≤ 2073600 := by
  have a : 1 * 1 ≤ h * h := Int.mul_le_mul h0 h0 (by omega) (by omega)
  have b : h * h ≤ 1440 * 1440 := Int.mul_le_mul h2 h2 (by omega) (by omega)
  omega
/-- 4 x (h - x) is at most h * h. -/
theorem crest_le {x h : Int} (h0 : 1 ≤ h) (x0 : 0 ≤ x) (x1 : x ≤ h) : 0 ≤ crest x h ∧ crest x h ≤ 10000 := by
  have hp : 0 < h * h := Int.mul_pos (by omega) (by omega)
  unfold crest
  refine ⟨Int.ediv_nonneg (Int.mul_nonneg (by omega) (by omega)) (Int.le_of_lt hp), ?_⟩
  refine Int.ediv_le_of_le_mul hp ?_
  have sq : 0 ≤ (h - 2 * x) * (h - 2 * x) := by
    rcases Int.le_total 0 (h - 2 * x) with g | g
    · exact Int.mul_nonneg g g
    · have := Int.mul_nonneg (a := -(h - 2 * x)) (b := -(h - 2 * x)) (by omega) (by omega)
      rwa [Int.neg_mul_neg] at this
  have e1 : (h - 2 * x) * (h - 2 * x) = h * h - 4 * (x * (h - x)) := by
    simp only [Int.mul_sub, Int.sub_mul]
    have c1 : h * (2 * x) = 2 * (x * h) := by rw [Int.mul_left_comm, Int.mul_comm h x]
    have c2 : 2 * x * h = 2 * (x * h) := Int.mul_assoc _ _ _
    have c3 : 2 * x * (2 * x) = 4 * (x * x) := by rw [Int.mul_assoc, Int.mul_left_comm x 2 x]; omega
    rw [c1, c2, c3]; omega
  have e2 : 40000 * x * (h - x) = 40000 * (x * (h - x)) := Int.mul_assoc _ _ _
  rw [e2]
  omega

theorem waveI_no {n p : Int} (h : perB p = false) : waveI n p = 0 := by unfold waveI; rw [h]; rfl
theorem waveI_up {n p : Int} (h : perB p = true) (hx : n % p < p / 2) : waveI n p = crest (n % p) (p / 2) := by unfold waveI; rw [if_pos h, if_pos hx]
theorem waveI_down {n p : Int} (h : perB p = true) (hx : ¬ n % p < p / 2) : waveI n p = -crest (n % p - p / 2) (p / 2) := by unfold waveI; rw [if_pos h, if_neg hx]
theorem waveI_le (n p : Int) : -10000 ≤ waveI n p ∧ waveI n p ≤ 10000 := by
  cases h : perB p with
  | false => rw [waveI_no h]; omega
  | true =>
    obtain ⟨a, b, c⟩ := perB_true h
    have m0 := Int.emod_nonneg n (b := p) (by omega)
    have m1 := Int.emod_lt_of_pos n (b := p) (by omega)
    by_cases hx : n % p < p / 2
    · rw [waveI_up h hx]
      have := crest_le (x := n % p) (h := p / 2) (by omega) m0 (by omega)
      omega
    · rw [waveI_down h hx]
      have := crest_le (x := n % p - p / 2) (h := p / 2) (by omega) (by omega) (by omega)
      omega
theorem tmod_neg {n p : Int} (hp : 0 < p) (h : n.tmod p < 0) : n.tmod p + p = n % p := by
  rcases Int.le_total 0 n with g | g
  · rw [Int.tmod_eq_emod_of_nonneg g] at h
    have := Int.emod_nonneg n (b := p) (by omega)
    omega
  · have m0 := Int.emod_nonneg n (b := p) (by omega)
    have m1 := Int.emod_lt_of_pos n (b := p) hp
    have t0 := Int.tmod_add_mul_tdiv n p
    have e0 := Int.emod_add_mul_ediv n p
    have tb : -p < n.tmod p := by
      have := Int.lt_tmod_of_pos n hp
      omega
    have hm : (n.tmod p + p) % p = n.tmod p + p := Int.emod_eq_of_lt (by omega) (by omega)
    rw [← hm, Int.add_emod_right]
    have : n % p = (n.tmod p + p * n.tdiv p) % p := by rw [t0]
    rw [this, Int.add_mul_emod_self_left]
theorem tmod_pos {n p : Int} (hp : 0 < p) (h : ¬ n.tmod p < 0) : n.tmod p = n % p := by
  have t0 := Int.tmod_add_mul_tdiv n p
  have tb := Int.tmod_lt_of_pos n hp
  have hm : (n.tmod p) % p = n.tmod p := Int.emod_eq_of_lt (by omega) (by omega)
  rw [← hm]
  have : n % p = (n.tmod p + p * n.tdiv p) % p := by rw [t0]
  rw [this, Int.add_mul_emod_self_left]

end Go.Proofs.Ytfofbnpgjdagkaa
