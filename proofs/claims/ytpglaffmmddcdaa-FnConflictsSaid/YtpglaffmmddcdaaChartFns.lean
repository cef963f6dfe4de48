
/- SegmentOf, OtherEnd, RouteMinutes of the model: what they tell: contracts. -/
import Derived.Test.YtpglaffmmddcdaaChartOkSpec
import Derived.Test.YtpglaffmmddcdaaFirst
import Derived.Test.YtpglaffmmddcdaaInts
namespace Go.Proofs.Ytpglaffmmddcdaa
open Go.RowKit
set_option maxRecDepth 100000

def segI (d : ChartD) (a b : Int) : Int := if chartB d = true then firstI (fun s => joinsB s a b) d.segs else -1
theorem segI_bad {d : ChartD} {a b : Int} (h : chartB d = false) : segI d a b = -1 := if_neg (by rw [h]; simp)
theorem segI_ok {d : ChartD} {a b : Int} (h : chartB d = true) : segI d a b = firstI (fun s => joinsB s a b) d.segs := if_pos h
/-- The i-th segment. -/
def segAt (d : ChartD) (i : Int) : Option SegmentD := if 0 ≤ i then d.segs[i.toNat]? else none
theorem segAt_in {d : ChartD} {i : Int} (h : inB i 0 ((d.segs.length : Int) - 1) = true) : ∃ s, segAt d i = some s ∧ d.segs[i.toNat]? = some s ∧ 0 ≤ i ∧ i.toNat < d.segs.length := by
  unfold inB at h
  have h' := of_decide_eq_true h
  refine ⟨d.segs[i.toNat]'(by omega), ?_, List.getElem?_eq_getElem (by omega), h'.1, by omega⟩
  unfold segAt
  rw [if_pos h'.1, List.getElem?_eq_getElem (by omega)]
theorem segAt_out {d : ChartD} {i : Int} (h : inB i 0 ((d.segs.length : Int) - 1) = false) : segAt d i = none := by
  unfold inB at h
  have h' := of_decide_eq_false h
  unfold segAt
  by_cases h0 : 0 ≤ i
  · rw [if_pos h0, List.getElem?_eq_none (by omega)]
  · rw [if_neg h0]
def endI' (d : ChartD) (i p : Int) : Int := if chartB d = true then (match segAt d i with | some s => otherI s p | none => -1) else -1
theorem endI'_bad {d : ChartD} {i p : Int} (h : chartB d = false) : endI' d i p = -1 := if_neg (by rw [h]; simp)
theorem endI'_none {d : ChartD} {i p : Int} (h : segAt d i = none) : endI' d i p = -1 := by unfold endI'; split <;> simp [h]
theorem endI'_ok {d : ChartD} {i p : Int} {s : SegmentD} (h : chartB d = true) (hs : segAt d i = some s) : endI' d i p = otherI s p := by unfold endI'; rw [if_pos h, hs]
/-- The sum of the minutes, while all elements are segments. -/
def minSum (d : ChartD) : List Int → Option Int
  | [] => some 0
  | i :: l => match segAt d i, minSum d l with | some s, some r => some (s.minutes + r) | _, _ => none
def minutesI (d : ChartD) (l : List Int) : Int := if chartB d = true then (minSum d l).getD (-1) else -1
theorem minutesI_bad {d : ChartD} {l : List Int} (h : chartB d = false) : minutesI d l = -1 := if_neg (by rw [h]; simp)
theorem minSum_append (d : ChartD) (a : List Int) (i : Int) : minSum d (a ++ [i]) = (match minSum d a, segAt d i with | some r, some s => some (r + s.minutes) | _, _ => none) := by
  induction a with
  | nil => simp only [List.nil_append, minSum]; cases segAt d i <;> simp
  | cons x a ih =>
    simp only [List.cons_append, minSum, ih]
    cases segAt d x <;> cases minSum d a <;> cases segAt d i <;> simp [Int.add_assoc]
theorem minSum_none {d : ChartD} {l : List Int} {k : Nat} {i : Int} (hx : l[k]? = some i) (h : segAt d i = none) : minSum d l = none := by
  induction l generalizing k with
  | nil => simp at hx
  | cons y l ih =>
    cases k with
    | zero => simp at hx; subst hx; simp [minSum, h]
    | succ k =>
      have := ih (k := k) (by simpa using hx)
      simp only [minSum, this]
      cases segAt d y <;> rfl

theorem minSum_pos {d : ChartD} (h : chartB d = true) : ∀ {l : List Int} {r : Int}, minSum d l = some r → 0 ≤ r ∧ r ≤ 240 * l.length := by
  intro l
  induction l with
  | nil => intro r hr; simp [minSum] at hr; subst hr; simp
  | cons i l ih =>
    intro r hr
    simp only [minSum] at hr
    cases hs : segAt d i with
    | none => rw [hs] at hr; simp at hr
    | some s =>
      cases hm : minSum d l with
      | none => rw [hs, hm] at hr; simp at hr
      | some q =>
        rw [hs, hm] at hr
        simp at hr
        have := ih hm
        have hsx : d.segs[i.toNat]? = some s := by
          unfold segAt at hs
          split at hs
          · exact hs
          · cases hs
        have := segB_true (chartB_seg h hsx)
        simp
        omega

end Go.Proofs.Ytpglaffmmddcdaa
