
/- Duties and covers: the mathematics (the document's chapter 14). -/
import Derived.Test.YtfofbnpgjdagkaaDutys
import Derived.Test.YtfofbnpgjdagkaaRunMath
import Derived.Test.YtfofbnpgjdagkaaRivalMath
import Derived.Test.YtfofbnpgjdagkaaPart
namespace Go.Proofs.Ytfofbnpgjdagkaa
open Go.RowKit
set_option maxRecDepth 100000

def dutyB (d : DutyD) : Bool := inB d.fr 0 2880 && decide (d.fr < d.tt) && decide (d.tt ≤ 2880) && inB d.a 0 7 && inB d.b 0 7
def dutiesB (l : List DutyD) : Bool := decide (l.length ≤ 12) && l.all dutyB
def tableB (pause : Int) (mv : List Int) : Bool := inB pause 0 2880 && decide (mv.length = 64) && mv.all (fun n => inB n 0 240)
def gapO (pause : Int) (mv : List Int) (d e : DutyD) : Option Int := if tableB pause mv = true ∧ inB d.b 0 7 = true ∧ inB e.a 0 7 = true then (mv[(d.b * 8 + e.a).toNat]?).map (fun n => pause + n) else none
def canB (pause : Int) (mv : List Int) (d e : DutyD) : Bool := match gapO pause mv d e with
  | some n => dutyB d && dutyB e && decide (d.tt + n ≤ e.fr)
  | none => false
def bothB (pause : Int) (mv : List Int) (d e : DutyD) : Bool := canB pause mv d e || canB pause mv e d
theorem bothB_comm (pause : Int) (mv : List Int) (d e : DutyD) : bothB pause mv d e = bothB pause mv e d := by unfold bothB; rw [Bool.or_comm]
/-- Whether one person can perform the i-th and the j-th duty. -/
def bothAt (pause : Int) (mv : List Int) (l : List DutyD) (i j : Nat) : Bool := match l[i]?, l[j]? with
  | some d, some e => bothB pause mv d e
  | _, _ => false
theorem bothAt_comm (pause : Int) (mv : List Int) (l : List DutyD) (i j : Nat) : bothAt pause mv l i j = bothAt pause mv l j i := by
  unfold bothAt
  cases l[i]? <;> cases l[j]? <;> first | rfl | exact bothB_comm _ _ _ _
theorem bothAt_at {pause : Int} {mv : List Int} {l : List DutyD} {i j : Nat} {d e : DutyD} (hd : l[i]? = some d) (he : l[j]? = some e) : bothAt pause mv l i j = bothB pause mv d e := by unfold bothAt; rw [hd, he]
def pCover (pause : Int) (mv : List Int) (l : List DutyD) (done : List Int) (n : Int) : Bool := inB n 0 ((l.length : Int) - 1) && (List.range done.length).all (fun k => !(done[k]? == some n) || bothAt pause mv l done.length k)
def isCovB (pause : Int) (mv : List Int) (l : List DutyD) (who : List Int) : Bool := dutiesB l && (who.length == l.length) && runB (pCover pause mv l) [] who
def castL (l : List Nat) : List Int := l.map (fun n : Nat => (n : Int))
def leastCov (pause : Int) (mv : List Int) (l : List DutyD) : Option (List Nat × Nat) := if dutiesB l = true ∧ tableB pause mv = true then coverO (bothAt pause mv l) l.length else none
def rivalD (pause : Int) (mv : List Int) (l : List DutyD) : List Int := if dutiesB l = true ∧ tableB pause mv = true then castL (rivalL (bothAt pause mv l) l.length) else []
theorem dutiesB_all {l : List DutyD} (h : dutiesB l = true) : l.length ≤ 12 ∧ ∀ d ∈ l, dutyB d = true := by
  unfold dutiesB at h
  rw [Bool.and_eq_true, List.all_eq_true] at h
  exact ⟨of_decide_eq_true h.1, h.2⟩
theorem dutyB_true {d : DutyD} (h : dutyB d = true) : 0 ≤ d.fr ∧ d.fr < d.tt ∧ d.tt ≤ 2880 ∧ (0 ≤ d.a ∧ d.a ≤ 7) ∧ 0 ≤ d.b ∧ d.b ≤ 7 := by
  unfold dutyB at h
  simp only [Bool.and_eq_true] at h
  have h1 := of_decide_eq_true h.1.1.1.1
  have h2 := of_decide_eq_true h.1.1.1.2
  have h3 := of_decide_eq_true h.1.1.2
  have h4 := of_decide_eq_true h.1.2
  have h5 := of_decide_eq_true h.2
  exact ⟨h1.1, h2, h3, h4, h5⟩
/-- A cover of the search is a cover. -/
theorem isCov_of {pause : Int} {mv : List Int} {l : List DutyD} {w : List Nat} {n : Nat} (hl : dutiesB l = true) (hc : CovOk (bothAt pause mv l) n w) (hn : n ≤ l.length) (hw : w.length = l.length) : isCovB pause mv l (castL w) = true := by
  have hcl : (castL w).length = w.length := by unfold castL; rw [List.length_map]
  have hr : ∀ k, k ≤ w.length → RunTo (pCover pause mv l) (castL w) k := by
    intro k
    induction k with
    | zero => intro _; exact RunTo.zero _ _
    | succ k ih =>
      intro hk
      obtain ⟨x, hx⟩ : ∃ x, w[k]? = some x := ⟨_, List.getElem?_eq_getElem (by omega)⟩
      have hx' : (castL w)[k]? = some (x : Int) := by unfold castL; rw [List.getElem?_map, hx]; rfl
      refine (ih (by omega)).next hx' ?_
      have hlt := hc.lt x (List.mem_of_getElem? hx)
      unfold pCover
      rw [inB_mk (by omega) (by omega), Bool.true_and, List.all_eq_true]
      intro j hj
      have hkl : ((castL w).take k).length = k := by rw [List.length_take, hcl]; omega
      rw [hkl] at hj ⊢
      have hj := List.mem_range.1 hj
      obtain ⟨y, hy⟩ : ∃ y, w[j]? = some y := ⟨_, List.getElem?_eq_getElem (by omega)⟩
      have hy' : ((castL w).take k)[j]? = some (y : Int) := by rw [List.getElem?_take, if_pos hj]; unfold castL; rw [List.getElem?_map, hy]; rfl
      rw [hy']
      by_cases e : y = x
      · subst e
        rw [hc.both k j y hj hx hy, Bool.or_true]
      · have : ((some (y : Int)) == some (x : Int)) = false := by simp; omega
        rw [this]
        rfl
  unfold isCovB
  rw [hl, hcl, hw, (show runB (pCover pause mv l) [] (castL w) = true from (by have := hr w.length (Nat.le_refl _); rw [← hcl] at this; exact this.all))]
  simp
/-- The moves of a table without ways. -/
def stayMv : List Int := List.replicate 64 0
theorem tableB_stay {pause : Int} (h : 0 ≤ pause ∧ pause ≤ 2880) : tableB pause stayMv = true := by
  unfold tableB stayMv
  rw [inB_mk h.1 h.2, List.length_replicate, List.all_replicate]
  rfl
theorem canB_stay {pause : Int} (h : 0 ≤ pause ∧ pause ≤ 2880) {d e : DutyD} (hd : dutyB d = true) (he : dutyB e = true) : canB pause stayMv d e = decide (d.tt + pause ≤ e.fr) := by
  obtain ⟨-, -, -, ⟨a0, a1⟩, b0, b1⟩ := dutyB_true hd
  obtain ⟨-, -, -, ⟨c0, c1⟩, d0, d1⟩ := dutyB_true he
  have hg : gapO pause stayMv d e = some pause := by
    unfold gapO
    rw [if_pos ⟨tableB_stay h, inB_mk b0 b1, inB_mk c0 c1⟩]
    unfold stayMv
    rw [List.getElem?_replicate, if_pos (by omega)]
    simp
  unfold canB
  rw [hg]
  simp only
  rw [hd, he]
  rfl
/-- Without ways between the points, duties are intervals. -/
theorem dilworth_stay {pause : Int} (h : 0 ≤ pause ∧ pause ≤ 2880) {l : List DutyD} (hl : dutiesB l = true) : ∃ w n, leastCov pause stayMv l = some (w, n) ∧ (n : Int) = (rivalD pause stayMv l).length := by
  obtain ⟨w, n, e, hc, hlen, -, -, least⟩ := cover_some (bothAt pause stayMv l) l.length
  refine ⟨w, n, by unfold leastCov; rw [if_pos ⟨hl, tableB_stay h⟩]; exact e, ?_⟩
  have hv := (dutiesB_all hl).2
  have key := dilworth (m := l.length) (fun i => ((l[i]?).map DutyD.fr).getD 0) (fun i => ((l[i]?).map (fun d => d.tt + pause)).getD 0) (bothAt_comm pause stayMv l) (fun i hi => by
      obtain ⟨d, hd⟩ : ∃ d, l[i]? = some d := ⟨_, List.getElem?_eq_getElem hi⟩
      have := dutyB_true (hv d (List.mem_of_getElem? hd))
      show ((l[i]?).map DutyD.fr).getD 0 < ((l[i]?).map (fun d => d.tt + pause)).getD 0
      rw [hd]
      show d.fr < d.tt + pause
      omega) (fun i j hi hj _ => by
      obtain ⟨d, hd⟩ : ∃ d, l[i]? = some d := ⟨_, List.getElem?_eq_getElem hi⟩
      obtain ⟨e, he⟩ : ∃ d, l[j]? = some d := ⟨_, List.getElem?_eq_getElem hj⟩
      rw [bothAt_at hd he]
      show bothB pause stayMv d e = false ↔ ((l[i]?).map DutyD.fr).getD 0 < ((l[j]?).map (fun d => d.tt + pause)).getD 0 ∧ ((l[j]?).map DutyD.fr).getD 0 < ((l[i]?).map (fun d => d.tt + pause)).getD 0
      rw [hd, he]
      show bothB pause stayMv d e = false ↔ d.fr < e.tt + pause ∧ e.fr < d.tt + pause
      unfold bothB
      rw [canB_stay h (hv d (List.mem_of_getElem? hd)) (hv e (List.mem_of_getElem? he)), canB_stay h (hv e (List.mem_of_getElem? he)) (hv d (List.mem_of_getElem? hd)), Bool.or_eq_false_iff, decide_eq_false_iff_not, decide_eq_false_iff_not]
      omega) hc hlen least
  unfold rivalD castL
  rw [if_pos ⟨hl, tableB_stay h⟩, List.length_map, ← key]
end Go.Proofs.Ytfofbnpgjdagkaa
