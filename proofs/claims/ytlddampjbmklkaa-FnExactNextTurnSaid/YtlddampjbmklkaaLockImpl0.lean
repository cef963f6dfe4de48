
/- Lock chambers, the program's side: ChamberOk, LengthsOk, canPack, LockingTime: contracts. -/
import Derived.Test.YtlddampjbmklkaaPackMath
import Derived.Test.YtlddampjbmklkaaFirst
import Derived.Test.YtlddampjbmklkaaBox
import Derived.Test.YtlddampjbmklkaaBlk0
import Derived.StillTailTactics
import Derived.Deep.RegionHeld3
import Derived.Deep.DeepCutAuto
namespace Go.Proofs.Ytlddampjbmklkaa
open Go.RowKit
set_option maxRecDepth 100000

set_option maxHeartbeats 4000000 in
theorem implChamberOk (k : ChamberD) (w : World) : Calls Try.prog 42 #[k.val] w fun e w' => e = .returned (.bool (chamB k)) ∧ Below w.heap.size w w' := by
  have E := Lib.hid (show chamB k = decide (10 ≤ k.length ∧ k.length ≤ 1000 ∧ 1 ≤ k.lanes ∧ k.lanes ≤ 3 ∧ 1 ≤ k.minutes ∧ k.minutes ≤ 120) by
    unfold chamB inB
    rw [← Bool.decide_and, ← Bool.decide_and, decide_eq_decide]
    omega)
  have B := Lib.hid (Joins.below_alloc1 w (.cells #[.int .i64 k.length, .int .i64 k.lanes, .int .i64 k.minutes] 24))
  go_enter Try.func42, Try.ntmps42
  go_wp2
  all_goals (go_ret; exact ⟨ret_bool (by first | (rw [E.out, decide_eq_decide]; omega) | (rw [E.out]; exact (decide_eq_false (by omega)).symm) | (rw [E.out]; exact (decide_eq_true (by omega)).symm)), B.out⟩)

/-- The length is not right. -/
def offB (n : Int) : Bool := !inB n 1 400
set_option maxHeartbeats 2000000 in
theorem lengthsOk1 (n : Int) (w : World) : Calls Try.prog 97 #[.int .i64 n] w fun e w' => e = .returned (.bool (offB n)) ∧ w' = w := by
  have E := Lib.hid (show offB n = decide (n < 1 ∨ 400 < n) by
    unfold offB inB
    rw [← decide_not, decide_eq_decide]
    omega)
  go_enter Try.func97, Try.ntmps97
  go_wp2
  all_goals (go_ret; exact ⟨ret_bool (by first | (rw [E.out, decide_eq_decide]; omega) | (rw [E.out]; exact (decide_eq_false (by omega)).symm) | (rw [E.out]; exact (decide_eq_true (by omega)).symm) | (rw [E.out]; simp)), rfl⟩)

set_option maxHeartbeats 4000000 in
theorem indexOff (v : Value) (l : List Int) (w : World) (h : SlInt w v l) :
    Calls Try.prog 98 #[v, .func (.func 97) #[] #[]] w fun e w' => e = .returned (.int .i64 (firstI offB l)) ∧ Below w.heap.size w w' := by
  have hl := h.1
  have HS := Lib.hid h
  obtain ⟨A1, c1, rfl⟩ := SlOf.form h
  clear h
  go_enter Try.func98, Try.ntmps98
  go_wp2
  go_loopw [8] (fun i wr => ∃ k : Nat, k ≤ l.length ∧ i = .int .i64 (k : Int) ∧ Hid (NoOne offB l k) ∧ Hid (Below w.heap.size w wr)) (fun i _ => l.length - (intOf i).toNat)
  case atStart => exact ⟨0, Nat.zero_le _, rfl, Lib.hid (NoOne.zero _ _), Lib.hid (Below.refl _ _)⟩
  case round =>
    obtain ⟨k, hk, rfl, hN, hb⟩ := hrel
    by_cases hlt : k < l.length
    rotate_left
    · obtain rfl : k = l.length := by omega
      have E := Lib.hid (firstI_none hN.out)
      go_wp2
      go_ret
      exact ⟨ret_int E.out.symm, hb.out⟩
    obtain ⟨n, hn⟩ : ∃ n, l[k]? = some n := ⟨_, List.getElem?_eq_getElem hlt⟩
    rcases HS.out.2 with ⟨he, _⟩ | ⟨g, o, c, e, hpos, hcap, hc⟩
    · rw [he] at hlt; simp at hlt
    injection e with hA' _ hcp
    subst hA' hcp
    have y0 := cell_onV (SlInt.cells hc k n hn) hb.out
    have HN := Lib.hid hn
    obtain ⟨t, ht⟩ : ∃ t, offB n = t := ⟨_, rfl⟩
    have HT := Lib.hid ht
    clear hn ht hc
    go_wp2_with fail
    refine (lengthsOk1 _ _).mono ?_
    rw [HT.out]
    rintro e wz ⟨rfl, rfl⟩
    clear y0
    cases t with
    | true =>
      have E := Lib.hid (firstI_at hN.out HN.out HT.out)
      go_wp2
      go_ret
      exact ⟨ret_int E.out.symm, hb.out⟩
    | false =>
      have N2 := Lib.hid (hN.out.next HN.out HT.out)
      go_wp2
      go_roundw
      case rel => exact ⟨k + 1, by omega, by go_num, N2, hb⟩
      case measure => simp [intOf]; omega

set_option maxHeartbeats 2000000 in
theorem containsOff (v : Value) (l : List Int) (w : World) (h : SlInt w v l) :
    Calls Try.prog 96 #[v, .func (.func 97) #[] #[]] w fun e w' => e = .returned (.bool (decide (0 ≤ firstI offB l))) ∧ Below w.heap.size w w' := by
  have C := Lib.hid (indexOff v l w h)
  obtain ⟨i, hi⟩ : ∃ i, firstI offB l = i := ⟨_, rfl⟩
  have HI := Lib.hid hi
  rw [hi]
  obtain ⟨A1, c1, rfl⟩ := SlOf.form h
  clear h hi
  go_enter Try.func96, Try.ntmps96
  go_wp2_with fail
  refine C.out.mono ?_
  rw [HI.out]
  rintro e w1 ⟨rfl, hb1⟩
  have B1 := Lib.hid hb1
  clear hb1
  go_wp2
  go_ret
  exact ⟨rfl, B1.out⟩
theorem lensB_first (l : List Int) (h : l.length ≤ 8) : lensB l = !decide (0 ≤ firstI offB l) := by
  unfold lensB firstI
  rw [decide_eq_true h, Bool.true_and]
  cases hf : l.findIdx? offB with
  | none =>
    rw [List.findIdx?_eq_none_iff] at hf
    have : l.all (fun n => inB n 1 400) = true := by
      rw [List.all_eq_true]
      intro x hx
      have := hf x hx
      unfold offB at this
      simpa using this
    rw [this]
    rfl
  | some i =>
    have h1 := List.findIdx?_eq_some_iff_getElem.1 hf
    obtain ⟨hi, h2, -⟩ := h1
    have : l.all (fun n => inB n 1 400) = false := by
      rw [List.all_eq_false]
      refine ⟨l[i], List.getElem_mem hi, ?_⟩
      unfold offB at h2
      simpa using h2
    rw [this]
    have h0 : (0 : Int) ≤ (i : Int) := by omega
    rw [decide_eq_true h0]
    rfl

set_option maxHeartbeats 4000000 in
theorem implLengthsOk (v : Value) (l : List Int) (w : World) (h : SlInt w v l) : Calls Try.prog 91 #[v] w fun e w' => e = .returned (.bool (lensB l)) ∧ Below w.heap.size w w' := by
  have hl := h.1
  have HS := Lib.hid h
  obtain ⟨A1, c1, rfl⟩ := SlOf.form h
  clear h
  by_cases h8 : l.length ≤ 8
  rotate_left
  · have E := Lib.hid (lensB_long h8)
    obtain ⟨m, hm⟩ : ∃ m, l.length = m := ⟨_, rfl⟩
    rw [hm] at h8 hl ⊢
    clear hm
    have h8' : decide ((m : Int) ≤ 8) = false := decide_eq_false (by omega)
    go_enter Try.func91, Try.ntmps91
    go_wp2
    go_ret
    exact ⟨ret_bool E.out.symm, Below.refl _ _⟩
  have C := Lib.hid (containsOff _ l w HS.out)
  have E0 := lensB_first l h8
  obtain ⟨b, hb⟩ : ∃ b, decide (0 ≤ firstI offB l) = b := ⟨_, rfl⟩
  have HB := Lib.hid hb
  rw [hb] at E0
  have E := Lib.hid E0
  obtain ⟨m, hm⟩ : ∃ m, l.length = m := ⟨_, rfl⟩
  rw [hm] at h8 hl C ⊢
  have h8' : decide ((m : Int) ≤ 8) = true := decide_eq_true (by omega)
  clear hm hb E0
  go_enter Try.func91, Try.ntmps91
  go_wp2_with fail
  refine C.out.mono ?_
  rw [HB.out]
  rintro e w1 ⟨rfl, hb1⟩
  have B1 := Lib.hid hb1
  clear hb1
  cases b with
  | true =>
    go_wp2
    go_ret
    exact ⟨ret_bool (by rw [E.out]; rfl), B1.out⟩
  | false =>
    go_wp2
    go_ret
    exact ⟨ret_bool (by rw [E.out]; rfl), B1.out⟩

set_option maxHeartbeats 4000000 in
theorem implCanPack (k : ChamberD) (v : Value) (l : List Int) (w : World) (h : SlInt w v l) : Calls Try.prog 85 #[k.val, v] w fun e w' => e = .returned (.bool (chamB k && lensB l)) ∧ Below w.heap.size w w' := by
  obtain ⟨W0, hW0⟩ : ∃ W0, W0 = (w.alloc (.cells #[.int .i64 k.length, .int .i64 k.lanes, .int .i64 k.minutes] 24)) := ⟨_, rfl⟩
  have B := Lib.hid (Joins.below_alloc1 w (.cells #[.int .i64 k.length, .int .i64 k.lanes, .int .i64 k.minutes] 24))
  have K := Lib.hid (Blk.new w #[.int .i64 k.length, .int .i64 k.lanes, .int .i64 k.minutes] 24)
  have HW0 := Lib.hid hW0
  rw [← hW0] at B K
  clear hW0
  have R := Lib.hid (SlOf.below h B.out)
  obtain ⟨A1, c1, rfl⟩ := SlOf.form h
  obtain ⟨b1, hb1⟩ : ∃ b, chamB k = b := ⟨_, rfl⟩
  obtain ⟨b2, hb2⟩ : ∃ b, lensB l = b := ⟨_, rfl⟩
  have H1 := Lib.hid hb1
  have H2 := Lib.hid hb2
  rw [hb1, hb2]
  clear hb1 hb2 h
  have c0 : W0.cell? ⟨w.heap.size, 0, none⟩ = some (.int .i64 k.length) := K.out.cell 0
  have c1 : W0.cell? ⟨w.heap.size, 1, none⟩ = some (.int .i64 k.lanes) := K.out.cell 1
  have c2 : W0.cell? ⟨w.heap.size, 2, none⟩ = some (.int .i64 k.minutes) := K.out.cell 2
  go_enter Try.func85, Try.ntmps85
  go_wp2_with fail
  rw [← HW0.out]
  clear c0 c1 c2
  refine (implChamberOk k _).mono ?_
  rw [H1.out]
  rintro e w1 ⟨rfl, hb⟩
  have B1 := Lib.hid (B.out.trans (hb.mono B.out.size))
  have R1 := Lib.hid (SlOf.below R.out hb)
  clear hb
  cases b1 with
  | false =>
    go_wp2
    go_ret
    exact ⟨rfl, B1.out⟩
  | true =>
    go_wp2_with fail
    refine (implLengthsOk _ l _ R1.out).mono ?_
    rw [H2.out]
    rintro e w2 ⟨rfl, hb⟩
    have B2 := Lib.hid (B1.out.trans (hb.mono B1.out.size))
    clear hb
    go_wp2
    go_ret
    exact ⟨rfl, B2.out⟩

end Go.Proofs.Ytlddampjbmklkaa
