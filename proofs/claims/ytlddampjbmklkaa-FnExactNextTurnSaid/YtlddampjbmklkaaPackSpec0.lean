
/- Lock chambers, the model's side: ChamberOk, LengthsOk, LockingTime: contracts. -/
import Derived.Test.YtlddampjbmklkaaPackMath
import Derived.Test.YtlddampjbmklkaaBox
import Derived.Test.YtlddampjbmklkaaBlk0
import Derived.StillTailTactics
import Derived.Deep.RegionHeld3
import Derived.Deep.DeepCutAuto
namespace Go.Proofs.Ytlddampjbmklkaa
open Go.RowKit
set_option maxRecDepth 100000


set_option maxHeartbeats 4000000 in
theorem specChamberOk (k : ChamberD) (w : World)  :
    Calls Try.prog 54 #[k.val] w (fun e w' => e = .returned (.bool (chamB k)) ∧ Below w.heap.size w w') := by
  obtain ⟨W0, hW0⟩ : ∃ W0, W0 = (w.alloc (.cells #[.int .i64 k.length, .int .i64 k.lanes, .int .i64 k.minutes] 24)) := ⟨_, rfl⟩
  have B := Lib.hid (Joins.below_alloc1 w (.cells #[.int .i64 k.length, .int .i64 k.lanes, .int .i64 k.minutes] 24))
  have Kk := Lib.hid (Blk.new w #[.int .i64 k.length, .int .i64 k.lanes, .int .i64 k.minutes] 24)
  have HW0 := Lib.hid hW0
  rw [← hW0] at B Kk
  clear hW0
  obtain ⟨b1, hb1⟩ : ∃ b, inB k.length 10 1000 = b := ⟨_, rfl⟩
  have Hb1 := Lib.hid hb1
  obtain ⟨b2, hb2⟩ : ∃ b, inB k.lanes 1 3 = b := ⟨_, rfl⟩
  have Hb2 := Lib.hid hb2
  obtain ⟨b3, hb3⟩ : ∃ b, inB k.minutes 1 120 = b := ⟨_, rfl⟩
  have Hb3 := Lib.hid hb3
  have E0 := Lib.hid (show chamB k = (b1 && b2 && b3) by unfold chamB; rw [hb1, hb2, hb3])
  clear hb1 hb2 hb3
  cases b1 with
  | false =>
    have E := Lib.hid (E0.out.trans (show _ = false by simp))
    go_enter Try.func54, Try.ntmps54
    have vk0 : W0.cell? ⟨w.heap.size, 0, none⟩ = some (.int .i64 k.length) := Kk.out.cell 0
    have vk1 : W0.cell? ⟨w.heap.size, 1, none⟩ = some (.int .i64 k.lanes) := Kk.out.cell 1
    have vk2 : W0.cell? ⟨w.heap.size, 2, none⟩ = some (.int .i64 k.minutes) := Kk.out.cell 2
    go_wp2_with fail
    rw [← HW0.out]
    clear vk0 vk1 vk2
    refine (l01In_any _ _ _ _).mono ?_
    rw [Hb1.out]
    rintro e wz ⟨rfl, rfl⟩
    have vk0 : W0.cell? ⟨w.heap.size, 0, none⟩ = some (.int .i64 k.length) := Kk.out.cell 0
    have vk1 : W0.cell? ⟨w.heap.size, 1, none⟩ = some (.int .i64 k.lanes) := Kk.out.cell 1
    have vk2 : W0.cell? ⟨w.heap.size, 2, none⟩ = some (.int .i64 k.minutes) := Kk.out.cell 2
    go_wp2
    go_ret
    exact ⟨ret_bool E.out.symm, B.out⟩
  | true =>
  cases b2 with
  | false =>
    have E := Lib.hid (E0.out.trans (show _ = false by simp))
    go_enter Try.func54, Try.ntmps54
    have vk0 : W0.cell? ⟨w.heap.size, 0, none⟩ = some (.int .i64 k.length) := Kk.out.cell 0
    have vk1 : W0.cell? ⟨w.heap.size, 1, none⟩ = some (.int .i64 k.lanes) := Kk.out.cell 1
    have vk2 : W0.cell? ⟨w.heap.size, 2, none⟩ = some (.int .i64 k.minutes) := Kk.out.cell 2
    go_wp2_with fail
    rw [← HW0.out]
    clear vk0 vk1 vk2
    refine (l01In_any _ _ _ _).mono ?_
    rw [Hb1.out]
    rintro e wz ⟨rfl, rfl⟩
    have vk0 : W0.cell? ⟨w.heap.size, 0, none⟩ = some (.int .i64 k.length) := Kk.out.cell 0
    have vk1 : W0.cell? ⟨w.heap.size, 1, none⟩ = some (.int .i64 k.lanes) := Kk.out.cell 1
    have vk2 : W0.cell? ⟨w.heap.size, 2, none⟩ = some (.int .i64 k.minutes) := Kk.out.cell 2
    go_wp2_with fail
    clear vk0 vk1 vk2
    refine (l01In_any _ _ _ _).mono ?_
    rw [Hb2.out]
    rintro e wz ⟨rfl, rfl⟩
    have vk0 : W0.cell? ⟨w.heap.size, 0, none⟩ = some (.int .i64 k.length) := Kk.out.cell 0
    have vk1 : W0.cell? ⟨w.heap.size, 1, none⟩ = some (.int .i64 k.lanes) := Kk.out.cell 1
    have vk2 : W0.cell? ⟨w.heap.size, 2, none⟩ = some (.int .i64 k.minutes) := Kk.out.cell 2
    go_wp2
    go_ret
    exact ⟨ret_bool E.out.symm, B.out⟩
  | true =>
  have E := Lib.hid (E0.out.trans (show _ = b3 by simp))
  go_enter Try.func54, Try.ntmps54
  have vk0 : W0.cell? ⟨w.heap.size, 0, none⟩ = some (.int .i64 k.length) := Kk.out.cell 0
  have vk1 : W0.cell? ⟨w.heap.size, 1, none⟩ = some (.int .i64 k.lanes) := Kk.out.cell 1
  have vk2 : W0.cell? ⟨w.heap.size, 2, none⟩ = some (.int .i64 k.minutes) := Kk.out.cell 2
  go_wp2_with fail
  rw [← HW0.out]
  clear vk0 vk1 vk2
  refine (l01In_any _ _ _ _).mono ?_
  rw [Hb1.out]
  rintro e wz ⟨rfl, rfl⟩
  have vk0 : W0.cell? ⟨w.heap.size, 0, none⟩ = some (.int .i64 k.length) := Kk.out.cell 0
  have vk1 : W0.cell? ⟨w.heap.size, 1, none⟩ = some (.int .i64 k.lanes) := Kk.out.cell 1
  have vk2 : W0.cell? ⟨w.heap.size, 2, none⟩ = some (.int .i64 k.minutes) := Kk.out.cell 2
  go_wp2_with fail
  clear vk0 vk1 vk2
  refine (l01In_any _ _ _ _).mono ?_
  rw [Hb2.out]
  rintro e wz ⟨rfl, rfl⟩
  have vk0 : W0.cell? ⟨w.heap.size, 0, none⟩ = some (.int .i64 k.length) := Kk.out.cell 0
  have vk1 : W0.cell? ⟨w.heap.size, 1, none⟩ = some (.int .i64 k.lanes) := Kk.out.cell 1
  have vk2 : W0.cell? ⟨w.heap.size, 2, none⟩ = some (.int .i64 k.minutes) := Kk.out.cell 2
  go_wp2_with fail
  clear vk0 vk1 vk2
  refine (l01In_any _ _ _ _).mono ?_
  rw [Hb3.out]
  rintro e wz ⟨rfl, rfl⟩
  have vk0 : W0.cell? ⟨w.heap.size, 0, none⟩ = some (.int .i64 k.length) := Kk.out.cell 0
  have vk1 : W0.cell? ⟨w.heap.size, 1, none⟩ = some (.int .i64 k.lanes) := Kk.out.cell 1
  have vk2 : W0.cell? ⟨w.heap.size, 2, none⟩ = some (.int .i64 k.minutes) := Kk.out.cell 2
  go_wp2
  go_ret
  exact ⟨ret_bool E.out.symm, B.out⟩

set_option maxHeartbeats 2000000 in
theorem specLengthsOk (v : Value) (l : List Int) (w : World) (h : SlInt w v l) : Calls Try.prog 79 #[v] w (fun e w' => e = .returned (.bool (lensB l)) ∧ Below w.heap.size w w') := by
  have HS := Lib.hid h
  have hl := h.1
  obtain ⟨A1, c1, rfl⟩ := SlOf.form h
  clear h
  by_cases h8 : l.length ≤ 8
  rotate_left
  · have E := Lib.hid (lensB_long h8)
    have h8' : 8 < l.length := by omega
    go_enter Try.func79, Try.ntmps79
    go_wp2
    go_ret
    exact ⟨ret_bool E.out.symm, Below.refl _ _⟩
  go_enter Try.func79, Try.ntmps79
  go_wp2
  go_loopw [10] (fun i wr => ∃ k : Nat, k ≤ l.length ∧ i = .int .i64 (k : Int) ∧ Hid (LensTo l k) ∧ Hid (Below w.heap.size w wr)) (fun i _ => l.length - (intOf i).toNat)
  case atStart => exact ⟨0, Nat.zero_le _, rfl, Lib.hid (fun i _ hi => absurd hi (by omega)), Lib.hid (Below.refl _ _)⟩
  case round =>
    obtain ⟨k, hk, rfl, hA, hb⟩ := hrel
    by_cases hlt : k < l.length
    rotate_left
    · obtain rfl : k = l.length := by omega
      have E := Lib.hid (hA.out.all h8)
      go_wp2
      go_ret
      exact ⟨ret_bool E.out.symm, hb.out⟩
    obtain ⟨n, hn⟩ : ∃ n, l[k]? = some n := ⟨_, List.getElem?_eq_getElem hlt⟩
    rcases HS.out.2 with ⟨he, _⟩ | ⟨g, o, c, e, hpos, hcap, hc⟩
    · rw [he] at hlt; simp at hlt
    injection e with hA' _ hcp
    subst hA' hcp
    have y0 := cell_onV (SlInt.cells hc k n hn) hb.out
    have HN := Lib.hid hn
    obtain ⟨t, ht⟩ : ∃ t, inB n 1 400 = t := ⟨_, rfl⟩
    have HT := Lib.hid ht
    clear hn ht hc
    go_wp2_with fail
    refine (l01In_any _ _ _ _).mono ?_
    rw [HT.out]
    rintro e wz ⟨rfl, rfl⟩
    clear y0
    cases t with
    | false =>
      have E := Lib.hid (lensB_no HN.out HT.out)
      go_wp2
      go_ret
      exact ⟨ret_bool E.out.symm, hb.out⟩
    | true =>
      have N2 := Lib.hid (hA.out.next HN.out HT.out)
      go_wp2
      go_roundw
      case rel => exact ⟨k + 1, by omega, by go_num, N2, hb⟩
      case measure => simp [intOf]; omega


end Go.Proofs.Ytlddampjbmklkaa