
/- Duties, the model's side: l13Duty, DutiesOk, l13Table, Gap, CanFollow: contracts. -/
import Derived.Test.YtfofbnpgjdagkaaDutyMath
import Derived.Test.YtfofbnpgjdagkaaInts
import Derived.Test.YtfofbnpgjdagkaaBlk0
import Derived.Test.YtfofbnpgjdagkaaBox
import Derived.Test.YtfofbnpgjdagkaaText
import Derived.Deep.DeepCutAuto
namespace Go.Proofs.Ytfofbnpgjdagkaa
open Go.RowKit
set_option maxRecDepth 100000

set_option maxHeartbeats 4000000 in
theorem specDuty (d : DutyD) (w : World) : Calls Try.prog 51 #[d.val] w fun e w' => e = .returned (.bool (dutyB d)) ∧ Below w.heap.size w w' := by
  have bl := Joins.below_alloc1 w (.cells #[.int .i64 d.fr, .int .i64 d.tt, .int .i64 d.a, .int .i64 d.b] 35)
  have K := Blk.new w #[.int .i64 d.fr, .int .i64 d.tt, .int .i64 d.a, .int .i64 d.b] 35
  obtain ⟨W1, hW1⟩ : ∃ W, W = w.alloc (.cells #[.int .i64 d.fr, .int .i64 d.tt, .int .i64 d.a, .int .i64 d.b] 35) := ⟨_, rfl⟩
  rw [← hW1] at bl K
  have HW := Lib.hid hW1
  have B := Lib.hid bl
  have z0 : W1.cell? ⟨w.heap.size, 0, none⟩ = some (.int .i64 d.fr) := K.cell 0
  have z1 : W1.cell? ⟨w.heap.size, 1, none⟩ = some (.int .i64 d.tt) := K.cell 1
  have z2 : W1.cell? ⟨w.heap.size, 2, none⟩ = some (.int .i64 d.a) := K.cell 2
  have z3 : W1.cell? ⟨w.heap.size, 3, none⟩ = some (.int .i64 d.b) := K.cell 3
  obtain ⟨b1, hb1⟩ : ∃ b, inB d.fr 0 2880 = b := ⟨_, rfl⟩
  obtain ⟨b2, hb2⟩ : ∃ x, decide (d.fr < d.tt) = x := ⟨_, rfl⟩
  obtain ⟨b3, hb3⟩ : ∃ x, decide (d.tt ≤ 2880) = x := ⟨_, rfl⟩
  obtain ⟨b4, hb4⟩ : ∃ b, inB d.a 0 7 = b := ⟨_, rfl⟩
  obtain ⟨b5, hb5⟩ : ∃ b, inB d.b 0 7 = b := ⟨_, rfl⟩
  have EF := Lib.hid (show dutyB d = (b1 && b2 && b3 && b4 && b5) by unfold dutyB; rw [hb1, hb2, hb3, hb4, hb5])
  have H1 := Lib.hid hb1
  have H4 := Lib.hid hb4
  have H5 := Lib.hid hb5
  have g2 := hb2
  have g3 := hb3
  clear bl K hW1 hb1 hb2 hb3 hb4 hb5
  go_enter Try.func51, Try.ntmps51
  go_wp2_with fail
  rw [← HW.out]
  refine (l01In_any _ _ _ _).mono ?_
  rw [H1.out]
  rintro e w3 ⟨rfl, rfl⟩
  cases b1 with
  | false =>
    go_wp2
    go_ret
    exact ⟨ret_bool (by rw [EF.out]; rfl), B.out⟩
  | true =>
  cases b2 with
  | false =>
    go_wp2
    go_ret
    exact ⟨ret_bool (by rw [EF.out]; rfl), B.out⟩
  | true =>
  cases b3 with
  | false =>
    go_wp2
    go_ret
    exact ⟨ret_bool (by rw [EF.out]; rfl), B.out⟩
  | true =>
  go_wp2_with fail
  refine (l01In_any _ _ _ _).mono ?_
  rw [H4.out]
  rintro e w3 ⟨rfl, rfl⟩
  cases b4 with
  | false =>
    go_wp2
    go_ret
    exact ⟨ret_bool (by rw [EF.out]; rfl), B.out⟩
  | true =>
  go_wp2_with fail
  refine (l01In_any _ _ _ _).mono ?_
  rw [H5.out]
  rintro e w3 ⟨rfl, rfl⟩
  go_wp2
  go_ret
  exact ⟨ret_bool (by rw [EF.out]; simp), B.out⟩

/-- The first k duties are valid. -/
def FirstD (l : List DutyD) (k : Nat) : Prop := (l.take k).all dutyB = true
theorem FirstD.next {l : List DutyD} {k : Nat} {x : DutyD} (h : FirstD l k) (hx : l[k]? = some x) (hb : dutyB x = true) : FirstD l (k + 1) := by
  unfold FirstD at h ⊢
  rw [take_snoc' l k x hx, List.all_append, h]
  simp [hb]
theorem dutiesB_no {l : List DutyD} {k : Nat} {x : DutyD} (hx : l[k]? = some x) (hb : dutyB x = false) : dutiesB l = false := by
  unfold dutiesB
  rw [Bool.and_eq_false_iff]
  right
  rw [List.all_eq_false]
  exact ⟨x, List.mem_of_getElem? hx, by rw [hb]; simp⟩
theorem dutiesB_long {l : List DutyD} (h : ¬ l.length ≤ 12) : dutiesB l = false := by unfold dutiesB; rw [decide_eq_false h]; rfl
theorem dutiesB_yes {l : List DutyD} (h : l.length ≤ 12) (hF : FirstD l l.length) : dutiesB l = true := by
  unfold FirstD at hF
  rw [List.take_length] at hF
  unfold dutiesB
  rw [decide_eq_true h, hF]
  rfl
set_option maxHeartbeats 4000000 in
theorem specDutiesOk (v : Value) (l : List DutyD) (w : World) (h : SlDuty w v l) :
    Calls Try.prog 22 #[v] w fun e w' => e = .returned (.bool (dutiesB l)) ∧ Below w.heap.size w w' := by
  have HS := Lib.hid h
  have hl := h.1
  obtain ⟨A1, c1, rfl⟩ := h.at
  clear h
  obtain ⟨m, hm⟩ : ∃ m, l.length = m := ⟨_, rfl⟩
  have HM := Lib.hid hm
  rw [hm] at hl ⊢
  clear hm
  by_cases h12 : 12 < m
  · have g12 : decide ((12 : Int) < (m : Int)) = true := decide_eq_true (by omega)
    have E := Lib.hid (dutiesB_long (l := l) (by rw [HM.out]; omega))
    go_enter Try.func22, Try.ntmps22
    go_wp2
    go_ret
    exact ⟨ret_bool E.out.symm, Below.refl _ _⟩
  have g12 : decide ((12 : Int) < (m : Int)) = false := decide_eq_false (by omega)
  go_enter Try.func22, Try.ntmps22
  go_wp2
  go_loopw [10] (fun i wr => ∃ k : Nat, k ≤ m ∧ i = .int .i64 (k : Int) ∧ Hid (FirstD l k) ∧ Hid (Below w.heap.size w wr)) (fun i _ => m - (intOf i).toNat)
  case atStart => exact ⟨0, Nat.zero_le _, rfl, Lib.hid rfl, Lib.hid (Below.refl _ _)⟩
  case round =>
    obtain ⟨k, hk, rfl, hF, hb⟩ := hrel
    have hzs := hb.out.size
    by_cases hlt : k < m
    rotate_left
    · obtain rfl : k = m := by omega
      have E := Lib.hid (dutiesB_yes (l := l) (by rw [HM.out]; omega) (by rw [HM.out]; exact hF.out))
      go_wp2
      go_ret
      exact ⟨ret_bool E.out.symm, hb.out⟩
    obtain ⟨x, hx⟩ : ∃ x, l[k]? = some x := ⟨_, List.getElem?_eq_getElem (by have := HM.out; omega)⟩
    have HX := Lib.hid hx
    rcases HS.out.2 with ⟨he, _⟩ | ⟨g, o, c', e, lpos, lcap, lc⟩
    · rw [he] at hx; simp at hx
    injection e with ea e2 e3
    subst ea
    clear e2 e3 lpos lcap
    obtain ⟨q0, q1, q2, q3⟩ := SlDuty.cells lc k x hx
    have y0 := cell_onV q0 hb.out
    have y1 := cell_onV q1 hb.out
    have y2 := cell_onV q2 hb.out
    have y3 := cell_onV q3 hb.out
    have B2 := Lib.hid (hb.out.alloc hzs (.cells #[.int .i64 x.fr, .int .i64 x.tt, .int .i64 x.a, .int .i64 x.b] 35))
    obtain ⟨t, ht⟩ : ∃ t, dutyB x = t := ⟨_, rfl⟩
    have HT := Lib.hid ht
    clear q0 q1 q2 q3 hx lc ht
    go_wp2_with fail
    refine (specDuty x _).mono ?_
    rw [HT.out]
    rintro e w3 ⟨rfl, hb3⟩
    have B3 := Lib.hid (B2.out.trans (hb3.mono B2.out.size))
    clear hb3 y0 y1 y2 y3
    cases t with
    | false =>
      have E := Lib.hid (dutiesB_no HX.out HT.out)
      go_wp2
      go_ret
      exact ⟨ret_bool E.out.symm, B3.out⟩
    | true =>
      have F2 := Lib.hid (hF.out.next HX.out HT.out)
      go_wp2
      go_roundw
      case rel => exact ⟨k + 1, by omega, by go_num, F2, B3⟩
      case measure => simp [intOf]; omega

def FirstV (l : List Int) (k : Nat) : Prop := (l.take k).all (fun n => inB n 0 240) = true
theorem FirstV.next {l : List Int} {k : Nat} {x : Int} (h : FirstV l k) (hx : l[k]? = some x) (hb : inB x 0 240 = true) : FirstV l (k + 1) := by
  unfold FirstV at h ⊢
  rw [take_snoc' l k x hx, List.all_append, h]
  simp [hb]
theorem tableB_no {p : Int} {l : List Int} {k : Nat} {x : Int} (hx : l[k]? = some x) (hb : inB x 0 240 = false) : tableB p l = false := by
  unfold tableB
  rw [Bool.and_eq_false_iff]
  right
  rw [List.all_eq_false]
  exact ⟨x, List.mem_of_getElem? hx, by rw [hb]; simp⟩
theorem tableB_off {p : Int} {l : List Int} (h : inB p 0 2880 = false ∨ l.length ≠ 64) : tableB p l = false := by
  unfold tableB
  rcases h with h | h
  · rw [h]; rfl
  · rw [decide_eq_false h, Bool.and_false]; rfl
theorem tableB_yes {p : Int} {l : List Int} (h1 : inB p 0 2880 = true) (h2 : l.length = 64) (hF : FirstV l l.length) : tableB p l = true := by
  unfold FirstV at hF
  rw [List.take_length] at hF
  unfold tableB
  rw [h1, decide_eq_true h2, hF]
  rfl
set_option maxHeartbeats 4000000 in
theorem specTable (p : Int) (v : Value) (l : List Int) (w : World) (h : SlInt w v l) :
    Calls Try.prog 53 #[.int .i64 p, v] w fun e w' => e = .returned (.bool (tableB p l)) ∧ Below w.heap.size w w' := by
  have HS := Lib.hid h
  have hl := h.1
  obtain ⟨A1, c1, rfl⟩ := h.at
  clear h
  obtain ⟨m, hm⟩ : ∃ m, l.length = m := ⟨_, rfl⟩
  have HM := Lib.hid hm
  rw [hm] at hl ⊢
  clear hm
  obtain ⟨b1, hb1⟩ : ∃ b, inB p 0 2880 = b := ⟨_, rfl⟩
  have H1 := Lib.hid hb1
  clear hb1
  go_enter Try.func53, Try.ntmps53
  go_wp2_with fail
  refine (l01In_any _ _ _ _).mono ?_
  rw [H1.out]
  rintro e w1 ⟨rfl, rfl⟩
  cases b1 with
  | false =>
    have E := Lib.hid (tableB_off (l := l) (.inl H1.out))
    go_wp2
    go_ret
    exact ⟨ret_bool E.out.symm, Below.refl _ _⟩
  | true =>
  by_cases h64 : m = 64
  rotate_left
  · have q : ((m : Int) == 64) = false := by simp; omega
    have E := Lib.hid (tableB_off (p := p) (l := l) (.inr (by rw [HM.out]; exact h64)))
    go_wp2
    go_ret
    exact ⟨ret_bool E.out.symm, Below.refl _ _⟩
  subst h64
  go_wp2
  go_loopw [17] (fun i wr => ∃ k : Nat, k ≤ 64 ∧ i = .int .i64 (k : Int) ∧ Hid (FirstV l k) ∧ Hid (Below w.heap.size w wr)) (fun i _ => 64 - (intOf i).toNat)
  case atStart => exact ⟨0, Nat.zero_le _, rfl, Lib.hid rfl, Lib.hid (Below.refl _ _)⟩
  case round =>
    obtain ⟨k, hk, rfl, hF, hb⟩ := hrel
    by_cases hlt : k < 64
    rotate_left
    · obtain rfl : k = 64 := by omega
      have E := Lib.hid (tableB_yes (p := p) (l := l) H1.out HM.out (by rw [HM.out]; exact hF.out))
      go_wp2
      go_ret
      exact ⟨ret_bool E.out.symm, hb.out⟩
    obtain ⟨x, hx⟩ : ∃ x, l[k]? = some x := ⟨_, List.getElem?_eq_getElem (by have := HM.out; omega)⟩
    have HX := Lib.hid hx
    rcases HS.out.2 with ⟨he, _⟩ | ⟨g, o, c', e, lpos, lcap, lc⟩
    · rw [he] at hx; simp at hx
    injection e with ea e2 e3
    subst ea
    clear e2 e3 lpos lcap
    have y0 := cell_onV (SlInt.cells lc k x hx) hb.out
    obtain ⟨t, ht⟩ : ∃ t, inB x 0 240 = t := ⟨_, rfl⟩
    have HT := Lib.hid ht
    clear hx lc ht
    go_wp2_with fail
    refine (l01In_any _ _ _ _).mono ?_
    rw [HT.out]
    rintro e w3 ⟨rfl, rfl⟩
    clear y0
    cases t with
    | false =>
      have E := Lib.hid (tableB_no (p := p) HX.out HT.out)
      go_wp2
      go_ret
      exact ⟨ret_bool E.out.symm, hb.out⟩
    | true =>
      have F2 := Lib.hid (hF.out.next HX.out HT.out)
      go_wp2
      go_roundw
      case rel => exact ⟨k + 1, by omega, by go_num, F2, hb⟩
      case measure => simp [intOf]; omega
end Go.Proofs.Ytfofbnpgjdagkaa
