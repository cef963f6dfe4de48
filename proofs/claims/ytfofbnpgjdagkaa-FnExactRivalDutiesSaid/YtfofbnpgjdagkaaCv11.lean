
/- What ExactRivalDuties and Dilworth and CoversLaw rests on, part 11: contracts and mathematics. -/
import Derived.Test.YtfofbnpgjdagkaaCv9
import Derived.Test.YtfofbnpgjdagkaaCv0
import Derived.Test.YtfofbnpgjdagkaaCv3
import Derived.Test.YtfofbnpgjdagkaaCv7
import Derived.Deep.AppendLies
import Derived.Deep.DeepCutAuto
namespace Go.Proofs.Ytfofbnpgjdagkaa
open Go.RowKit
set_option maxRecDepth 100000
theorem firstI_any {α : Type} (p : α → Bool) (l : List α) : decide (0 ≤ firstI p l) = l.any p := by
  unfold firstI
  cases h : l.findIdx? p with
  | none =>
    rw [List.findIdx?_eq_none_iff] at h
    rw [List.any_eq_false.2 (fun x hx => by rw [h x hx]; simp)]
    rfl
  | some i =>
    rw [List.findIdx?_eq_some_iff_getElem] at h
    obtain ⟨hi, hj, _⟩ := h
    rw [List.any_eq_true.2 ⟨_, List.getElem_mem hi, hj⟩]
    exact decide_eq_true (show (0 : Int) ≤ (i : Int) by omega)
theorem isIndex8 (i : Int) (w : World) : Calls Try.prog 48 #[.int .i64 i, .int .i64 8] w fun e w' => e = .returned (.bool (inB i 0 7)) ∧ w = w' := isIndex_any i 8 w
theorem dutyB_span (d : DutyD) : dutyB d = (spanB d.fr d.tt && inB d.a 0 7 && inB d.b 0 7) := by
  have : (inB d.fr 0 2880 && decide (d.fr < d.tt) && decide (d.tt ≤ 2880)) = spanB d.fr d.tt := by
    unfold spanB inB
    by_cases h1 : 0 ≤ d.fr
    · by_cases h2 : d.fr < d.tt
      · by_cases h3 : d.tt ≤ 2880
        · simp [h1, h2, h3]; omega
        · simp [h3]
      · simp [h2]
    · simp [h1]
  unfold dutyB
  rw [this]
set_option maxHeartbeats 4000000 in
theorem dutyOk_any (d : DutyD) (w : World) : Calls Try.prog 47 #[d.val] w fun e w' => e = .returned (.bool (dutyB d)) ∧ Below w.heap.size w w' := by
  have bl := Joins.below_alloc1 w (.cells #[.int .i64 d.fr, .int .i64 d.tt, .int .i64 d.a, .int .i64 d.b] 35)
  have K := Blk.new w #[.int .i64 d.fr, .int .i64 d.tt, .int .i64 d.a, .int .i64 d.b] 35
  obtain ⟨W1, hW1⟩ : ∃ W, W = w.alloc (.cells #[.int .i64 d.fr, .int .i64 d.tt, .int .i64 d.a, .int .i64 d.b] 35) := ⟨_, rfl⟩
  rw [← hW1] at bl K
  have HW := Lib.hid hW1
  have B := Lib.hid bl
  have z0 : W1.cell? ⟨w.heap.size, 0, none⟩ = some (.int .i64 d.fr) := K.cell 0
  have z1 : W1.cell? ⟨w.heap.size, 1, none⟩ = some (.int .i64 d.tt) := K.cell 1
  have z2 : W1.cell? ⟨w.heap.size, 2, none⟩ = some (.int .i64 d.a) := K.cell 2
  have z3 : W1.cell? ⟨w.heap.size, 3, none⟩ = some (.int .i64 d.b) := K.cell 3
  obtain ⟨b1, hb1⟩ : ∃ b, spanB d.fr d.tt = b := ⟨_, rfl⟩
  obtain ⟨b4, hb4⟩ : ∃ b, inB d.a 0 7 = b := ⟨_, rfl⟩
  obtain ⟨b5, hb5⟩ : ∃ b, inB d.b 0 7 = b := ⟨_, rfl⟩
  have EF := Lib.hid (show dutyB d = (b1 && b4 && b5) by rw [dutyB_span, hb1, hb4, hb5])
  have H1 := Lib.hid hb1
  have H4 := Lib.hid hb4
  have H5 := Lib.hid hb5
  clear bl K hW1 hb1 hb4 hb5
  go_enter Try.func47, Try.ntmps47
  go_wp2_with fail
  rw [← HW.out]
  refine (isSpan_any _ _ _).mono ?_
  rw [H1.out]
  rintro e w3 ⟨rfl, rfl⟩
  cases b1 with
  | false =>
    go_wp2
    go_ret
    exact ⟨ret_bool (by rw [EF.out]; rfl), B.out⟩
  | true =>
  go_wp2_with fail
  refine (isIndex8 _ _).mono ?_
  rw [H4.out]
  rintro e w3 ⟨rfl, rfl⟩
  cases b4 with
  | false =>
    go_wp2
    go_ret
    exact ⟨ret_bool (by rw [EF.out]; rfl), B.out⟩
  | true =>
  go_wp2_with fail
  refine (isIndex8 _ _).mono ?_
  rw [H5.out]
  rintro e w3 ⟨rfl, rfl⟩
  go_wp2
  go_ret
  exact ⟨ret_bool (by rw [EF.out]; simp), B.out⟩
def offD (d : DutyD) : Bool := !dutyB d
set_option maxHeartbeats 2000000 in
theorem duties1 (d : DutyD) (w : World) : Calls Try.prog 46 #[d.val] w fun e w' => e = .returned (.bool (offD d)) ∧ Below w.heap.size w w' := by
  have bl := Joins.below_alloc1 w (.cells #[.int .i64 d.fr, .int .i64 d.tt, .int .i64 d.a, .int .i64 d.b] 35)
  have K := Blk.new w #[.int .i64 d.fr, .int .i64 d.tt, .int .i64 d.a, .int .i64 d.b] 35
  obtain ⟨W1, hW1⟩ : ∃ W, W = w.alloc (.cells #[.int .i64 d.fr, .int .i64 d.tt, .int .i64 d.a, .int .i64 d.b] 35) := ⟨_, rfl⟩
  rw [← hW1] at bl K
  have HW := Lib.hid hW1
  have B := Lib.hid bl
  have z0 : W1.cell? ⟨w.heap.size, 0, none⟩ = some (.int .i64 d.fr) := K.cell 0
  have z1 : W1.cell? ⟨w.heap.size, 1, none⟩ = some (.int .i64 d.tt) := K.cell 1
  have z2 : W1.cell? ⟨w.heap.size, 2, none⟩ = some (.int .i64 d.a) := K.cell 2
  have z3 : W1.cell? ⟨w.heap.size, 3, none⟩ = some (.int .i64 d.b) := K.cell 3
  obtain ⟨b1, hb1⟩ : ∃ b, dutyB d = b := ⟨_, rfl⟩
  have EF := Lib.hid (show offD d = !b1 by unfold offD; rw [hb1])
  have H1 := Lib.hid hb1
  clear bl K hW1 hb1
  go_enter Try.func46, Try.ntmps46
  go_wp2_with fail
  rw [← HW.out]
  refine (dutyOk_any d _).mono ?_
  rw [H1.out]
  rintro e w3 ⟨rfl, hb3⟩
  have B3 := Lib.hid (B.out.trans (hb3.mono B.out.size))
  clear hb3
  go_wp2
  go_ret
  exact ⟨ret_bool (by rw [EF.out]), B3.out⟩
set_option maxHeartbeats 4000000 in
theorem dutyIndex (v : Value) (l : List DutyD) (w : World) (h : SlDuty w v l) :
    Calls Try.prog 63 #[v, .func (.func 46) #[] #[]] w fun e w' => e = .returned (.int .i64 (firstI offD l)) ∧ Below w.heap.size w w' := by
  have hl := h.1
  have HS := Lib.hid h
  obtain ⟨A1, c1, rfl⟩ := SlOf.form h
  clear h
  go_enter Try.func63, Try.ntmps63
  go_wp2
  go_loopw [8] (fun i wr => ∃ k : Nat, k ≤ l.length ∧ i = .int .i64 (k : Int) ∧ Hid (NoOne offD l k) ∧ Hid (Below w.heap.size w wr)) (fun i _ => l.length - (intOf i).toNat)
  case atStart => exact ⟨0, Nat.zero_le _, rfl, Lib.hid (NoOne.zero _ _), Lib.hid (Below.refl _ _)⟩
  case round =>
    obtain ⟨k, hk, rfl, hN, hb⟩ := hrel
    by_cases hlt : k < l.length
    rotate_left
    · obtain rfl : k = l.length := by omega
      have E := Lib.hid (firstI_none hN.out)
      go_wp2
      go_ret
      exact ⟨ret_int E.out.symm, hb.out⟩
    obtain ⟨n, hn⟩ : ∃ n, l[k]? = some n := ⟨_, List.getElem?_eq_getElem hlt⟩
    rcases HS.out.2 with ⟨he, _⟩ | ⟨g, o, c, e, hpos, hcap, hc⟩
    · rw [he] at hlt; simp at hlt
    injection e with hA' _ hcp
    subst hA' hcp
    obtain ⟨q0, q1, q2, q3⟩ := SlDuty.cells hc k n hn
    have y0 := cell_onV q0 hb.out
    have y1 := cell_onV q1 hb.out
    have y2 := cell_onV q2 hb.out
    have y3 := cell_onV q3 hb.out
    clear q0 q1 q2 q3
    have HN := Lib.hid hn
    obtain ⟨t, ht⟩ : ∃ t, offD n = t := ⟨_, rfl⟩
    have HT := Lib.hid ht
    clear hn ht hc
    go_wp2_with fail
    refine (duties1 n _).mono ?_
    rw [show offD n = t from HT.out]
    rintro e wz ⟨rfl, hbz⟩
    have B2 := Lib.hid (hb.out.trans (hbz.mono hb.out.size))
    clear hbz
    clear y0 y1 y2 y3
    cases t with
    | true =>
      have E := Lib.hid (firstI_at hN.out HN.out HT.out)
      go_wp2
      go_ret
      exact ⟨ret_int E.out.symm, B2.out⟩
    | false =>
      have N2 := Lib.hid (hN.out.next HN.out HT.out)
      go_wp2
      go_roundw
      case rel => exact ⟨k + 1, by omega, by go_num, N2, B2⟩
      case measure => simp [intOf]; omega
set_option maxHeartbeats 2000000 in
theorem dutyAny (v : Value) (l : List DutyD) (w : World) (h : SlDuty w v l) :
    Calls Try.prog 45 #[v, .func (.func 46) #[] #[]] w fun e w' => e = .returned (.bool (l.any offD)) ∧ Below w.heap.size w w' := by
  have C := Lib.hid (dutyIndex v l w h)
  obtain ⟨i, hi⟩ : ∃ i, firstI offD l = i := ⟨_, rfl⟩
  have HI := Lib.hid hi
  have E := Lib.hid (show l.any offD = decide (0 ≤ i) by rw [← firstI_any, hi])
  obtain ⟨A1, c1, rfl⟩ := SlOf.form h
  clear h hi
  go_enter Try.func45, Try.ntmps45
  go_wp2_with fail
  refine C.out.mono ?_
  rw [HI.out]
  rintro e w1 ⟨rfl, hb1⟩
  have B1 := Lib.hid hb1
  clear hb1
  go_wp2
  go_ret
  exact ⟨ret_bool (by rw [E.out]), B1.out⟩
theorem dutiesB_any (l : List DutyD) : dutiesB l = (decide (l.length ≤ 12) && !l.any offD) := by
  unfold dutiesB
  congr 1
  rw [List.not_any_eq_all_not]
  congr 1
  funext d
  unfold offD
  simp
set_option maxHeartbeats 2000000 in
theorem implDutiesOk (v : Value) (l : List DutyD) (w : World) (h : SlDuty w v l) :
    Calls Try.prog 15 #[v] w fun e w' => e = .returned (.bool (dutiesB l)) ∧ Below w.heap.size w w' := by
  have C := Lib.hid (dutyAny v l w h)
  have hl := h.1
  obtain ⟨q, hq⟩ : ∃ q, l.any offD = q := ⟨_, rfl⟩
  have HQ := Lib.hid hq
  obtain ⟨A1, c1, rfl⟩ := SlOf.form h
  clear h hq
  by_cases h12 : l.length ≤ 12
  · have E := Lib.hid (show dutiesB l = !q by rw [dutiesB_any, decide_eq_true h12, HQ.out]; rfl)
    go_enter Try.func15, Try.ntmps15
    go_wp2_with fail
    refine C.out.mono ?_
    rw [HQ.out]
    rintro e w1 ⟨rfl, hb1⟩
    have B1 := Lib.hid hb1
    clear hb1
    go_wp2
    go_ret
    exact ⟨ret_bool E.out.symm, B1.out⟩
  · have E := Lib.hid (dutiesB_long h12)
    have g12 : decide ((l.length : Int) ≤ 12) = false := decide_eq_false (by omega)
    go_enter Try.func15, Try.ntmps15
    go_wp2
    go_ret
    exact ⟨ret_bool E.out.symm, Below.refl _ _⟩
/-- The move is not right. -/
def offM (n : Int) : Bool := !inB n 0 240
set_option maxHeartbeats 2000000 in
theorem movesOk1 (n : Int) (w : World) : Calls Try.prog 70 #[.int .i64 n] w fun e w' => e = .returned (.bool (offM n)) ∧ w' = w := by
  have E := Lib.hid (show offM n = decide (n < 0 ∨ 240 < n) by
    unfold offM inB
    rw [← decide_not, decide_eq_decide]
    omega)
  go_enter Try.func70, Try.ntmps70
  go_wp2
  all_goals (go_ret; exact ⟨ret_bool (by first | (rw [E.out, decide_eq_decide]; omega) | (rw [E.out]; exact (decide_eq_false (by omega)).symm) | (rw [E.out]; exact (decide_eq_true (by omega)).symm) | (rw [E.out]; simp)), rfl⟩)
set_option maxHeartbeats 4000000 in
theorem movesIndex (v : Value) (l : List Int) (w : World) (h : SlInt w v l) :
    Calls Try.prog 71 #[v, .func (.func 70) #[] #[]] w fun e w' => e = .returned (.int .i64 (firstI offM l)) ∧ Below w.heap.size w w' := by
  have hl := h.1
  have HS := Lib.hid h
  obtain ⟨A1, c1, rfl⟩ := SlOf.form h
  clear h
  go_enter Try.func71, Try.ntmps71
  go_wp2
  go_loopw [8] (fun i wr => ∃ k : Nat, k ≤ l.length ∧ i = .int .i64 (k : Int) ∧ Hid (NoOne offM l k) ∧ Hid (Below w.heap.size w wr)) (fun i _ => l.length - (intOf i).toNat)
  case atStart => exact ⟨0, Nat.zero_le _, rfl, Lib.hid (NoOne.zero _ _), Lib.hid (Below.refl _ _)⟩
  case round =>
    obtain ⟨k, hk, rfl, hN, hb⟩ := hrel
    by_cases hlt : k < l.length
    rotate_left
    · obtain rfl : k = l.length := by omega
      have E := Lib.hid (firstI_none hN.out)
      go_wp2
      go_ret
      exact ⟨ret_int E.out.symm, hb.out⟩
    obtain ⟨n, hn⟩ : ∃ n, l[k]? = some n := ⟨_, List.getElem?_eq_getElem hlt⟩
    rcases HS.out.2 with ⟨he, _⟩ | ⟨g, o, c, e, hpos, hcap, hc⟩
    · rw [he] at hlt; simp at hlt
    injection e with hA' _ hcp
    subst hA' hcp
    have y0 := cell_onV (SlInt.cells hc k n hn) hb.out
    have HN := Lib.hid hn
    obtain ⟨t, ht⟩ : ∃ t, offM n = t := ⟨_, rfl⟩
    have HT := Lib.hid ht
    clear hn ht hc
    go_wp2_with fail
    refine (movesOk1 n _).mono ?_
    rw [show offM n = t from HT.out]
    rintro e wz ⟨rfl, rfl⟩
    clear y0
    cases t with
    | true =>
      have E := Lib.hid (firstI_at hN.out HN.out HT.out)
      go_wp2
      go_ret
      exact ⟨ret_int E.out.symm, hb.out⟩
    | false =>
      have N2 := Lib.hid (hN.out.next HN.out HT.out)
      go_wp2
      go_roundw
      case rel => exact ⟨k + 1, by omega, by go_num, N2, hb⟩
      case measure => simp [intOf]; omega
set_option maxHeartbeats 2000000 in
theorem movesAny (v : Value) (l : List Int) (w : World) (h : SlInt w v l) :
    Calls Try.prog 67 #[v, .func (.func 70) #[] #[]] w fun e w' => e = .returned (.bool (l.any offM)) ∧ Below w.heap.size w w' := by
  have C := Lib.hid (movesIndex v l w h)
  obtain ⟨i, hi⟩ : ∃ i, firstI offM l = i := ⟨_, rfl⟩
  have HI := Lib.hid hi
  have E := Lib.hid (show l.any offM = decide (0 ≤ i) by rw [← firstI_any, hi])
  obtain ⟨A1, c1, rfl⟩ := SlOf.form h
  clear h hi
  go_enter Try.func67, Try.ntmps67
  go_wp2_with fail
  refine C.out.mono ?_
  rw [HI.out]
  rintro e w1 ⟨rfl, hb1⟩
  have B1 := Lib.hid hb1
  clear hb1
  go_wp2
  go_ret
  exact ⟨ret_bool (by rw [E.out]), B1.out⟩
theorem tableB_any (p : Int) (mv : List Int) : tableB p mv = (inB p 0 2880 && (decide (mv.length = 64) && !mv.any offM)) := by
  unfold tableB
  rw [Bool.and_assoc]
  congr 2
  rw [List.not_any_eq_all_not]
  congr 1
  funext d
  unfold offM
  simp
set_option maxHeartbeats 2000000 in
theorem movesOk_any (v : Value) (l : List Int) (w : World) (h : SlInt w v l) :
    Calls Try.prog 66 #[v] w fun e w' => e = .returned (.bool (decide (l.length = 64) && !l.any offM)) ∧ Below w.heap.size w w' := by
  have C := Lib.hid (movesAny v l w h)
  have hl := h.1
  obtain ⟨q, hq⟩ : ∃ q, l.any offM = q := ⟨_, rfl⟩
  have HQ := Lib.hid hq
  obtain ⟨A1, c1, rfl⟩ := SlOf.form h
  clear h hq
  by_cases h64 : l.length = 64
  · have E := Lib.hid (show (decide (l.length = 64) && !l.any offM) = !q by rw [decide_eq_true h64, HQ.out]; rfl)
    have g64 : ((l.length : Int) == 64) = true := by rw [h64]; rfl
    have H64 := Lib.hid h64
    clear h64
    go_enter Try.func66, Try.ntmps66
    go_wp2_with fail
    refine C.out.mono ?_
    rw [HQ.out]
    rintro e w1 ⟨rfl, hb1⟩
    have B1 := Lib.hid hb1
    clear hb1
    go_wp2
    go_ret
    exact ⟨ret_bool E.out.symm, B1.out⟩
  · have E := Lib.hid (show (decide (l.length = 64) && !l.any offM) = false by rw [decide_eq_false h64]; rfl)
    have g64 : ((l.length : Int) == 64) = false := by simp; omega
    clear h64
    go_enter Try.func66, Try.ntmps66
    go_wp2
    go_ret
    exact ⟨ret_bool E.out.symm, Below.refl _ _⟩
set_option maxHeartbeats 2000000 in
theorem canChange_any (p : Int) (v : Value) (mv : List Int) (w : World) (h : SlInt w v mv) :
    Calls Try.prog 50 #[.int .i64 p, v] w fun e w' => e = .returned (.bool (tableB p mv)) ∧ Below w.heap.size w w' := by
  have C := Lib.hid (movesOk_any v mv w h)
  obtain ⟨q, hq⟩ : ∃ q, (decide (mv.length = 64) && !mv.any offM) = q := ⟨_, rfl⟩
  obtain ⟨b1, hb1⟩ : ∃ b, inB p 0 2880 = b := ⟨_, rfl⟩
  have HQ := Lib.hid hq
  have H1 := Lib.hid hb1
  have E := Lib.hid (show tableB p mv = (b1 && q) by rw [tableB_any, hb1, hq])
  obtain ⟨A1, c1, rfl⟩ := SlOf.form h
  clear h hq hb1
  go_enter Try.func50, Try.ntmps50
  go_wp2_with fail
  refine (isMinute_any _ _).mono ?_
  rw [H1.out]
  rintro e w3 ⟨rfl, rfl⟩
  cases b1 with
  | false =>
    go_wp2
    go_ret
    exact ⟨ret_bool (by rw [E.out]; rfl), Below.refl _ _⟩
  | true =>
  go_wp2_with fail
  refine C.out.mono ?_
  rw [HQ.out]
  rintro e w1 ⟨rfl, hb1⟩
  have B1 := Lib.hid hb1
  clear hb1
  go_wp2
  go_ret
  exact ⟨ret_bool (by rw [E.out]; simp), B1.out⟩
set_option maxHeartbeats 2000000 in
theorem canCover_any (p : Int) (ymv : Value) (mv : List Int) (yl : Value) (l : List DutyD) (w : World) (rmv : SlInt w ymv mv) (rl : SlDuty w yl l) :
    Calls Try.prog 41 #[.int .i64 p, ymv, yl] w fun e w' => e = .returned (.bool (tableB p mv && dutiesB l)) ∧ Below w.heap.size w w' := by
  obtain ⟨q, hq⟩ : ∃ q, dutiesB l = q := ⟨_, rfl⟩
  obtain ⟨b1, hb1⟩ : ∃ b, tableB p mv = b := ⟨_, rfl⟩
  have HQ := Lib.hid hq
  have H1 := Lib.hid hb1
  have Rmv := Lib.hid rmv
  have Rl := Lib.hid rl
  obtain ⟨A1, c1, rfl⟩ := SlOf.form rmv
  obtain ⟨A2, c2, rfl⟩ := SlOf.form rl
  rw [hq, hb1]
  clear rmv rl hq hb1
  go_enter Try.func41, Try.ntmps41
  go_wp2_with fail
  refine (canChange_any p _ mv _ Rmv.out).mono ?_
  rw [H1.out]
  rintro e w3 ⟨rfl, hb3⟩
  have B3 := Lib.hid hb3
  clear hb3
  cases b1 with
  | false =>
    go_wp2
    go_ret
    exact ⟨rfl, B3.out⟩
  | true =>
  go_wp2_with fail
  refine (implDutiesOk _ l _ (Rl.out.below B3.out)).mono ?_
  rw [HQ.out]
  rintro e w1 ⟨rfl, hb1⟩
  have B1 := Lib.hid (B3.out.trans (hb1.mono B3.out.size))
  clear hb1
  go_wp2
  go_ret
  exact ⟨ret_bool (by simp), B1.out⟩
end Go.Proofs.Ytfofbnpgjdagkaa
namespace Go.Proofs.Ytfofbnpgjdagkaa
open Go.RowKit
set_option maxRecDepth 100000
def dutyGood (d : DutyD) : Prop := (0 ≤ d.fr ∧ d.fr < 300) ∧ (d.fr + 10 ≤ d.tt ∧ d.tt < d.fr + 90) ∧ (0 ≤ d.a ∧ d.a < 3) ∧ 0 ≤ d.b ∧ d.b < 3
theorem dutyGood_ok {d : DutyD} (h : dutyGood d) : dutyB d = true := by
  obtain ⟨h1, h2, h3, h4⟩ := h
  unfold dutyB
  rw [inB_mk (by omega) (by omega), inB_mk (by omega) (by omega), inB_mk (by omega) (by omega), decide_eq_true (show d.fr < d.tt by omega), decide_eq_true (show d.tt ≤ 2880 by omega)]
  rfl
theorem duties_good {l : List DutyD} (hl : l.length ≤ 12) (h : ∀ d ∈ l, dutyGood d) : dutiesB l = true := by
  unfold dutiesB
  rw [decide_eq_true hl, List.all_eq_true.2 (fun d hd => dutyGood_ok (h d hd))]
  rfl
/-- What l13Draw leaves. -/
def DrawsDuties (most : Int) (p : Nat) (w : World) (e : Ending) (w' : World) : Prop := ∃ (v : Value) (l : List DutyD), e = .returned v ∧ (l.length : Int) ≤ most ∧ (∀ d ∈ l, dutyGood d) ∧ DrawsL 4 DutyD.cells 35 w p v l w'
set_option maxHeartbeats 4000000 in
theorem l13Draw_any (p : Nat) (most : Int) (h0 : 0 ≤ most) (h12 : most ≤ 12) (w : World) (hcur : Cursor w p) : Calls Try.prog 38 #[.pointer (some ⟨p, 0, none⟩), .int .i64 most] w (DrawsDuties most p w) := by
  obtain ⟨i0, hi, hz0, hz1, hz2⟩ := info_parts info_duty
  have HI := Lib.hid (And.intro hi (And.intro hz0 (And.intro hz1 hz2)))
  have ST0 := Lib.hid (DrawsL.made (k := 4) (cs := DutyD.cells) (t := 35) dutyLen hcur)
  have hp := hcur.lt
  have wm : IntKind.i64.wrap (most + 1) = most + 1 := by rw [IntKind.wrap_i64]; omega
  clear hi hz0 hz1 hz2 hcur
  go_enter Try.func38, Try.ntmps38
  go_wp2_with fail
  refine (l01Below_any p (most + 1) _ (by omega) (by omega) ST0.out.cur).mono ?_
  rintro e w1 ⟨n, rfl, n0, n1, hc, hg⟩
  have ST1 := Lib.hid (ST0.out.step hg hc)
  clear hc hg ST0 wm
  go_wp2
  go_loopw [5, 6] (fun q i wr => ∃ (r : Nat) (l : List DutyD), ((l.length + r : Nat) : Int) ≤ most ∧ i = .int .i64 (r : Int) ∧ Hid (∀ s ∈ l, dutyGood s) ∧ Hid (DrawsL 4 DutyD.cells 35 w p q l wr)) (fun _ i _ => (intOf i).toNat)
  case atStart => exact ⟨n.toNat, [], by simp; omega, by congr 1; omega, Lib.hid (fun s hs => by simp at hs), ST1⟩
  case round =>
    obtain ⟨r, l, hlr, rfl, hG, hD⟩ := hrel
    obtain ⟨A, c, rfl⟩ := hD.out.form
    by_cases hr : 0 < r
    rotate_left
    · obtain rfl : r = 0 := by omega
      have HL := Lib.hid hlr
      clear hlr
      go_wp2
      go_ret
      exact ⟨_, l, rfl, by have := HL.out; omega, hG.out, hD.out⟩
    have hri : (0 : Int) < (r : Int) := by omega
    have HLR := Lib.hid hlr
    have hr12 : r ≤ 12 := by omega
    have HL12 := Lib.hid (show l.length + 1 ≤ 12 by omega)
    obtain ⟨m, hm⟩ : ∃ m, l.length = m := ⟨_, rfl⟩
    have HM := Lib.hid hm
    rw [hm] at hD HL12 ⊢
    clear hm hlr
    go_wp2_with fail
    refine (l01Below_any p 300 _ (by omega) (by omega) hD.out.cur).mono ?_
    rintro e w2 ⟨a, rfl, a0, a1, hc, hg⟩
    have D2 := Lib.hid (hD.out.step hg hc)
    have wa : IntKind.i64.wrap (a + 10) = a + 10 := by rw [IntKind.wrap_i64]; omega
    clear hc hg
    go_wp2_with fail
    refine (l01Below_any p 80 _ (by omega) (by omega) D2.out.cur).mono ?_
    rintro e w3 ⟨x, rfl, x0, x1, hc, hg⟩
    have D3 := Lib.hid (D2.out.step hg hc)
    have wx : IntKind.i64.wrap (a + 10 + x) = a + 10 + x := by rw [IntKind.wrap_i64]; omega
    clear hc hg
    go_wp2_with fail
    refine (l01Below_any p 3 _ (by omega) (by omega) D3.out.cur).mono ?_
    rintro e w4 ⟨y, rfl, y0, y1, hc, hg⟩
    have D4 := Lib.hid (D3.out.step hg hc)
    clear hc hg
    go_wp2_with fail
    refine (l01Below_any p 3 _ (by omega) (by omega) D4.out.cur).mono ?_
    rintro e w5 ⟨z, rfl, z0, z1, hc, hg⟩
    have D5 := Lib.hid (D4.out.step hg hc)
    obtain ⟨d, hd⟩ : ∃ d : DutyD, d = ⟨a, a + 10 + x, y, z⟩ := ⟨_, rfl⟩
    have HGD := Lib.hid (show dutyGood d by rw [hd]; exact ⟨⟨by show 0 ≤ a; omega, by show a < 300; omega⟩, ⟨by show a + 10 ≤ a + 10 + x; omega, by show a + 10 + x < a + 90; omega⟩, ⟨by show 0 ≤ y; omega, by show y < 3; omega⟩, by show 0 ≤ z; omega, by show z < 3; omega⟩)
    have hdc : d.cells = [.int .i64 a, .int .i64 (a + 10 + x), .int .i64 y, .int .i64 z] := by rw [hd]
    have HDC := Lib.hid hdc
    have AL := Lib.hid (D5.out.below (Joins.below_alloc1 w5 (.cells #[.int .i64 a, .int .i64 (a + 10 + x), .int .i64 y, .int .i64 z] 35)))
    have HN := Lib.hid (World.news_of_block (heap_alloc_new w5 (.cells #[.int .i64 a, .int .i64 (a + 10 + x), .int .i64 y, .int .i64 z] 35)))
    have hsz : w.heap.size ≤ w5.heap.size + 1 := by have := D5.out.size; omega
    have hi := HI.out
    have OWN := Lib.hid (show World.ownsRow _ w.heap.size 35 4 (.slice A m c) m (l.flatMap DutyD.cells) from by have h := AL.out.own; unfold OwnOf at h; rw [HM.out] at h; exact h)
    clear hc hg hd hdc D2 D3 D4 D5
    go_wp2_with (at_builtin; refine wpList_append_lies _ rfl _ _ _ rfl w.heap.size 35 i0 _ 4 32 Try.underlying24 hi.1 hi.2.1 hi.2.2.1 hi.2.2.2 rfl (by omega) (.slice A m c) m (l.flatMap DutyD.cells) rfl OWN.out ⟨w5.heap.size, 0, none⟩ 1 1 [.int .i64 a, .int .i64 (a + 10 + x), .int .i64 y, .int .i64 z] (by first | rfl | simp) rfl HN.out (by simp [Value.oneCell']) (by omega) (by unfold maxLen; have := HL12.out; omega) (by have := HL12.out; omega) (by first | omega | (simp; omega)) _ rfl ?_; intro g4 cap4 w6 hown4 hgrow4 hor4 hlt4; have GX := Lib.hid (AL.out.app (d := d) (g4 := g4) (cap4 := cap4) (by rw [HM.out, HDC.out]; exact hown4) hgrow4); clear hown4 hgrow4 hor4 hlt4)
    rw [HM.out] at GX
    go_roundw
    case rel =>
      refine ⟨r - 1, l ++ [d], by rw [List.length_append]; have := HLR.out; simp; omega, by go_num, Lib.hid (fun s hs => ?_), GX⟩
      rcases List.mem_append.1 hs with hs | hs
      · exact hG.out s hs
      · simp at hs
        subst hs
        exact HGD.out
    case measure => simp [intOf]; omega
/-- What MakeDuties leaves. -/
def MadeDuties (w : World) (e : Ending) (w' : World) : Prop := ∃ (pause : Int) (vm : Value) (mv : List Int) (vl : Value) (l : List DutyD), e = .returned (.tuple #[.int .i64 pause, vm, vl]) ∧ (0 ≤ pause ∧ pause < 40) ∧ mv.length = 64 ∧ (∀ x ∈ mv, 0 ≤ x ∧ x ≤ 20) ∧ l.length ≤ 6 ∧ (∀ d ∈ l, dutyGood d) ∧ OwnInt w' w.heap.size vm mv ∧ OwnDuty w' w.heap.size vl l ∧ Below w.heap.size w w'
set_option maxHeartbeats 4000000 in
theorem makeDuties_any (A : Option Addr) (n c : Nat) (w : World) (hcode : CodeAt w A n) : Calls Try.prog 12 #[.slice A n c] w (MadeDuties w) := by
  have CN := Lib.hid (l01New_any A n c w hcode)
  clear hcode
  go_enter Try.func12, Try.ntmps12
  go_wp2_with fail
  refine CN.out.mono ?_
  rintro e w1 ⟨p, rfl, hp, hcur, hb1⟩
  have B1 := Lib.hid hb1
  have C1 := Lib.hid hcur
  clear hb1 hcur CN
  go_wp2_with fail
  refine (l13Draw_any p 6 (by omega) (by omega) w1 C1.out).mono ?_
  rintro e w2 ⟨vl, l, rfl, hl6, hgd, hD2⟩
  have HGD := Lib.hid hgd
  have B2 := Lib.hid (B1.out.grown hD2.gr B1.out.size (fun j e => by have := Option.some.inj e; omega))
  have OL2 := Lib.hid (show OwnDuty w2 w1.heap.size vl l from hD2.own)
  have C2 := Lib.hid hD2.cur
  have hp1 := hD2.hp
  have hz12 := hD2.gr.size
  obtain ⟨Al, cl, rfl⟩ := hD2.form
  obtain ⟨nl, hnl⟩ : ∃ n, l.length = n := ⟨_, rfl⟩
  have HNL := Lib.hid hnl
  rw [hnl] at OL2 hl6 ⊢
  clear hgd hD2 hnl
  go_wp2_with fail
  refine (l13Moves_any p w2 C2.out).mono ?_
  rintro e w3 ⟨gm, cm, mv, rfl, hM1, hM2, hM3, hM4, hM5, hM6⟩
  have B3 := Lib.hid (B2.out.grown hM2 B2.out.size (fun j e => by have := Option.some.inj e; omega))
  have OL3 := Lib.hid (show OwnDuty w3 w1.heap.size (.slice Al nl cl) l from own_kept OL2.out hM2 (fun b hv e => by have := (own_ge OL2.out hv).1; have := Option.some.inj e; omega))
  have OM3 := Lib.hid hM3
  have C3 := Lib.hid hM1
  have HM4 := Lib.hid hM4
  have HM5 := Lib.hid hM5
  clear hM1 hM2 hM3 hM4 hM5 hM6
  go_wp2_with fail
  refine (l01Below_any p 40 _ (by omega) (by omega) C3.out).mono ?_
  rintro e w4 ⟨z, rfl, z0, z1, hc, hg⟩
  have hz1 := B1.out.size
  have hz2 := B2.out.size
  have B4 := Lib.hid (B3.out.grown hg B3.out.size (fun j e => by have := Option.some.inj e; omega))
  have OL4 := Lib.hid (show OwnDuty w4 w.heap.size (.slice Al nl cl) l from own_lo (own_kept OL3.out hg (fun b hv e => by have := (own_ge OL3.out hv).1; have := Option.some.inj e; omega)) hz1)
  have OM4 := Lib.hid (show OwnInt w4 w.heap.size (.slice (some ⟨gm, 0, none⟩) 64 cm) mv from own_lo (own_kept OM3.out hg (fun b hv e => by have := (own_ge OM3.out hv).1; have := Option.some.inj e; omega)) hz2)
  clear hc hg
  go_wp2
  refine bodyPost_ret (v := .tuple #[.int .i64 z, .slice (some ⟨gm, 0, none⟩) 64 cm, .slice Al nl cl]) (by simp [results, Try.results12, go_sem]) rfl ⟨z, _, mv, _, l, rfl, ⟨z0, z1⟩, HM4.out, HM5.out, by rw [HNL.out]; omega, HGD.out, OM4.out, OL4.out, B4.out⟩
end Go.Proofs.Ytfofbnpgjdagkaa
