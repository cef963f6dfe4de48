
/- Lock plans, the model's side: NextTurn: contract. -/
import Derived.Test.YtlddampjbmklkaaLockPlanMath
import Derived.Test.YtlddampjbmklkaaPackSpec0
namespace Go.Proofs.Ytlddampjbmklkaa
open Go.RowKit
set_option maxRecDepth 100000

theorem nextI_none {k : ChamberD} {rows : List LockR} {up : Bool} {ready : Int} (h1 : chamB k = true) (h2 : inB ready 0 2880 = true) (h3 : rows.length = 0) : nextI k (rows.map LockR.d) up ready = ready := by
  rw [nextI_ok h1 h2, List.eq_nil_of_length_eq_zero h3]; rfl
theorem nextI_last {k : ChamberD} {rows : List LockR} {up : Bool} {ready : Int} {x : LockR} (h1 : chamB k = true) (h2 : inB ready 0 2880 = true) (h3 : rows[rows.length - 1]? = some x) :
    nextI k (rows.map LockR.d) up ready = if inB x.start 0 2880 = true then (if x.up = up then max ready (x.start + 2 * k.minutes) else max ready (x.start + k.minutes)) else -1 := by
  have e : (rows.map LockR.d).getLast? = some x.d := by rw [List.getLast?_eq_getElem?, List.length_map, List.getElem?_map, h3]; rfl
  rw [nextI_ok h1 h2, e]
  rfl
set_option maxHeartbeats 8000000 in
theorem specNextTurn (k : ChamberD) (v : Value) (rows : List LockR) (up : Bool) (ready : Int) (w : World) (h : RdLocks w v rows) :
    Calls Try.prog 32 #[k.val, v, .bool up, .int .i64 ready] w fun e w' => e = .returned (.int .i64 (nextI k (rows.map LockR.d) up ready)) ∧ Below w.heap.size w w' := by
  have RD := Lib.hid h
  have hl := h.1.1
  obtain ⟨A, c, rfl⟩ := h.1.form
  clear h
  obtain ⟨W0, hW0⟩ : ∃ W0, W0 = (w.alloc (.cells #[.int .i64 k.length, .int .i64 k.lanes, .int .i64 k.minutes] 24)) := ⟨_, rfl⟩
  have B := Lib.hid (Joins.below_alloc1 w (.cells #[.int .i64 k.length, .int .i64 k.lanes, .int .i64 k.minutes] 24))
  have Kk := Lib.hid (Blk.new w #[.int .i64 k.length, .int .i64 k.lanes, .int .i64 k.minutes] 24)
  have HW0 := Lib.hid hW0
  rw [← hW0] at B Kk
  clear hW0
  obtain ⟨b1, hb1⟩ : ∃ b, chamB k = b := ⟨_, rfl⟩
  have Hb1 := Lib.hid hb1
  obtain ⟨b2, hb2⟩ : ∃ b, inB ready 0 2880 = b := ⟨_, rfl⟩
  have Hb2 := Lib.hid hb2
  clear hb1 hb2
  go_enter Try.func32, Try.ntmps32
  have vk0 : W0.cell? ⟨w.heap.size, 0, none⟩ = some (.int .i64 k.length) := Kk.out.cell 0
  have vk1 : W0.cell? ⟨w.heap.size, 1, none⟩ = some (.int .i64 k.lanes) := Kk.out.cell 1
  have vk2 : W0.cell? ⟨w.heap.size, 2, none⟩ = some (.int .i64 k.minutes) := Kk.out.cell 2
  go_wp2_with fail
  rw [← HW0.out]
  clear vk0 vk1 vk2
  refine (specChamberOk k _).mono ?_
  rw [Hb1.out]
  rintro e w1 ⟨rfl, hb1⟩
  have B1 := Lib.hid (B.out.trans (hb1.mono B.out.size))
  have Kk_1 := Lib.hid (Kk.out.below hb1)
  clear hb1
  cases b1 with
  | false =>
    have E := Lib.hid (nextI_bad (l := rows.map LockR.d) (up := up) (ready := ready) (show ¬ (chamB k = true ∧ inB ready 0 2880 = true) by rw [Hb1.out]; simp))
    go_wp2
    go_ret
    exact ⟨ret_int E.out.symm, B1.out⟩
  | true =>
  go_wp2_with fail
  refine (l01In_any _ _ _ _).mono ?_
  rw [Hb2.out]
  rintro e w2 ⟨rfl, rfl⟩
  cases b2 with
  | false =>
    have E := Lib.hid (nextI_bad (k := k) (l := rows.map LockR.d) (up := up) (show ¬ (chamB k = true ∧ inB ready 0 2880 = true) by rw [Hb2.out]; simp))
    go_wp2
    go_ret
    exact ⟨ret_int E.out.symm, B1.out⟩
  | true =>
  by_cases h0 : rows.length = 0
  · have E := Lib.hid (nextI_none (up := up) Hb1.out Hb2.out h0)
    have d0 : decide ((rows.length : Int) = 0) = true := decide_eq_true (by omega)
    go_wp2
    go_ret
    exact ⟨ret_int E.out.symm, B1.out⟩
  obtain ⟨x, hx⟩ : ∃ x, rows[rows.length - 1]? = some x := ⟨_, List.getElem?_eq_getElem (by omega)⟩
  have E0 := Lib.hid (nextI_last (up := up) Hb1.out Hb2.out hx)
  obtain ⟨kl0, kl1, ka0, ka1, km0, km1⟩ := chamB_true Hb1.out
  obtain ⟨hs, hin⟩ := RD.out
  obtain ⟨Ax, cx, hxv⟩ := (hin x (List.mem_of_getElem? hx)).at
  rcases hs.2 with ⟨he, _⟩ | ⟨g, o, c', e, lpos, lcap, lc⟩
  · rw [he] at h0; exact absurd rfl h0
  injection e with ea e2 e3
  subst ea e3
  obtain ⟨p0, p1, p2⟩ := LockR.at lc _ x hx
  rw [hxv] at p2
  obtain ⟨n, hn⟩ : ∃ n, rows.length = n + 1 := ⟨rows.length - 1, by omega⟩
  rw [show rows.length - 1 = n by omega] at p0 p1 p2
  rw [hn] at hl
  have y0 := cell_onV p0 B1.out
  have y1 := cell_onV p1 B1.out
  have y2 := cell_onV p2 B1.out
  have vk2 : w1.cell? ⟨w.heap.size, 2, none⟩ = some (.int .i64 k.minutes) := Kk_1.out.cell 2
  obtain ⟨b3, hb3⟩ : ∃ b, inB x.start 0 2880 = b := ⟨_, rfl⟩
  have Hb3 := Lib.hid hb3
  obtain ⟨b4, hb4⟩ : ∃ b, (x.up == up) = b := ⟨_, rfl⟩
  have Hb4 := Lib.hid hb4
  clear hs hin p0 p1 p2 lc lcap lpos e2 hx hxv hb3 hb4
  try rw [hn]
  have d0 : decide (((n + 1 : Nat) : Int) = 0) = false := decide_eq_false (by omega)
  have wsub : IntKind.i64.wrap (((n + 1 : Nat) : Int) - 1) = (n : Int) := by rw [IntKind.wrap_i64]; omega
  go_upto_region 6 with fail
  have BL := Joins.below_alloc1 w1 (.cells #[.int .i64 x.start, .bool x.up, .slice Ax x.ships.length cx] 38)
  have KN := Blk.new w1 #[.int .i64 x.start, .bool x.up, .slice Ax x.ships.length cx] 38
  obtain ⟨w6, hw6⟩ : ∃ w6, w6 = w1.alloc (.cells #[.int .i64 x.start, .bool x.up, .slice Ax x.ships.length cx] 38) := ⟨_, rfl⟩
  rw [← hw6] at BL KN ⊢
  have B6 := Lib.hid (B1.out.trans (BL.mono B1.out.size))
  have z0 : w6.cell? ⟨w1.heap.size, 0, none⟩ = some (.int .i64 x.start) := KN.cell 0
  have z1 : w6.cell? ⟨w1.heap.size, 1, none⟩ = some (.bool x.up) := KN.cell 1
  have z2 : w6.cell? ⟨w.heap.size, 2, none⟩ = some (.int .i64 k.minutes) := cell_onV vk2 BL
  clear hw6 BL KN y0 y1 y2 vk2 d0 wsub
  go_wp2_with fail
  refine (l01In_any _ _ _ _).mono ?_
  rw [Hb3.out]
  rintro e w3 ⟨rfl, rfl⟩
  cases b3 with
  | false =>
    have E := Lib.hid (E0.out.trans (show _ = (-1 : Int) by rw [Hb3.out, if_neg (by simp)]))
    go_wp2
    go_ret
    exact ⟨ret_int E.out.symm, B6.out⟩
  | true =>
  have hin := of_decide_eq_true (show decide (0 ≤ x.start ∧ x.start ≤ 2880) = true from Hb3.out)
  cases b4 with
  | false =>
    have hne : ¬ x.up = up := fun h => by have := Hb4.out; rw [h] at this; simp at this
    have E := Lib.hid (E0.out.trans (show _ = max ready (x.start + k.minutes) by rw [Hb3.out, if_pos rfl, if_neg hne]))
    have q : (x.up == up) = false := Hb4.out
    have wr1 : IntKind.i64.wrap (x.start + k.minutes) = x.start + k.minutes := by rw [IntKind.wrap_i64]; omega
    clear hne
    go_wp2
    all_goals (go_ret; exact ⟨ret_int (by first | exact E.out.symm | (rw [E.out]; omega)), B6.out⟩)
  | true =>
    have he : x.up = up := by simpa using Hb4.out
    have E := Lib.hid (E0.out.trans (show _ = max ready (x.start + 2 * k.minutes) by rw [Hb3.out, if_pos rfl, if_pos he]))
    have q : (x.up == up) = true := Hb4.out
    have wr0 : IntKind.i64.wrap (2 * k.minutes) = 2 * k.minutes := by rw [IntKind.wrap_i64]; omega
    have wr1 : IntKind.i64.wrap (x.start + 2 * k.minutes) = x.start + 2 * k.minutes := by rw [IntKind.wrap_i64]; omega
    clear he
    go_wp2
    all_goals (go_ret; exact ⟨ret_int (by first | exact E.out.symm | (rw [E.out]; omega)), B6.out⟩)
end Go.Proofs.Ytlddampjbmklkaa
