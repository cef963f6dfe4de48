
/- Lock plans, the model's side: EmptyLockings, LockedAt: contracts. -/
import Derived.Test.YtlddampjbmklkaaLockPlanMath
import Derived.Test.YtlddampjbmklkaaIntHas
import Derived.Deep.RegionHeld3
import Derived.Deep.DeepCutAuto
namespace Go.Proofs.Ytlddampjbmklkaa
open Go.RowKit
set_option maxRecDepth 100000

set_option maxHeartbeats 2000000 in
theorem specEmpty (v : Value) (rows : List LockR) (w : World) (h : RdLocks w v rows) :
    Calls Try.prog 37 #[v] w fun e w' => e = .returned (.int .i64 (emptyN (rows.map LockR.d))) ∧ Below w.heap.size w w' := by
  obtain ⟨⟨hl, hs⟩, hin⟩ := h
  rcases hs with ⟨e, A, c, rfl⟩ | ⟨g, o, c, rfl, hpos, _, hc⟩
  · have E3 := Lib.hid (show emptyN (rows.map LockR.d) = 0 by rw [e]; rfl)
    clear e hin hl
    go_enter Try.func37, Try.ntmps37
    go_wp2
    refine wp_loop_rounds 1 ?_
    rw [rounds_succ]
    go_wp2
    go_ret
    exact ⟨ret_int E3.out.symm, Below.refl _ _⟩
  · have HC := Lib.hid hc
    have HIN := Lib.hid hin
    clear hc hin
    go_enter Try.func37, Try.ntmps37
    go_wp2
    go_loopw [3, 8] (fun q i wr => ∃ k : Nat, k ≤ rows.length ∧ i = .int .i64 k ∧ q = .int .i64 (emptyN ((rows.map LockR.d).take k)) ∧ Hid (Below w.heap.size w wr)) (fun _ i _ => rows.length - (intOf i).toNat)
    case atStart => exact ⟨0, Nat.zero_le _, rfl, rfl, Lib.hid (Below.refl _ _)⟩
    case round =>
      obtain ⟨k, hk, rfl, rfl, hb⟩ := hrel
      have hzs := hb.out.size
      have he := emptyN_le (rows.map LockR.d) k
      rw [List.length_map] at he
      by_cases hlt : k < rows.length
      · obtain ⟨x, hx⟩ : ∃ x, rows[k]? = some x := ⟨_, List.getElem?_eq_getElem hlt⟩
        have E2 := Lib.hid (show emptyN ((rows.map LockR.d).take (k + 1)) = emptyN ((rows.map LockR.d).take k) + if x.ships.length = 0 then 1 else 0 from emptyN_next (lockD_at hx))
        obtain ⟨p0, p1, p2⟩ := LockR.at HC.out k x hx
        have y0 := cell_onV p0 hb.out
        have y1 := cell_onV p1 hb.out
        have y2 := cell_onV p2 hb.out
        obtain ⟨Ax, cx, hxv⟩ := (HIN.out x (List.mem_of_getElem? hx)).at
        rw [hxv] at y2
        have B2 := Lib.hid (hb.out.alloc hzs (.cells #[.int .i64 x.start, .bool x.up, .slice Ax x.ships.length cx] 38))
        obtain ⟨z, hz⟩ : ∃ z, emptyN ((rows.map LockR.d).take k) = z := ⟨_, rfl⟩
        rw [hz] at he E2 ⊢
        have hwr : IntKind.i64.wrap (z + 1) = z + 1 := by rw [IntKind.wrap_i64]; omega
        clear hx p0 p1 p2 hxv hz
        by_cases hz0 : x.ships.length = 0
        · have E3 := Lib.hid (E2.out.trans (by show _ = z + 1; rw [if_pos hz0]))
          rw [hz0] at B2
          go_wp2
          go_roundw
          case rel => exact ⟨k + 1, by omega, by go_num, by rw [E3.out], B2⟩
          case measure => simp [intOf]; omega
        · have E3 := Lib.hid (E2.out.trans (by show _ = z; rw [if_neg hz0]; omega))
          go_wp2
          go_roundw
          case rel => exact ⟨k + 1, by omega, by go_num, by rw [E3.out], B2⟩
          case measure => simp [intOf]; omega
      · obtain rfl : k = rows.length := by omega
        have E := Lib.hid (show (rows.map LockR.d).take rows.length = rows.map LockR.d from List.take_of_length_le (by simp))
        go_wp2
        go_ret
        exact ⟨ret_int (by rw [E.out]), hb.out⟩

set_option maxHeartbeats 4000000 in
theorem specLockedAt (v : Value) (rows : List LockR) (ship : Int) (up : Bool) (w : World) (h : RdLocks w v rows) :
    Calls Try.prog 26 #[v, .int .i64 ship, .bool up] w fun e w' => e = .returned (.int .i64 (lockedI (rows.map LockR.d) ship up)) ∧ Below w.heap.size w w' := by
  obtain ⟨⟨hl, hs⟩, hin⟩ := h
  rcases hs with ⟨e, A, c, rfl⟩ | ⟨g, o, c, rfl, hpos, _, hc⟩
  · have E3 := Lib.hid (show lockedI (rows.map LockR.d) ship up = -1 by rw [e]; rfl)
    clear e hin hl
    go_enter Try.func26, Try.ntmps26
    go_wp2
    refine wp_loop_rounds 1 ?_
    rw [rounds_succ]
    go_wp2
    go_ret
    exact ⟨ret_int E3.out.symm, Below.refl _ _⟩
  · have HC := Lib.hid hc
    have HIN := Lib.hid hin
    clear hc hin
    go_enter Try.func26, Try.ntmps26
    go_wp2
    go_loopw [11] (fun i wr => ∃ k : Nat, k ≤ rows.length ∧ i = .int .i64 k ∧ Hid (NoOne (lockHit ship up) (rows.map LockR.d) k) ∧ Hid (Below w.heap.size w wr)) (fun i _ => rows.length - (intOf i).toNat)
    case atStart => exact ⟨0, Nat.zero_le _, rfl, Lib.hid (NoOne.zero _ _), Lib.hid (Below.refl _ _)⟩
    case round =>
      obtain ⟨k, hk, rfl, hN, hb⟩ := hrel
      have hzs := hb.out.size
      by_cases hlt : k < rows.length
      · obtain ⟨x, hx⟩ : ∃ x, rows[k]? = some x := ⟨_, List.getElem?_eq_getElem hlt⟩
        obtain ⟨p0, p1, p2⟩ := LockR.at HC.out k x hx
        have y0 := cell_onV p0 hb.out
        have y1 := cell_onV p1 hb.out
        have y2 := cell_onV p2 hb.out
        have hin := HIN.out x (List.mem_of_getElem? hx)
        obtain ⟨Ax, cx, hxv⟩ := hin.at
        rw [hxv] at y2 hin
        obtain ⟨w2, hw2⟩ : ∃ W, W = wr.alloc (.cells #[.int .i64 x.start, .bool x.up, .slice Ax x.ships.length cx] 38) := ⟨_, rfl⟩
        have KN := Blk.new wr #[.int .i64 x.start, .bool x.up, .slice Ax x.ships.length cx] 38
        have b2 := hb.out.alloc hzs (.cells #[.int .i64 x.start, .bool x.up, .slice Ax x.ships.length cx] 38)
        rw [← hw2] at KN b2
        have B2 := Lib.hid b2
        have KP := Lib.hid KN
        have HW2 := Lib.hid hw2
        have HSL := Lib.hid (hin.below b2)
        have HD := Lib.hid (lockD_at hx)
        clear hx p0 p1 p2 hxv hin KN b2 hw2
        cases hu : (x.up == up) with
        | false =>
          have N2 := Lib.hid (hN.out.next HD.out (show lockHit ship up x.d = false by unfold lockHit; rw [show (x.d.up == up) = false from hu]; rfl))
          go_wp2
          go_roundw
          case rel => exact ⟨k + 1, by omega, by go_num, N2, by rw [← HW2.out]; exact B2⟩
          case measure => simp [intOf]; omega
        | true =>
          obtain ⟨t, ht⟩ : ∃ t, x.ships.any (· == ship) = t := ⟨_, rfl⟩
          have HT := Lib.hid ht
          have HH := Lib.hid (show lockHit ship up x.d = t by unfold lockHit; rw [show (x.d.up == up) = true from hu]; exact ht)
          clear ht
          go_upto_region 4 with fail
          rw [← HW2.out]
          have z0 : w2.cell? ⟨wr.heap.size, 0, none⟩ = some (.int .i64 x.start) := KP.out.cell 0
          have z1 : w2.cell? ⟨wr.heap.size, 1, none⟩ = some (.bool x.up) := KP.out.cell 1
          have z2 : w2.cell? ⟨wr.heap.size, 2, none⟩ = some (.slice Ax x.ships.length cx) := KP.out.cell 2
          clear y0 y1 y2
          go_wp2_with fail
          refine (specHas _ x.ships ship w2 HSL.out).mono ?_
          rw [HT.out]
          rintro e w3 ⟨rfl, rfl⟩
          cases t with
          | true =>
            have E := Lib.hid (lockedI_at hN.out HD.out HH.out)
            go_wp2
            go_ret
            exact ⟨ret_int E.out.symm, B2.out⟩
          | false =>
            have N2 := Lib.hid (hN.out.next HD.out HH.out)
            go_wp2
            go_roundw
            case rel => exact ⟨k + 1, by omega, by go_num, N2, B2⟩
            case measure => simp [intOf]; omega
      · obtain rfl : k = rows.length := by omega
        have E := Lib.hid (lockedI_none (by rw [List.length_map]; exact hN.out))
        go_wp2
        go_ret
        exact ⟨ret_int E.out.symm, hb.out⟩
end Go.Proofs.Ytlddampjbmklkaa
