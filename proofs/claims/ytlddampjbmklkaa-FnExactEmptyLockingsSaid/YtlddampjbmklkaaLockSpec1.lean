
/- Lock plans, the model's side: LockOrder: contract. -/
import Derived.Test.YtlddampjbmklkaaLockSpec0
import Derived.Test.YtlddampjbmklkaaLivLib
import Derived.Test.YtlddampjbmklkaaPackSpec0
namespace Go.Proofs.Ytlddampjbmklkaa
open Go.RowKit
set_option maxRecDepth 100000

theorem lockOrd_len (rows : List LockR) (up : Bool) (k : Nat) : ((lockOrd ((rows.map LockR.d).take k) up).length : Int) ≤ bulkLock (rows.take k) := by
  rw [← List.map_take]
  induction rows.take k with
  | nil => simp [lockOrd, bulkLock]
  | cons x l ih =>
    have e : lockOrd ((x :: l).map LockR.d) up = (if x.up = up then x.ships else []) ++ lockOrd (l.map LockR.d) up := rfl
    rw [e, List.length_append]
    have : ((if x.up = up then x.ships else []).length : Int) ≤ x.ships.length := by split <;> simp
    show _ ≤ (x.ships.length : Int) + bulkLock l
    omega
theorem lockOrd_all (rows : List LockR) (up : Bool) : ((lockOrd (rows.map LockR.d) up).length : Int) ≤ bulkLock rows := by
  have h := lockOrd_len rows up rows.length
  rwa [List.take_length, List.take_of_length_le (by simp)] at h
set_option maxHeartbeats 4000000 in
theorem specLockOrder (v : Value) (rows : List LockR) (up : Bool) (w : World) (h : RdLocks w v rows) (hn : (rows.length : Int) + bulkLock rows ≤ 10000000) :
    Calls Try.prog 27 #[v, .bool up] w (NewInt (lockOrd (rows.map LockR.d) up) w) := by
  obtain ⟨⟨hl, hs⟩, hin⟩ := h
  have L0 := Lib.hid (Liv.build (Liv.nil w) 0 [] (by simp))
  rcases hs with ⟨e, A, c, rfl⟩ | ⟨g, o, c, rfl, hpos, _, hc⟩
  · have E3 := Lib.hid (show lockOrd (rows.map LockR.d) up = [] by rw [e]; rfl)
    clear e hin hl
    go_enter Try.func27, Try.ntmps27
    go_wp2
    refine wp_loop_rounds 1 ?_
    rw [rounds_succ]
    go_wp2
    go_ret
    exact ⟨_, rfl, by rw [E3.out]; exact L0.out.own _ List.mem_cons_self, L0.out.low⟩
  · have HC := Lib.hid hc
    have HIN := Lib.hid hin
    clear hc hin
    go_enter Try.func27, Try.ntmps27
    go_wp2
    go_loopw [5, 11] (fun q i wr => ∃ (k : Nat) (u : Value), k ≤ rows.length ∧ i = .int .i64 k ∧ q = u ∧ Hid (Liv w wr [(0, u, lockOrd ((rows.map LockR.d).take k) up)])) (fun _ i _ => rows.length - (intOf i).toNat)
    case atStart => exact ⟨0, _, Nat.zero_le _, rfl, rfl, L0⟩
    case round =>
      obtain ⟨k, u, hk, rfl, rfl, hL⟩ := hrel
      have hzs := hL.out.low.size
      by_cases hlt : k < rows.length
      · obtain ⟨x, hx⟩ : ∃ x, rows[k]? = some x := ⟨_, List.getElem?_eq_getElem hlt⟩
        obtain ⟨p0, p1, p2⟩ := LockR.at HC.out k x hx
        have hin := HIN.out x (List.mem_of_getElem? hx)
        have y0 := cell_onV p0 hL.out.low
        have y1 := cell_onV p1 hL.out.low
        have y2 := cell_onV p2 hL.out.low
        obtain ⟨Ax, cx, hxv⟩ := hin.at
        rw [hxv] at y2 hin
        have hb1 := Joins.below_alloc1 wr (.cells #[.int .i64 x.start, .bool x.up, .slice Ax x.ships.length cx] 38)
        have HSL := Lib.hid (hin.below (hL.out.low.trans (hb1.mono hzs)))
        have L1 := Lib.hid (Liv.mk (fun p hp => own_below (hL.out.own p hp) hb1) hL.out.ap (hL.out.low.trans (hb1.mono hzs)) : Liv w (wr.alloc (.cells #[.int .i64 x.start, .bool x.up, .slice Ax x.ships.length cx] 38)) _)
        have HN := Lib.hid (lockOrd_next (up := up) (lockD_at hx))
        have hle := lockOrd_len rows up k
        have hb2 := bulkLock_next hx
        have hb3 := bulkLock_le rows (k + 1)
        clear hx p0 p1 p2 hxv hin hb1
        cases hu : (x.up == up) with
        | false =>
          have hne : ¬ x.d.up = up := fun h => by have h : x.up = up := h; rw [h] at hu; simp at hu
          have E3 := Lib.hid (HN.out.trans (by rw [if_neg hne, List.append_nil]))
          clear hne
          go_wp2
          go_roundw
          case rel => exact ⟨k + 1, _, by omega, by go_num, rfl, by rw [E3.out]; exact L1⟩
          case measure => simp [intOf]; omega
        | true =>
          have he : x.d.up = up := (by simpa using hu : x.up = up)
          have E3 := Lib.hid (HN.out.trans (by rw [if_pos he]; rfl : _ = lockOrd ((rows.map LockR.d).take k) up ++ x.ships))
          clear he
          go_wp2_with (at_builtin; refine wpList_plain rfl fun K hK => wp_of_step (ops := #[]) rfl (step_liv L1.out (L' := []) (τ := 0) (v := u5) (u := .slice Ax x.ships.length cx) (l := lockOrd ((rows.map LockR.d).take k) up) (m := x.ships) 0 rfl (.tmp 19) (.tmp 21) rfl rfl rfl List.mem_cons_self HSL.out (by omega) (fun q hq => by cases hq) ?_); intro v5 x5 hl5; refine hK _ _ ?_; have L5 := Lib.hid hl5; clear hl5)
          go_roundw
          case rel => exact ⟨k + 1, _, by omega, by go_num, rfl, by rw [E3.out]; exact L5⟩
          case measure => simp [intOf]; omega
      · obtain rfl : k = rows.length := by omega
        have E := Lib.hid (show (rows.map LockR.d).take rows.length = rows.map LockR.d from List.take_of_length_le (by simp))
        have HO := Lib.hid (hL.out.own _ List.mem_cons_self)
        rw [E.out] at HO
        go_wp2
        go_ret
        exact ⟨_, rfl, HO.out, hL.out.low⟩
end Go.Proofs.Ytlddampjbmklkaa
