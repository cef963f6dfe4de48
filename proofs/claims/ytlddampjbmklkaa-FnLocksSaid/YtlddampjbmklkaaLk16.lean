
/- What LocksLaw rests on, part 16: contracts and mathematics. -/
import Derived.Test.YtlddampjbmklkaaLk13
import Derived.Test.YtlddampjbmklkaaLk5
import Derived.Test.YtlddampjbmklkaaLk2
import Derived.Test.YtlddampjbmklkaaLk7
import Derived.Test.YtlddampjbmklkaaLk14
import Derived.Test.YtlddampjbmklkaaLk3
import Derived.Test.YtlddampjbmklkaaLk1
import Derived.Deep.AppendLies
import Derived.Deep.RegionHeld3
import Derived.Deep.DeepCutAuto
namespace Go.Proofs.Ytlddampjbmklkaa
open Go.RowKit
set_option maxRecDepth 100000
set_option maxHeartbeats 8000000 in
theorem implNextTurn (k : ChamberD) (v : Value) (rows : List LockR) (up : Bool) (ready : Int) (w : World) (h : RdLocks w v rows) :
    Calls Try.prog 12 #[k.val, v, .bool up, .int .i64 ready] w fun e w' => e = .returned (.int .i64 (nextI k (rows.map LockR.d) up ready)) ∧ Below w.heap.size w w' := by
  have RD := Lib.hid h
  have hl := h.1.1
  obtain ⟨A, c, rfl⟩ := h.1.form
  clear h
  obtain ⟨W0, hW0⟩ : ∃ W0, W0 = (w.alloc (.cells #[.int .i64 k.length, .int .i64 k.lanes, .int .i64 k.minutes] 24)) := ⟨_, rfl⟩
  have B := Lib.hid (Joins.below_alloc1 w (.cells #[.int .i64 k.length, .int .i64 k.lanes, .int .i64 k.minutes] 24))
  have Kk := Lib.hid (Blk.new w #[.int .i64 k.length, .int .i64 k.lanes, .int .i64 k.minutes] 24)
  have HW0 := Lib.hid hW0
  rw [← hW0] at B Kk
  clear hW0
  obtain ⟨b1, hb1⟩ : ∃ b, chamB k = b := ⟨_, rfl⟩
  have Hb1 := Lib.hid hb1
  obtain ⟨b2, hb2⟩ : ∃ b, inB ready 0 2880 = b := ⟨_, rfl⟩
  have Hb2 := Lib.hid hb2
  clear hb1 hb2
  go_enter Try.func12, Try.ntmps12
  have vk0 : W0.cell? ⟨w.heap.size, 0, none⟩ = some (.int .i64 k.length) := Kk.out.cell 0
  have vk1 : W0.cell? ⟨w.heap.size, 1, none⟩ = some (.int .i64 k.lanes) := Kk.out.cell 1
  have vk2 : W0.cell? ⟨w.heap.size, 2, none⟩ = some (.int .i64 k.minutes) := Kk.out.cell 2
  go_wp2_with fail
  rw [← HW0.out]
  clear vk0 vk1 vk2
  refine (implChamberOk k _).mono ?_
  rw [Hb1.out]
  rintro e w1 ⟨rfl, hb1⟩
  have B1 := Lib.hid (B.out.trans (hb1.mono B.out.size))
  have Kk_1 := Lib.hid (Kk.out.below hb1)
  clear hb1
  cases b1 with
  | false =>
    have E := Lib.hid (nextI_bad (l := rows.map LockR.d) (up := up) (ready := ready) (show ¬ (chamB k = true ∧ inB ready 0 2880 = true) by rw [Hb1.out]; simp))
    go_wp2
    go_ret
    exact ⟨ret_int E.out.symm, B1.out⟩
  | true =>
  go_wp2_with fail
  refine (isMinute_any _ _).mono ?_
  rw [Hb2.out]
  rintro e w2 ⟨rfl, rfl⟩
  cases b2 with
  | false =>
    have E := Lib.hid (nextI_bad (k := k) (l := rows.map LockR.d) (up := up) (show ¬ (chamB k = true ∧ inB ready 0 2880 = true) by rw [Hb2.out]; simp))
    go_wp2
    go_ret
    exact ⟨ret_int E.out.symm, B1.out⟩
  | true =>
  by_cases h0 : rows.length = 0
  · have E := Lib.hid (nextI_none (up := up) Hb1.out Hb2.out h0)
    have d0 : decide ((rows.length : Int) = 0) = true := decide_eq_true (by omega)
    go_wp2
    go_ret
    exact ⟨ret_int E.out.symm, B1.out⟩
  obtain ⟨x, hx⟩ : ∃ x, rows[rows.length - 1]? = some x := ⟨_, List.getElem?_eq_getElem (by omega)⟩
  have E0 := Lib.hid (nextI_last (up := up) Hb1.out Hb2.out hx)
  obtain ⟨kl0, kl1, ka0, ka1, km0, km1⟩ := chamB_true Hb1.out
  obtain ⟨hs, hin⟩ := RD.out
  obtain ⟨Ax, cx, hxv⟩ := (hin x (List.mem_of_getElem? hx)).at
  rcases hs.2 with ⟨he, _⟩ | ⟨g, o, c', e, lpos, lcap, lc⟩
  · rw [he] at h0; exact absurd rfl h0
  injection e with ea e2 e3
  subst ea e3
  obtain ⟨p0, p1, p2⟩ := LockR.at lc _ x hx
  rw [hxv] at p2
  obtain ⟨n, hn⟩ : ∃ n, rows.length = n + 1 := ⟨rows.length - 1, by omega⟩
  rw [show rows.length - 1 = n by omega] at p0 p1 p2
  rw [hn] at hl
  have y0 := cell_onV p0 B1.out
  have y1 := cell_onV p1 B1.out
  have y2 := cell_onV p2 B1.out
  have vk2 : w1.cell? ⟨w.heap.size, 2, none⟩ = some (.int .i64 k.minutes) := Kk_1.out.cell 2
  obtain ⟨b3, hb3⟩ : ∃ b, inB x.start 0 2880 = b := ⟨_, rfl⟩
  have Hb3 := Lib.hid hb3
  obtain ⟨b4, hb4⟩ : ∃ b, (x.up == up) = b := ⟨_, rfl⟩
  have Hb4 := Lib.hid hb4
  clear hs hin p0 p1 p2 lc lcap lpos e2 hx hxv hb3 hb4
  try rw [hn]
  have d0 : decide (((n + 1 : Nat) : Int) = 0) = false := decide_eq_false (by omega)
  have wsub : IntKind.i64.wrap (((n + 1 : Nat) : Int) - 1) = (n : Int) := by rw [IntKind.wrap_i64]; omega
  go_upto_region 6 with fail
  have BL := Joins.below_alloc1 w1 (.cells #[.int .i64 x.start, .bool x.up, .slice Ax x.ships.length cx] 38)
  have KN := Blk.new w1 #[.int .i64 x.start, .bool x.up, .slice Ax x.ships.length cx] 38
  obtain ⟨w6, hw6⟩ : ∃ w6, w6 = w1.alloc (.cells #[.int .i64 x.start, .bool x.up, .slice Ax x.ships.length cx] 38) := ⟨_, rfl⟩
  rw [← hw6] at BL KN ⊢
  have B6 := Lib.hid (B1.out.trans (BL.mono B1.out.size))
  have z0 : w6.cell? ⟨w1.heap.size, 0, none⟩ = some (.int .i64 x.start) := KN.cell 0
  have z1 : w6.cell? ⟨w1.heap.size, 1, none⟩ = some (.bool x.up) := KN.cell 1
  have z2 : w6.cell? ⟨w.heap.size, 2, none⟩ = some (.int .i64 k.minutes) := cell_onV vk2 BL
  clear hw6 BL KN y0 y1 y2 vk2 d0 wsub
  go_wp2_with fail
  refine (isMinute_any _ _).mono ?_
  rw [Hb3.out]
  rintro e w3 ⟨rfl, rfl⟩
  cases b3 with
  | false =>
    have E := Lib.hid (E0.out.trans (show _ = (-1 : Int) by rw [Hb3.out, if_neg (by simp)]))
    go_wp2
    go_ret
    exact ⟨ret_int E.out.symm, B6.out⟩
  | true =>
  have hin := of_decide_eq_true (show decide (0 ≤ x.start ∧ x.start ≤ 2880) = true from Hb3.out)
  cases b4 with
  | false =>
    have hne : ¬ x.up = up := fun h => by have := Hb4.out; rw [h] at this; simp at this
    have E := Lib.hid (E0.out.trans (show _ = max ready (x.start + k.minutes) by rw [Hb3.out, if_pos rfl, if_neg hne]))
    have q : (x.up == up) = false := Hb4.out
    have wr1 : IntKind.i64.wrap (x.start + k.minutes) = x.start + k.minutes := by rw [IntKind.wrap_i64]; omega
    clear hne
    go_wp2
    all_goals (go_ret; exact ⟨ret_int (by first | exact E.out.symm | (rw [E.out]; omega)), B6.out⟩)
  | true =>
    have he : x.up = up := by simpa using Hb4.out
    have E := Lib.hid (E0.out.trans (show _ = max ready (x.start + 2 * k.minutes) by rw [Hb3.out, if_pos rfl, if_pos he]))
    have q : (x.up == up) = true := Hb4.out
    have wr0 : IntKind.i64.wrap (x.start + k.minutes) = x.start + k.minutes := by rw [IntKind.wrap_i64]; omega
    have wr1 : IntKind.i64.wrap (x.start + k.minutes + k.minutes) = x.start + k.minutes + k.minutes := by rw [IntKind.wrap_i64]; omega
    clear he
    go_wp2
    all_goals (go_ret; exact ⟨ret_int (by first | exact E.out.symm | (rw [E.out]; omega)), B6.out⟩)
end Go.Proofs.Ytlddampjbmklkaa
namespace Go.Proofs.Ytlddampjbmklkaa
open Go.RowKit
set_option maxRecDepth 100000
def emptyHit (x : LockD) : Bool := x.ships.length == 0
theorem idx_empty : ∀ (l : List LockD) (k : Nat), ((idxF emptyHit l k).length : Int) = emptyN (l.take k) := by
  intro l k
  induction k with
  | zero => simp [idxF, emptyN]
  | succ k ih =>
    by_cases hk : k < l.length
    · obtain ⟨x, hx⟩ : ∃ x, l[k]? = some x := ⟨_, List.getElem?_eq_getElem hk⟩
      rw [emptyN_next hx, ← ih]
      cases h : emptyHit x with
      | true => rw [idxF_yes hx h, if_pos (by simpa [emptyHit] using h)]; simp
      | false => rw [idxF_no hx h, if_neg (by simpa [emptyHit] using h)]; simp
    · have e : idxF emptyHit l (k + 1) = idxF emptyHit l k := by
        show idxF emptyHit l k ++ _ = _
        rw [List.getElem?_eq_none (by omega)]
        simp
      rw [e, ih, List.take_of_length_le (by omega), List.take_of_length_le (by omega)]
/-- The closure of EmptyLockings. -/
theorem empty1 (s : Int) (u : Bool) (A : Option Addr) (n c : Nat) (w : World) :
    Calls Try.prog 51 #[.agg #[.int .i64 s, .bool u, .slice A n c]] w fun e w' => e = .returned (.bool (n == 0)) ∧ Below w.heap.size w w' := by
  have B := Lib.hid (Joins.below_alloc1 w (.cells #[.int .i64 s, .bool u, .slice A n c] 38))
  have E := Lib.hid (show ((n : Int) == 0) = (n == 0) by rw [Bool.eq_iff_iff]; simp)
  go_enter Try.func51, Try.ntmps51
  go_wp2
  go_ret
  exact ⟨ret_bool E.out, B.out⟩
set_option maxHeartbeats 8000000 in
theorem indicesOf_locks (v : Value) (rows : List LockR) (w : World) (h : RdLocks w v rows) (hn : rows.length ≤ 10000000) :
    Calls Try.prog 50 #[v, .func (.func 51) #[] #[]] w (NewInt (idxF emptyHit (rows.map LockR.d) rows.length) w) := by
  have RD := Lib.hid h
  have hl := h.1.1
  obtain ⟨A1, c1, rfl⟩ := h.1.form
  clear h
  obtain ⟨i0, hin, hz0, hzs, hz2⟩ := info1_int
  have HI := Lib.hid hin
  clear hin
  have G0 := Lib.hid (GathO.empty (cs := intCells) (t := 3) (k := 1) (Below.refl w.heap.size w))
  go_enter Try.func50, Try.ntmps50
  go_wp2
  go_loopw [5, 10] (fun q i wr => ∃ (k : Nat) (acc : List Int), k ≤ rows.length ∧ i = .int .i64 k ∧ Hid (idxF emptyHit (rows.map LockR.d) k = acc) ∧ acc.length ≤ k ∧ Hid (GathO 1 intCells 3 w q acc wr)) (fun _ i _ => rows.length - (intOf i).toNat)
  case atStart => exact ⟨0, [], Nat.zero_le _, rfl, Lib.hid rfl, Nat.le_refl _, G0⟩
  case round =>
    clear G0
    obtain ⟨k, acc, hk, rfl, hA, hal, hG⟩ := hrel
    have hb : Hid (Below w.heap.size w wr) := Lib.hid hG.out.2
    have hzs2 := hb.out.size
    by_cases hlt : k < rows.length
    · obtain ⟨x, hx⟩ : ∃ x, rows[k]? = some x := ⟨_, List.getElem?_eq_getElem hlt⟩
      obtain ⟨Ax, cx, hxv⟩ := (RD.out.2 x (List.mem_of_getElem? hx)).at
      rcases RD.out.1.2 with ⟨he, _⟩ | ⟨g, o, c, e, hpos, hcap, hc⟩
      · rw [he] at hlt; simp at hlt
      · injection e with hA1 _ hcp
        subst hA1 hcp
        obtain ⟨q0, q1, q2⟩ := LockR.at hc k x hx
        rw [hxv] at q2
        have y0 := cell_onV q0 hb.out
        have y1 := cell_onV q1 hb.out
        have y2 := cell_onV q2 hb.out
        have HX := Lib.hid (lockD_at hx)
        obtain ⟨n, hn'⟩ : ∃ n, x.ships.length = n := ⟨_, rfl⟩
        have HTT := Lib.hid (show emptyHit x.d = (n == 0) by rw [← hn']; rfl)
        rw [hn'] at y2
        clear q0 q1 q2 hx hc hxv hpos hcap hn'
        have G2 := Lib.hid (hG.out.below (Joins.below_alloc1 wr (.cells #[.int .i64 x.start, .bool x.up, .slice Ax n cx] 38)))
        go_wp2_with fail
        refine (empty1 x.start x.up Ax n cx _).mono ?_
        rw [← HTT.out]
        rintro e w5 ⟨rfl, hb5⟩
        have G3 := Lib.hid (G2.out.below hb5)
        clear hb5 y0 y1 y2 G2
        obtain ⟨t, ht⟩ : ∃ t, emptyHit x.d = t := ⟨_, rfl⟩
        have HT2 := Lib.hid ht
        rw [ht]
        clear ht
        cases t with
        | true =>
          have E2 := Lib.hid (show idxF emptyHit (rows.map LockR.d) (k + 1) = acc ++ [(k : Int)] by rw [idxF_yes HX.out HT2.out, hA.out])
          obtain ⟨Q, cq, hQ⟩ := G3.out.form
          subst hQ
          have GW := Lib.hid (G3.out.below (Joins.below_alloc1 w5 (.cells #[.int .i64 (k : Int)] 3)))
          have HN := Lib.hid (World.news_of_block (heap_alloc_new w5 (.cells #[.int .i64 (k : Int)] 3)))
          have HN' := Lib.hid (show ∀ j u, (intCells (k : Int))[j]? = some u → (w5.alloc (.cells #[.int .i64 (k : Int)] 3)).cell? ((⟨w5.heap.size, 0, none⟩ : Addr).add j) = some u from fun j u hu => by have hh := HN.out j u (by simpa [intCells] using hu); exact hh)
          have hzs3 : w.heap.size ≤ w5.heap.size := G3.out.size
          clear hG
          go_wp2_with (at_builtin; refine wpList_append_lies _ rfl _ _ _ rfl w.heap.size 3 i0 _ 1 8 Try.underlying33 HI.out hz0 (by assumption) hz2 rfl (by omega) (.slice Q acc.length cq) acc.length (acc.flatMap intCells) rfl GW.out.1 ⟨w5.heap.size, 0, none⟩ 1 1 (intCells (k : Int)) (by first | rfl | simp) rfl HN'.out (int_one _) (by omega) (by unfold maxLen; omega) (by omega) (by first | omega | (simp; done) | (simp; omega)) _ rfl ?_; intro g4 cap4 w4 hown4 hgrow4 hor4 hlt4; have GX := Lib.hid (GW.out.next hown4 hgrow4); clear hown4 hgrow4 hor4 hlt4)
          go_roundw
          case rel => exact ⟨k + 1, acc ++ [(k : Int)], by omega, by go_num, E2, by simp; omega, GX⟩
          case measure => simp [intOf]; omega
        | false =>
          have E2 := Lib.hid (show idxF emptyHit (rows.map LockR.d) (k + 1) = acc by rw [idxF_no HX.out HT2.out, hA.out])
          clear hG
          go_wp2
          go_roundw
          case rel => exact ⟨k + 1, acc, by omega, by go_num, E2, by omega, G3⟩
          case measure => simp [intOf]; omega
    · obtain rfl : k = rows.length := by omega
      have E := Lib.hid (hA.out.symm)
      obtain ⟨Q, cq, rfl⟩ := hG.out.form
      go_wp2
      go_ret
      exact ⟨_, rfl, by rw [← E.out]; exact hG.out.1, hb.out⟩
set_option maxHeartbeats 2000000 in
theorem implEmptyLockings (v : Value) (rows : List LockR) (w : World) (h : RdLocks w v rows) (hn : rows.length ≤ 10000000) :
    Calls Try.prog 17 #[v] w fun e w' => e = .returned (.int .i64 (emptyN (rows.map LockR.d))) ∧ Below w.heap.size w w' := by
  have C := Lib.hid (indicesOf_locks v rows w h hn)
  have E := Lib.hid (show (((idxF emptyHit (rows.map LockR.d) rows.length).length : Nat) : Int) = emptyN (rows.map LockR.d) by
    have e := idx_empty (rows.map LockR.d) rows.length
    rwa [List.take_of_length_le (by simp)] at e)
  obtain ⟨A1, c1, rfl⟩ := h.1.form
  clear h
  obtain ⟨l, hl⟩ : ∃ l, idxF emptyHit (rows.map LockR.d) rows.length = l := ⟨_, rfl⟩
  rw [hl] at C E
  clear hl
  go_enter Try.func17, Try.ntmps17
  go_wp2_with fail
  refine C.out.mono ?_
  rintro e w1 ⟨v1, rfl, ho, hb⟩
  obtain ⟨Q, cq, rfl⟩ := own_form ho
  have B1 := Lib.hid hb
  clear ho hb
  go_wp2
  go_ret
  exact ⟨ret_int E.out, B1.out⟩
set_option maxHeartbeats 4000000 in
theorem implLockedAt (v : Value) (rows : List LockR) (ship : Int) (up : Bool) (w : World) (h : RdLocks w v rows) :
    Calls Try.prog 16 #[v, .int .i64 ship, .bool up] w fun e w' => e = .returned (.int .i64 (lockedI (rows.map LockR.d) ship up)) ∧ Below w.heap.size w w' := by
  obtain ⟨⟨hl, hs⟩, hin⟩ := h
  rcases hs with ⟨e, A, c, rfl⟩ | ⟨g, o, c, rfl, hpos, _, hc⟩
  · have E3 := Lib.hid (show lockedI (rows.map LockR.d) ship up = -1 by rw [e]; rfl)
    clear e hin hl
    go_enter Try.func16, Try.ntmps16
    go_wp2
    refine wp_loop_rounds 1 ?_
    rw [rounds_succ]
    go_wp2
    go_ret
    exact ⟨ret_int E3.out.symm, Below.refl _ _⟩
  · have HC := Lib.hid hc
    have HIN := Lib.hid hin
    clear hc hin
    go_enter Try.func16, Try.ntmps16
    go_wp2
    go_loopw [11] (fun i wr => ∃ k : Nat, k ≤ rows.length ∧ i = .int .i64 k ∧ Hid (NoOne (lockHit ship up) (rows.map LockR.d) k) ∧ Hid (Below w.heap.size w wr)) (fun i _ => rows.length - (intOf i).toNat)
    case atStart => exact ⟨0, Nat.zero_le _, rfl, Lib.hid (NoOne.zero _ _), Lib.hid (Below.refl _ _)⟩
    case round =>
      obtain ⟨k, hk, rfl, hN, hb⟩ := hrel
      have hzs := hb.out.size
      by_cases hlt : k < rows.length
      · obtain ⟨x, hx⟩ : ∃ x, rows[k]? = some x := ⟨_, List.getElem?_eq_getElem hlt⟩
        obtain ⟨p0, p1, p2⟩ := LockR.at HC.out k x hx
        have y0 := cell_onV p0 hb.out
        have y1 := cell_onV p1 hb.out
        have y2 := cell_onV p2 hb.out
        have hin := HIN.out x (List.mem_of_getElem? hx)
        obtain ⟨Ax, cx, hxv⟩ := hin.at
        rw [hxv] at y2 hin
        obtain ⟨w2, hw2⟩ : ∃ W, W = wr.alloc (.cells #[.int .i64 x.start, .bool x.up, .slice Ax x.ships.length cx] 38) := ⟨_, rfl⟩
        have KN := Blk.new wr #[.int .i64 x.start, .bool x.up, .slice Ax x.ships.length cx] 38
        have b2 := hb.out.alloc hzs (.cells #[.int .i64 x.start, .bool x.up, .slice Ax x.ships.length cx] 38)
        rw [← hw2] at KN b2
        have B2 := Lib.hid b2
        have KP := Lib.hid KN
        have HW2 := Lib.hid hw2
        have HSL := Lib.hid (hin.below b2)
        have HD := Lib.hid (lockD_at hx)
        clear hx p0 p1 p2 hxv hin KN b2 hw2
        cases hu : (x.up == up) with
        | false =>
          have N2 := Lib.hid (hN.out.next HD.out (show lockHit ship up x.d = false by unfold lockHit; rw [show (x.d.up == up) = false from hu]; rfl))
          go_wp2
          go_roundw
          case rel => exact ⟨k + 1, by omega, by go_num, N2, by rw [← HW2.out]; exact B2⟩
          case measure => simp [intOf]; omega
        | true =>
          obtain ⟨t, ht⟩ : ∃ t, x.ships.any (· == ship) = t := ⟨_, rfl⟩
          have HT := Lib.hid ht
          have HH := Lib.hid (show lockHit ship up x.d = t by unfold lockHit; rw [show (x.d.up == up) = true from hu]; exact ht)
          clear ht
          go_upto_region 4 with fail
          rw [← HW2.out]
          have z0 : w2.cell? ⟨wr.heap.size, 0, none⟩ = some (.int .i64 x.start) := KP.out.cell 0
          have z1 : w2.cell? ⟨wr.heap.size, 1, none⟩ = some (.bool x.up) := KP.out.cell 1
          have z2 : w2.cell? ⟨wr.heap.size, 2, none⟩ = some (.slice Ax x.ships.length cx) := KP.out.cell 2
          clear y0 y1 y2
          go_wp2_with fail
          refine (contains_any _ x.ships ship w2 HSL.out).mono ?_
          rw [HT.out]
          rintro e w3 ⟨rfl, rfl⟩
          cases t with
          | true =>
            have E := Lib.hid (lockedI_at hN.out HD.out HH.out)
            go_wp2
            go_ret
            exact ⟨ret_int E.out.symm, B2.out⟩
          | false =>
            have N2 := Lib.hid (hN.out.next HD.out HH.out)
            go_wp2
            go_roundw
            case rel => exact ⟨k + 1, by omega, by go_num, N2, B2⟩
            case measure => simp [intOf]; omega
      · obtain rfl : k = rows.length := by omega
        have E := Lib.hid (lockedI_none (by rw [List.length_map]; exact hN.out))
        go_wp2
        go_ret
        exact ⟨ret_int E.out.symm, hb.out⟩
theorem Liv.none0 (w : World) : Liv w w [(0, .slice none 0 0, [])] := ⟨fun p hp => by obtain rfl := mem1 hp; exact World.ownsRow_nil _ _ _ _, fun p hp q hq hne => absurd ((mem1 hp).trans (mem1 hq).symm) hne, Below.refl _ _⟩
set_option maxHeartbeats 4000000 in
theorem implLockOrder (v : Value) (rows : List LockR) (up : Bool) (w : World) (h : RdLocks w v rows) (hn : (rows.length : Int) + bulkLock rows ≤ 10000000) :
    Calls Try.prog 15 #[v, .bool up] w (NewInt (lockOrd (rows.map LockR.d) up) w) := by
  obtain ⟨⟨hl, hs⟩, hin⟩ := h
  have L0 := Lib.hid (Liv.none0 w)
  rcases hs with ⟨e, A, c, rfl⟩ | ⟨g, o, c, rfl, hpos, _, hc⟩
  · have E3 := Lib.hid (show lockOrd (rows.map LockR.d) up = [] by rw [e]; rfl)
    clear e hin hl
    go_enter Try.func15, Try.ntmps15
    go_wp2
    refine wp_loop_rounds 1 ?_
    rw [rounds_succ]
    go_wp2
    go_ret
    exact ⟨_, rfl, by rw [E3.out]; exact L0.out.own _ List.mem_cons_self, L0.out.low⟩
  · have HC := Lib.hid hc
    have HIN := Lib.hid hin
    clear hc hin
    go_enter Try.func15, Try.ntmps15
    go_wp2
    go_loopw [5, 10] (fun q i wr => ∃ (k : Nat) (u : Value), k ≤ rows.length ∧ i = .int .i64 k ∧ q = u ∧ Hid (Liv w wr [(0, u, lockOrd ((rows.map LockR.d).take k) up)])) (fun _ i _ => rows.length - (intOf i).toNat)
    case atStart => exact ⟨0, _, Nat.zero_le _, rfl, rfl, L0⟩
    case round =>
      obtain ⟨k, u, hk, rfl, rfl, hL⟩ := hrel
      have hzs := hL.out.low.size
      by_cases hlt : k < rows.length
      · obtain ⟨x, hx⟩ : ∃ x, rows[k]? = some x := ⟨_, List.getElem?_eq_getElem hlt⟩
        obtain ⟨p0, p1, p2⟩ := LockR.at HC.out k x hx
        have hin := HIN.out x (List.mem_of_getElem? hx)
        have y0 := cell_onV p0 hL.out.low
        have y1 := cell_onV p1 hL.out.low
        have y2 := cell_onV p2 hL.out.low
        obtain ⟨Ax, cx, hxv⟩ := hin.at
        rw [hxv] at y2 hin
        have hb1 := Joins.below_alloc1 wr (.cells #[.int .i64 x.start, .bool x.up, .slice Ax x.ships.length cx] 38)
        have HSL := Lib.hid (hin.below (hL.out.low.trans (hb1.mono hzs)))
        have L1 := Lib.hid (Liv.mk (fun p hp => own_below (hL.out.own p hp) hb1) hL.out.ap (hL.out.low.trans (hb1.mono hzs)) : Liv w (wr.alloc (.cells #[.int .i64 x.start, .bool x.up, .slice Ax x.ships.length cx] 38)) _)
        have HN := Lib.hid (lockOrd_next (up := up) (lockD_at hx))
        have hle := lockOrd_len rows up k
        have hb2 := bulkLock_next hx
        have hb3 := bulkLock_le rows (k + 1)
        clear hx p0 p1 p2 hxv hin hb1
        cases hu : (x.up == up) with
        | false =>
          have hne : ¬ x.d.up = up := fun h => by have h : x.up = up := h; rw [h] at hu; simp at hu
          have E3 := Lib.hid (HN.out.trans (by rw [if_neg hne, List.append_nil]))
          clear hne
          go_wp2
          go_roundw
          case rel => exact ⟨k + 1, _, by omega, by go_num, rfl, by rw [E3.out]; exact L1⟩
          case measure => simp [intOf]; omega
        | true =>
          have he : x.d.up = up := (by simpa using hu : x.up = up)
          have E3 := Lib.hid (HN.out.trans (by rw [if_pos he]; rfl : _ = lockOrd ((rows.map LockR.d).take k) up ++ x.ships))
          clear he
          go_wp2_with (at_builtin; refine wpList_plain rfl fun K hK => wp_of_step (ops := #[]) rfl (step_liv L1.out (L' := []) (τ := 0) (v := u5) (u := .slice Ax x.ships.length cx) (l := lockOrd ((rows.map LockR.d).take k) up) (m := x.ships) 0 rfl (.tmp 18) (.tmp 20) rfl rfl rfl List.mem_cons_self HSL.out (by omega) (fun q hq => by cases hq) ?_); intro v5 x5 hl5; refine hK _ _ ?_; have L5 := Lib.hid hl5; clear hl5)
          go_roundw
          case rel => exact ⟨k + 1, _, by omega, by go_num, rfl, by rw [E3.out]; exact L5⟩
          case measure => simp [intOf]; omega
      · obtain rfl : k = rows.length := by omega
        have E := Lib.hid (show (rows.map LockR.d).take rows.length = rows.map LockR.d from List.take_of_length_le (by simp))
        have HO := Lib.hid (hL.out.own _ List.mem_cons_self)
        rw [E.out] at HO
        go_wp2
        go_ret
        exact ⟨_, rfl, HO.out, hL.out.low⟩
end Go.Proofs.Ytlddampjbmklkaa
