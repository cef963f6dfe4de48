
/- What LocksLaw rests on, part 13: contracts and mathematics. -/
import Derived.Test.YtlddampjbmklkaaLkTk
import Derived.Test.YtlddampjbmklkaaLk9
import Derived.Test.YtlddampjbmklkaaLk4
import Derived.Deep.DeepCutAuto
import Derived.Test.YtlddampjbmklkaaLk7
namespace Go.Proofs.Ytlddampjbmklkaa
open Go.RowKit
set_option maxRecDepth 100000
set_option maxHeartbeats 8000000 in
theorem specCopy (v : Value) (rows : List LockR) (w : World) (h : RdLocks w v rows) (hn : (rows.length : Int) + bulkLock rows ≤ 9000000) :
    Calls Try.prog 64 #[v] w (NewLocks rows w) := by
  obtain ⟨i0, hi, hz0, hz1, hz2⟩ := info_parts info_locking
  have HI := Lib.hid (And.intro hi (And.intro hz0 (And.intro hz1 hz2)))
  clear hi hz0 hz1 hz2
  have G0 := Lib.hid (GathL.made (Below.refl w.heap.size w))
  have RD := Lib.hid h
  have hl := h.1.1
  obtain ⟨A, c, rfl⟩ := h.1.form
  clear h
  obtain ⟨m, hm⟩ : ∃ m, rows.length = m := ⟨_, rfl⟩
  have HM := Lib.hid hm
  rw [hm] at hl
  have hbp := bulkLock_pos rows
  have hm2 : (m : Int) + bulkLock rows ≤ 9000000 := by rw [← hm]; exact hn
  try rw [hm]
  clear hm hn
  go_enter Try.func64, Try.ntmps64
  go_wp2
  go_loopw [3, 9] (fun q t wr => ∃ (k : Nat) (rs : List LockR), k ≤ m ∧ rs.length = k ∧ t = .int .i64 (k : Int) ∧ Hid (rs.map LockR.d = (rows.take k).map LockR.d) ∧ Hid (GathL w q rs wr)) (fun _ t _ => m - (intOf t).toNat)
  case atStart => exact ⟨0, [], Nat.zero_le _, rfl, rfl, Lib.hid rfl, G0⟩
  case round =>
    obtain ⟨k, rs, hk, hrl, rfl, hS, hG⟩ := hrel
    obtain ⟨Qa, Qc, rfl⟩ := hG.out.form
    have HRL := Lib.hid hrl
    have hzs := hG.out.low.size
    by_cases hlt : k < m
    rotate_left
    · obtain rfl : k = m := by omega
      have E := Lib.hid (show rs.map LockR.d = rows.map LockR.d by have := hS.out; rwa [← HM.out, List.take_length] at this)
      go_wp2
      go_ret
      exact ⟨_, rs, rfl, hG.out.own, E.out, hG.out.low⟩
    obtain ⟨x, hx⟩ : ∃ x, rows[k]? = some x := ⟨_, List.getElem?_eq_getElem (by have := HM.out; omega)⟩
    have HX := Lib.hid hx
    have hxin := RD.out.2 x (List.mem_of_getElem? hx)
    obtain ⟨Ax, cx, hxv⟩ := hxin.at
    rw [hxv] at hxin
    have HXI := Lib.hid hxin
    have hxl : (x.ships.length : Int) ≤ 9000000 := by have := bulkLock_mem (List.mem_of_getElem? hx); omega
    rcases RD.out.1.2 with ⟨he, _⟩ | ⟨gl, ol, cl', e, lpos, lcap, lc⟩
    · rw [he] at hx; simp at hx
    injection e with ea e2 e3
    subst ea
    clear e2 e3 lpos lcap
    obtain ⟨p0, p1, p2⟩ := LockR.at lc k x hx
    rw [hxv] at p2
    have y0 := cell_onV p0 hG.out.low
    have y1 := cell_onV p1 hG.out.low
    have y2 := cell_onV p2 hG.out.low
    clear p0 p1 p2 lc hx hxv hxin hrl
    go_upto_region 5 with fail
    have BL := Joins.below_alloc1 wr (.cells #[.int .i64 x.start, .bool x.up, .slice Ax x.ships.length cx] 38)
    have KN := Blk.new wr #[.int .i64 x.start, .bool x.up, .slice Ax x.ships.length cx] 38
    obtain ⟨w6, hw6⟩ : ∃ w6, w6 = wr.alloc (.cells #[.int .i64 x.start, .bool x.up, .slice Ax x.ships.length cx] 38) := ⟨_, rfl⟩
    rw [← hw6] at BL KN ⊢
    have G6 := Lib.hid (hG.out.below BL)
    have KP := Lib.hid KN
    clear hw6 BL KN y0 y1 y2 hzs
    have FP0 := Lib.hid (show w6.cell? ⟨wr.heap.size, 0, none⟩ = some (.int .i64 x.start) from KP.out.cell 0)
    have vFP0 := FP0.out
    have FP1 := Lib.hid (show w6.cell? ⟨wr.heap.size, 1, none⟩ = some (.bool x.up) from KP.out.cell 1)
    have vFP1 := FP1.out
    have FP2 := Lib.hid (show w6.cell? ⟨wr.heap.size, 2, none⟩ = some (.slice Ax x.ships.length cx) from KP.out.cell 2)
    have vFP2 := FP2.out
    have FAR := Lib.hid (fun (e : (Value.slice Qa rs.length Qc).ownBlock = some wr.heap.size) => Nat.lt_irrefl _ (own_ge hG.out.own.1 e).2)
    refine wp_region_held_drew (S := (fun w' => w'.cell? ⟨wr.heap.size, 0, none⟩ = some (.int .i64 x.start) ∧ w'.cell? ⟨wr.heap.size, 1, none⟩ = some (.bool x.up) ∧ w'.cell? ⟨wr.heap.size, 2, none⟩ = some (.slice Ax x.ships.length cx))) (by kernel_rfl) ?_ (fun hHeld => ?_)
    · (try dsimp only); go_keep
    refine tk 0 ?_
    (try simp only [Act.put]); (try simp only [List.setIfInBounds_toArray]); (try simp only [List.set_cons_succ]); (try simp only [List.set_cons_zero])
    refine tk 1 ?_
    (try simp only [Act.put]); (try simp only [List.setIfInBounds_toArray]); (try simp only [List.set_cons_succ]); (try simp only [List.set_cons_zero])
    refine tk 2 ?_
    (try simp only [Act.put]); (try simp only [List.setIfInBounds_toArray]); (try simp only [List.set_cons_succ]); (try simp only [List.set_cons_zero])
    refine tk 3 ?_
    (try simp only [Act.put]); (try simp only [List.setIfInBounds_toArray]); (try simp only [List.set_cons_succ]); (try simp only [List.set_cons_zero])
    refine tk 4 ?_
    (try simp only [Act.put]); (try simp only [List.setIfInBounds_toArray]); (try simp only [List.set_cons_succ]); (try simp only [List.set_cons_zero])
    refine tk 6 ?_
    (try simp only [Act.put]); (try simp only [List.setIfInBounds_toArray]); (try simp only [List.set_cons_succ]); (try simp only [List.set_cons_zero])
    refine tk 7 ?_
    (try simp only [Act.put]); (try simp only [List.setIfInBounds_toArray]); (try simp only [List.set_cons_succ]); (try simp only [List.set_cons_zero])
    refine wpAnyH_ready (rs := [5]) (by kernel_rfl) (by simp) ?_
    refine AllReadyH.cons rfl (fun K hK => ?_) (AllReadyH.nil)
    rw [if_pos (by rfl)]
    go_simp
    have L0 := Liv.build (Liv.nil w6) 0 [] (by simp)
    have hd := (Below.refl (w6.alloc (.cells #[] 3)).heap.size (w6.alloc (.cells #[] 3))).drew
    obtain ⟨x7, hx7⟩ : ∃ x7, x7 = (w6.alloc (.cells #[] 3)).drew := ⟨_, rfl⟩
    rw [← hx7] at hd ⊢
    have L1 : Liv w6 x7 [(0, .slice (some ⟨w6.heap.size, 0, none⟩) 0 0, [])] := Liv.mk (fun p hp => own_below (L0.own p hp) hd) L0.ap (L0.low.trans (hd.mono L0.low.size))
    have QS := Lib.hid (show x7.cell? ⟨wr.heap.size, 0, none⟩ = some (.int .i64 x.start) ∧ x7.cell? ⟨wr.heap.size, 1, none⟩ = some (.bool x.up) ∧ x7.cell? ⟨wr.heap.size, 2, none⟩ = some (.slice Ax x.ships.length cx) from ⟨cell_onV FP0.out L1.low, cell_onV FP1.out L1.low, cell_onV FP2.out L1.low⟩)
    have RS := Lib.hid (HXI.out.below (G6.out.low.trans (L1.low.mono G6.out.low.size)))
    have L1 := Lib.hid L1
    clear hx7 hd L0
    refine hK.out _ _ QS.out (fun hHeld => ?_)
    clear hK K
    (try simp only [Act.put]); (try simp only [List.setIfInBounds_toArray]); (try simp only [List.set_cons_succ]); (try simp only [List.set_cons_zero])
    refine wpAnyH_ready (rs := [8]) (by kernel_rfl) (by simp) ?_
    refine AllReadyH.cons rfl (fun K hK => ?_) (AllReadyH.nil)
    refine step_liv L1.out (L' := []) (τ := 0) (v := .slice (some ⟨w6.heap.size, 0, none⟩) 0 0) (u := .slice Ax x.ships.length cx) (l := []) (m := x.ships) 1 (by rfl) _ _ (by rfl) (by rfl) (by rfl) List.mem_cons_self RS.out (by simp; omega) (fun q hq => by cases hq) ?_
    intro v8 x8 hl8
    have hr8 := hl8.own _ List.mem_cons_self
    have LB := Lib.hid hl8.low
    obtain ⟨V5, c5, e5⟩ := own_form hr8
    simp only [List.nil_append] at e5 hr8
    subst e5
    have OR := Lib.hid hr8
    have QS := Lib.hid (show x8.cell? ⟨wr.heap.size, 0, none⟩ = some (.int .i64 x.start) ∧ x8.cell? ⟨wr.heap.size, 1, none⟩ = some (.bool x.up) ∧ x8.cell? ⟨wr.heap.size, 2, none⟩ = some (.slice Ax x.ships.length cx) from ⟨cell_onV FP0.out LB.out, cell_onV FP1.out LB.out, cell_onV FP2.out LB.out⟩)
    clear hl8 hr8 RS
    refine hK.out _ _ QS.out (fun hHeld => ?_)
    clear hK K
    (try simp only [Act.put]); (try simp only [List.setIfInBounds_toArray]); (try simp only [List.set_cons_succ]); (try simp only [List.set_cons_zero])
    refine tk 9 ?_
    (try simp only [Act.put]); (try simp only [List.setIfInBounds_toArray]); (try simp only [List.set_cons_succ]); (try simp only [List.set_cons_zero])
    refine wpAnyH_ready (rs := [10]) (by kernel_rfl) (by simp) ?_
    refine AllReadyH.cons rfl (fun K hK => ?_) (AllReadyH.nil)
    rw [if_pos (by rfl)]
    go_simp
    have BX := Joins.below_alloc1 x8 (.cells #[.int .i64 x.start, .bool x.up, .slice V5 x.ships.length c5] 38)
    have OA := Lib.hid (own_below OR.out BX)
    have LC := Lib.hid (LB.out.trans (BX.mono LB.out.size))
    have QS := Lib.hid (show (x8.alloc (.cells #[.int .i64 x.start, .bool x.up, .slice V5 x.ships.length c5] 38)).cell? ⟨wr.heap.size, 0, none⟩ = some (.int .i64 x.start) ∧ (x8.alloc (.cells #[.int .i64 x.start, .bool x.up, .slice V5 x.ships.length c5] 38)).cell? ⟨wr.heap.size, 1, none⟩ = some (.bool x.up) ∧ (x8.alloc (.cells #[.int .i64 x.start, .bool x.up, .slice V5 x.ships.length c5] 38)).cell? ⟨wr.heap.size, 2, none⟩ = some (.slice Ax x.ships.length cx) from by obtain ⟨e0, e1, e2⟩ := QS.out; exact ⟨cell_onV e0 BX, cell_onV e1 BX, cell_onV e2 BX⟩)
    have HNB := Lib.hid (World.news_of_block (heap_alloc_new x8 (.cells #[.int .i64 x.start, .bool x.up, .slice V5 x.ships.length c5] 38)))
    have GA := Lib.hid (G6.out.below LC.out)
    clear BX
    refine hK.out _ _ QS.out (fun hHeld => ?_)
    clear hK K
    (try simp only [Act.put]); (try simp only [List.setIfInBounds_toArray]); (try simp only [List.set_cons_succ]); (try simp only [List.set_cons_zero])
    refine wpAnyH_ready (rs := [11]) (by kernel_rfl) (by simp) ?_
    refine AllReadyH.cons rfl (fun K hK => ?_) (AllReadyH.nil)
    refine step_append_lies _ (by rfl) _ _ _ (by rfl) w.heap.size 38 i0 _ 3 40 Try.underlying26 HI.out.1 HI.out.2.1 HI.out.2.2.1 HI.out.2.2.2 rfl (by omega) (.slice Qa rs.length Qc) rs.length (rs.flatMap LockR.cells) (by rfl) GA.out.own.1 ⟨x8.heap.size, 0, none⟩ 1 1 (LockR.cells (⟨x.start, x.up, .slice V5 x.ships.length c5, x.ships⟩ : LockR)) (by rfl) (by rfl) HNB.out (lock_one _ rfl) (by omega) (by have := HRL.out; unfold maxLen; omega) (by have := HRL.out; omega) GA.out.low.size _ rfl ?_
    intro g4 cap4 w4 hown4 hgrow4 hor4 hlt4
    have GX := Lib.hid (G6.out.next LC.out OA.out hown4 hgrow4 hor4)
    have QS := Lib.hid (show w4.cell? ⟨wr.heap.size, 0, none⟩ = some (.int .i64 x.start) ∧ w4.cell? ⟨wr.heap.size, 1, none⟩ = some (.bool x.up) ∧ w4.cell? ⟨wr.heap.size, 2, none⟩ = some (.slice Ax x.ships.length cx) from by obtain ⟨e0, e1, e2⟩ := QS.out; exact ⟨(hgrow4.cell_far _ (World.block_lt_of_cell? _ _ e0) (fun e => FAR.out e.symm)).trans e0, (hgrow4.cell_far _ (World.block_lt_of_cell? _ _ e1) (fun e => FAR.out e.symm)).trans e1, (hgrow4.cell_far _ (World.block_lt_of_cell? _ _ e2) (fun e => FAR.out e.symm)).trans e2⟩)
    clear hown4 hgrow4 hor4 hlt4
    refine hK.out _ _ QS.out (fun hHeld => ?_)
    clear hK K
    (try simp only [Act.put]); (try simp only [List.setIfInBounds_toArray]); (try simp only [List.set_cons_succ]); (try simp only [List.set_cons_zero])
    refine tk 12 ?_
    (try simp only [Act.put]); (try simp only [List.setIfInBounds_toArray]); (try simp only [List.set_cons_succ]); (try simp only [List.set_cons_zero])
    refine wpAnyH_done (by kernel_rfl) ?_ _
    have SN := Lib.hid (show (rs ++ [(⟨x.start, x.up, .slice V5 x.ships.length c5, x.ships⟩ : LockR)]).map LockR.d = (rows.take (k + 1)).map LockR.d by rw [List.map_append, hS.out, take_snoc' rows k x HX.out, List.map_append]; rfl)
    have hrk := HRL.out
    rw [hrk] at GX ⊢
    go_wp2
    go_roundw
    case rel => exact ⟨k + 1, rs ++ [(⟨x.start, x.up, .slice V5 x.ships.length c5, x.ships⟩ : LockR)], by omega, by simp [hrk], by go_num, SN, GX⟩
    case measure => simp [intOf]; omega
end Go.Proofs.Ytlddampjbmklkaa
namespace Go.Proofs.Ytlddampjbmklkaa
open Go.RowKit
set_option maxRecDepth 100000
theorem nextI_none {k : ChamberD} {rows : List LockR} {up : Bool} {ready : Int} (h1 : chamB k = true) (h2 : inB ready 0 2880 = true) (h3 : rows.length = 0) : nextI k (rows.map LockR.d) up ready = ready := by
  rw [nextI_ok h1 h2, List.eq_nil_of_length_eq_zero h3]; rfl
theorem nextI_last {k : ChamberD} {rows : List LockR} {up : Bool} {ready : Int} {x : LockR} (h1 : chamB k = true) (h2 : inB ready 0 2880 = true) (h3 : rows[rows.length - 1]? = some x) :
    nextI k (rows.map LockR.d) up ready = if inB x.start 0 2880 = true then (if x.up = up then max ready (x.start + 2 * k.minutes) else max ready (x.start + k.minutes)) else -1 := by
  have e : (rows.map LockR.d).getLast? = some x.d := by rw [List.getLast?_eq_getElem?, List.length_map, List.getElem?_map, h3]; rfl
  rw [nextI_ok h1 h2, e]
  rfl
set_option maxHeartbeats 8000000 in
theorem specNextTurn (k : ChamberD) (v : Value) (rows : List LockR) (up : Bool) (ready : Int) (w : World) (h : RdLocks w v rows) :
    Calls Try.prog 32 #[k.val, v, .bool up, .int .i64 ready] w fun e w' => e = .returned (.int .i64 (nextI k (rows.map LockR.d) up ready)) ∧ Below w.heap.size w w' := by
  have RD := Lib.hid h
  have hl := h.1.1
  obtain ⟨A, c, rfl⟩ := h.1.form
  clear h
  obtain ⟨W0, hW0⟩ : ∃ W0, W0 = (w.alloc (.cells #[.int .i64 k.length, .int .i64 k.lanes, .int .i64 k.minutes] 24)) := ⟨_, rfl⟩
  have B := Lib.hid (Joins.below_alloc1 w (.cells #[.int .i64 k.length, .int .i64 k.lanes, .int .i64 k.minutes] 24))
  have Kk := Lib.hid (Blk.new w #[.int .i64 k.length, .int .i64 k.lanes, .int .i64 k.minutes] 24)
  have HW0 := Lib.hid hW0
  rw [← hW0] at B Kk
  clear hW0
  obtain ⟨b1, hb1⟩ : ∃ b, chamB k = b := ⟨_, rfl⟩
  have Hb1 := Lib.hid hb1
  obtain ⟨b2, hb2⟩ : ∃ b, inB ready 0 2880 = b := ⟨_, rfl⟩
  have Hb2 := Lib.hid hb2
  clear hb1 hb2
  go_enter Try.func32, Try.ntmps32
  have vk0 : W0.cell? ⟨w.heap.size, 0, none⟩ = some (.int .i64 k.length) := Kk.out.cell 0
  have vk1 : W0.cell? ⟨w.heap.size, 1, none⟩ = some (.int .i64 k.lanes) := Kk.out.cell 1
  have vk2 : W0.cell? ⟨w.heap.size, 2, none⟩ = some (.int .i64 k.minutes) := Kk.out.cell 2
  go_wp2_with fail
  rw [← HW0.out]
  clear vk0 vk1 vk2
  refine (specChamberOk k _).mono ?_
  rw [Hb1.out]
  rintro e w1 ⟨rfl, hb1⟩
  have B1 := Lib.hid (B.out.trans (hb1.mono B.out.size))
  have Kk_1 := Lib.hid (Kk.out.below hb1)
  clear hb1
  cases b1 with
  | false =>
    have E := Lib.hid (nextI_bad (l := rows.map LockR.d) (up := up) (ready := ready) (show ¬ (chamB k = true ∧ inB ready 0 2880 = true) by rw [Hb1.out]; simp))
    go_wp2
    go_ret
    exact ⟨ret_int E.out.symm, B1.out⟩
  | true =>
  go_wp2_with fail
  refine (l01In_any _ _ _ _).mono ?_
  rw [Hb2.out]
  rintro e w2 ⟨rfl, rfl⟩
  cases b2 with
  | false =>
    have E := Lib.hid (nextI_bad (k := k) (l := rows.map LockR.d) (up := up) (show ¬ (chamB k = true ∧ inB ready 0 2880 = true) by rw [Hb2.out]; simp))
    go_wp2
    go_ret
    exact ⟨ret_int E.out.symm, B1.out⟩
  | true =>
  by_cases h0 : rows.length = 0
  · have E := Lib.hid (nextI_none (up := up) Hb1.out Hb2.out h0)
    have d0 : decide ((rows.length : Int) = 0) = true := decide_eq_true (by omega)
    go_wp2
    go_ret
    exact ⟨ret_int E.out.symm, B1.out⟩
  obtain ⟨x, hx⟩ : ∃ x, rows[rows.length - 1]? = some x := ⟨_, List.getElem?_eq_getElem (by omega)⟩
  have E0 := Lib.hid (nextI_last (up := up) Hb1.out Hb2.out hx)
  obtain ⟨kl0, kl1, ka0, ka1, km0, km1⟩ := chamB_true Hb1.out
  obtain ⟨hs, hin⟩ := RD.out
  obtain ⟨Ax, cx, hxv⟩ := (hin x (List.mem_of_getElem? hx)).at
  rcases hs.2 with ⟨he, _⟩ | ⟨g, o, c', e, lpos, lcap, lc⟩
  · rw [he] at h0; exact absurd rfl h0
  injection e with ea e2 e3
  subst ea e3
  obtain ⟨p0, p1, p2⟩ := LockR.at lc _ x hx
  rw [hxv] at p2
  obtain ⟨n, hn⟩ : ∃ n, rows.length = n + 1 := ⟨rows.length - 1, by omega⟩
  rw [show rows.length - 1 = n by omega] at p0 p1 p2
  rw [hn] at hl
  have y0 := cell_onV p0 B1.out
  have y1 := cell_onV p1 B1.out
  have y2 := cell_onV p2 B1.out
  have vk2 : w1.cell? ⟨w.heap.size, 2, none⟩ = some (.int .i64 k.minutes) := Kk_1.out.cell 2
  obtain ⟨b3, hb3⟩ : ∃ b, inB x.start 0 2880 = b := ⟨_, rfl⟩
  have Hb3 := Lib.hid hb3
  obtain ⟨b4, hb4⟩ : ∃ b, (x.up == up) = b := ⟨_, rfl⟩
  have Hb4 := Lib.hid hb4
  clear hs hin p0 p1 p2 lc lcap lpos e2 hx hxv hb3 hb4
  try rw [hn]
  have d0 : decide (((n + 1 : Nat) : Int) = 0) = false := decide_eq_false (by omega)
  have wsub : IntKind.i64.wrap (((n + 1 : Nat) : Int) - 1) = (n : Int) := by rw [IntKind.wrap_i64]; omega
  go_upto_region 6 with fail
  have BL := Joins.below_alloc1 w1 (.cells #[.int .i64 x.start, .bool x.up, .slice Ax x.ships.length cx] 38)
  have KN := Blk.new w1 #[.int .i64 x.start, .bool x.up, .slice Ax x.ships.length cx] 38
  obtain ⟨w6, hw6⟩ : ∃ w6, w6 = w1.alloc (.cells #[.int .i64 x.start, .bool x.up, .slice Ax x.ships.length cx] 38) := ⟨_, rfl⟩
  rw [← hw6] at BL KN ⊢
  have B6 := Lib.hid (B1.out.trans (BL.mono B1.out.size))
  have z0 : w6.cell? ⟨w1.heap.size, 0, none⟩ = some (.int .i64 x.start) := KN.cell 0
  have z1 : w6.cell? ⟨w1.heap.size, 1, none⟩ = some (.bool x.up) := KN.cell 1
  have z2 : w6.cell? ⟨w.heap.size, 2, none⟩ = some (.int .i64 k.minutes) := cell_onV vk2 BL
  clear hw6 BL KN y0 y1 y2 vk2 d0 wsub
  go_wp2_with fail
  refine (l01In_any _ _ _ _).mono ?_
  rw [Hb3.out]
  rintro e w3 ⟨rfl, rfl⟩
  cases b3 with
  | false =>
    have E := Lib.hid (E0.out.trans (show _ = (-1 : Int) by rw [Hb3.out, if_neg (by simp)]))
    go_wp2
    go_ret
    exact ⟨ret_int E.out.symm, B6.out⟩
  | true =>
  have hin := of_decide_eq_true (show decide (0 ≤ x.start ∧ x.start ≤ 2880) = true from Hb3.out)
  cases b4 with
  | false =>
    have hne : ¬ x.up = up := fun h => by have := Hb4.out; rw [h] at this; simp at this
    have E := Lib.hid (E0.out.trans (show _ = max ready (x.start + k.minutes) by rw [Hb3.out, if_pos rfl, if_neg hne]))
    have q : (x.up == up) = false := Hb4.out
    have wr1 : IntKind.i64.wrap (x.start + k.minutes) = x.start + k.minutes := by rw [IntKind.wrap_i64]; omega
    clear hne
    go_wp2
    all_goals (go_ret; exact ⟨ret_int (by first | exact E.out.symm | (rw [E.out]; omega)), B6.out⟩)
  | true =>
    have he : x.up = up := by simpa using Hb4.out
    have E := Lib.hid (E0.out.trans (show _ = max ready (x.start + 2 * k.minutes) by rw [Hb3.out, if_pos rfl, if_pos he]))
    have q : (x.up == up) = true := Hb4.out
    have wr0 : IntKind.i64.wrap (2 * k.minutes) = 2 * k.minutes := by rw [IntKind.wrap_i64]; omega
    have wr1 : IntKind.i64.wrap (x.start + 2 * k.minutes) = x.start + 2 * k.minutes := by rw [IntKind.wrap_i64]; omega
    clear he
    go_wp2
    all_goals (go_ret; exact ⟨ret_int (by first | exact E.out.symm | (rw [E.out]; omega)), B6.out⟩)
end Go.Proofs.Ytlddampjbmklkaa
