
/- What LocksLaw rests on, part 23: contracts and mathematics. -/
import Derived.Test.YtlddampjbmklkaaLk22
import Derived.Test.YtlddampjbmklkaaLk18
import Derived.Test.YtlddampjbmklkaaLk16
import Derived.Test.YtlddampjbmklkaaLk20
import Derived.Test.YtlddampjbmklkaaLk6
namespace Go.Proofs.Ytlddampjbmklkaa
open Go.RowKit
set_option maxRecDepth 100000
theorem implAddG {wd w : World} {k : ChamberD} {q : Value} {rs : List LockR} {g : Nat} (hg : wd.heap.size = g) (st : Int) (up : Bool) (vs : Value) (s : List Int) (h : CycAt wd w k q rs) (hs : SlInt w vs s) (hn : s.length ≤ 9000000) (hr : rs.length ≤ 9000000) :
    Calls Try.prog 44 #[.pointer (some ⟨g, 0, none⟩), .int .i64 st, .bool up, vs] w fun e w' => ∃ q' u, e = .returned (.tuple #[]) ∧ CycAt wd w' k q' (rs ++ [⟨st, up, u, s⟩]) := by
  subst hg
  exact implAdd st up vs s h hs hn hr
/-- What comes ahead of the new locking, for any chamber. -/
def midW (k : ChamberD) (l : List LockD) (up : Bool) (a : Int) : List LockD := match l.getLast? with
  | some g => if g.up = up then [⟨IntKind.i64.wrap (a - k.minutes), !up, []⟩] else []
  | none => []
theorem midW_none {k : ChamberD} {rows : List LockR} {up : Bool} {a : Int} (h : rows.length = 0) : midW k (rows.map LockR.d) up a = [] := by rw [List.eq_nil_of_length_eq_zero h]; rfl
theorem midW_last {k : ChamberD} {rows : List LockR} {up : Bool} {a : Int} {z : LockR} {n : Nat} (hn : rows.length = n + 1) (h : rows[n]? = some z) : midW k (rows.map LockR.d) up a = if z.up = up then [⟨IntKind.i64.wrap (a - k.minutes), !up, []⟩] else [] := by
  have e : (rows.map LockR.d).getLast? = some z.d := by rw [List.getLast?_eq_getElem?, List.length_map, List.getElem?_map, hn, Nat.add_sub_cancel, h]; rfl
  unfold midW
  rw [e]
  rfl
theorem midW_eq {k : ChamberD} {l : List LockD} {up : Bool} {a : Int} (hk : chamB k = true) (h0 : 0 ≤ a) (h1 : a ≤ 3120) : midW k l up a = midL k l up a := by
  obtain ⟨-, -, -, -, m0, m1⟩ := chamB_true hk
  unfold midW midL
  rw [show IntKind.i64.wrap (a - k.minutes) = a - k.minutes by rw [IntKind.wrap_i64]; omega]
  cases l.getLast? <;> rfl
theorem lockPlanB_part {k : ChamberD} {fl : List ShipD} {l m : List LockD} (h : lockPlanB k fl (l ++ m) = true) : lockPlanB k fl l = true := by
  have hf := lockPlanB_from h
  rw [planFrom_app, Bool.and_eq_true] at hf
  obtain ⟨hc, hl⟩ := lockPlanB_facts h
  rw [List.length_append] at hl
  refine lockPlanB_mk hc ?_ (by omega) hf.1
  unfold lockPlanB at h
  simp only [Bool.and_eq_true] at h
  exact h.1.1.2
/-- The program tests the whole only. -/
theorem append_same {k : ChamberD} {fl : List ShipD} {l : List LockD} {up : Bool} {ready a : Int} {s : List Int} (ha : nextI k l up ready = a) :
    appendO k fl l up ready s = if lockPlanB k fl (l ++ midW k l up a ++ [⟨a, up, s⟩]) = true then some (l ++ midW k l up a ++ [⟨a, up, s⟩]) else none := by
  have h3 : a ≤ 3120 := by rw [← ha]; exact nextI_le
  by_cases h : lockPlanB k fl (l ++ midW k l up a ++ [⟨a, up, s⟩]) = true
  · rw [if_pos h]
    have hc := (lockPlanB_facts h).1
    have h0 : 0 ≤ a := ((plan_sorted hc (lockPlanB_from h)).1 ⟨a, up, s⟩ (by simp)).1
    have e := midW_eq (l := l) (up := up) hc h0 h3
    have hp : lockPlanB k fl l = true := by rw [List.append_assoc] at h; exact lockPlanB_part h
    rw [e] at h ⊢
    have h' : lockPlanB k fl (appendL k l up a s) = true := h
    rw [appendO_yes hp (by rw [ha]; exact h0) (by rw [ha]; exact h'), ha]
    rfl
  · rw [if_neg h]
    refine appendO_no ?_
    rintro ⟨h1, h2, h4⟩
    rw [ha] at h2 h4
    refine h ?_
    rw [midW_eq (lockPlanB_facts h1).1 h2 h3]
    exact h4
theorem sl_nil (w : World) : SlInt w (.slice none 0 0) [] := ⟨by simp, .inl ⟨rfl, none, 0, rfl⟩⟩
set_option maxHeartbeats 8000000 in
theorem implLock {wd w : World} {k : ChamberD} {q : Value} {rs : List LockR} {g : Nat} (hg : wd.heap.size = g) (a : Int) (up : Bool) (vs : Value) (s : List Int) (h : CycAt wd w k q rs) (hs : SlInt wd vs s) (hn : s.length ≤ 9000000) (hr : rs.length ≤ 8000000) :
    Calls Try.prog 45 #[.pointer (some ⟨g, 0, none⟩), .int .i64 a, .bool up, vs] w fun e w' => ∃ q' rs', e = .returned (.tuple #[]) ∧ CycAt wd w' k q' rs' ∧ rs'.map LockR.d = rs.map LockR.d ++ midW k (rs.map LockR.d) up a ++ [⟨a, up, s⟩] := by
  obtain ⟨Qa, Qc, rfl⟩ := h.form
  have H := Lib.hid h
  have HS := Lib.hid hs
  have HG := Lib.hid hg
  obtain ⟨As, cs, rfl⟩ := hs.at
  have c3 : w.cell? ⟨g, 3, none⟩ = some (.slice Qa rs.length Qc) := by rw [← hg]; exact h.blk.cell 3
  obtain ⟨m, hm⟩ : ∃ m, rs.length = m := ⟨_, rfl⟩
  have HM := Lib.hid hm
  have SL := Lib.hid (own_sl lockRLen h.own.1 (by omega))
  rw [hm] at c3 hr
  clear h hs hg hm
  by_cases h0 : m = 0
  · subst h0
    have E := Lib.hid (midW_none (k := k) (up := up) (a := a) HM.out)
    go_enter Try.func45, Try.ntmps45
    go_wp2_with fail
    refine (implAddG HG.out a up _ s H.out (HS.out.below H.out.low) hn (by rw [HM.out]; omega)).mono ?_
    rintro e w1 ⟨q1, u1, rfl, h1⟩
    have H1 := Lib.hid h1
    clear h1
    go_wp2
    exact end0 rfl rfl ⟨_, _, rfl, H1.out, by rw [E.out, List.append_nil, List.map_append]; rfl⟩
  obtain ⟨n, hnm⟩ : ∃ n, m = n + 1 := ⟨m - 1, by omega⟩
  obtain ⟨z, hz⟩ : ∃ z, rs[n]? = some z := ⟨_, List.getElem?_eq_getElem (by rw [HM.out]; omega)⟩
  have E0 := Lib.hid (midW_last (k := k) (up := up) (a := a) (show rs.length = n + 1 by rw [HM.out]; exact hnm) hz)
  rcases SL.out.2 with ⟨he, _⟩ | ⟨gl, ol, cl', e, lpos, lcap, lc⟩
  · have := HM.out; rw [he] at this; exact absurd this.symm h0
  injection e with ea e2 e3
  subst ea
  have z1 := (LockR.at lc n z hz).2.1
  clear e2 e3 lpos lcap lc hz
  have g0 : decide (0 < m) = true := decide_eq_true (by omega)
  have g1 : 0 < m := by omega
  have wn : IntKind.i64.wrap ((m : Int) - 1) = (n : Int) := by rw [IntKind.wrap_i64]; omega
  have hnl' : n < m := by omega
  clear hnm h0
  cases hbu : (z.up == up) with
  | false =>
    have hne : ¬ z.up = up := fun h => by rw [h] at hbu; simp at hbu
    have E := Lib.hid (E0.out.trans (if_neg hne))
    clear hne
    go_enter Try.func45, Try.ntmps45
    go_wp2_with fail
    refine (implAddG HG.out a up _ s H.out (HS.out.below H.out.low) hn (by rw [HM.out]; omega)).mono ?_
    rintro e w1 ⟨q1, u1, rfl, h1⟩
    have H1 := Lib.hid h1
    clear h1 c3 z1
    go_wp2
    exact end0 rfl rfl ⟨_, _, rfl, H1.out, by rw [E.out, List.append_nil, List.map_append]; rfl⟩
  | true =>
    have hne : z.up = up := by simpa using hbu
    obtain ⟨b, wb⟩ : ∃ b, IntKind.i64.wrap (a - k.minutes) = b := ⟨_, rfl⟩
    have E := Lib.hid (E0.out.trans ((if_pos hne).trans (by rw [wb])) : midW k (rs.map LockR.d) up a = [⟨b, !up, []⟩])
    have c2 : w.cell? ⟨g, 2, none⟩ = some (.int .i64 k.minutes) := by rw [← HG.out]; exact H.out.blk.cell 2
    clear hne
    go_enter Try.func45, Try.ntmps45
    go_wp2_with fail
    refine (implAddG HG.out b (!up) _ [] H.out (sl_nil _) (by simp) (by rw [HM.out]; omega)).mono ?_
    rintro e w1 ⟨q1, u1, rfl, h1⟩
    have H1 := Lib.hid h1
    clear h1 c3 z1 c2
    go_wp2_with fail
    refine (implAddG HG.out a up _ s H1.out (HS.out.below H1.out.low) hn (by rw [List.length_append, HM.out]; simp; omega)).mono ?_
    rintro e w2 ⟨q2, u2, rfl, h2⟩
    have H2 := Lib.hid h2
    clear h2
    go_wp2
    exact end0 rfl rfl ⟨_, _, rfl, H2.out, by rw [E.out, List.map_append, List.map_append]; rfl⟩
end Go.Proofs.Ytlddampjbmklkaa
namespace Go.Proofs.Ytlddampjbmklkaa
open Go.RowKit
set_option maxRecDepth 100000
theorem midW_small (k : ChamberD) (l : List LockD) (up : Bool) (a : Int) : ((midW k l up a).length : Int) ≤ 1 ∧ bulkD (midW k l up a) = 0 := by
  unfold midW
  split
  · split <;> simp [bulkD]
  · simp [bulkD]
set_option maxHeartbeats 16000000 in
theorem implAppendLocking (k : ChamberD) (yfl : Value) (fl : List ShipD) (yrows : Value) (rows : List LockR) (up : Bool) (rd : Int) (ysh : Value) (sh : List Int) (w : World) (rfl : SlShip w yfl fl) (rrows : RdLocks w yrows rows) (rsh : SlInt w ysh sh) (ffl : ∀ x ∈ fl, ShipD.wf x) (hn : (rows.length : Int) + bulkLock rows ≤ 4000000) (hsh : sh.length ≤ 4000000) :
    Calls Try.prog 13 #[k.val, yfl, yrows, .bool up, .int .i64 rd, ysh] w (NewPlan (appendO k fl (rows.map LockR.d) up rd sh) w) := by
  have Rfl := Lib.hid rfl
  obtain ⟨Afl, cfl, rfl⟩ := SlOf.form rfl
  clear rfl
  have Nfl := Lib.hid ffl
  clear ffl
  have Rrows := Lib.hid rrows
  obtain ⟨Arows, crows, rfl⟩ := SlOf.form rrows.1
  clear rrows
  have Rsh := Lib.hid rsh
  obtain ⟨Ash, csh, rfl⟩ := SlOf.form rsh
  clear rsh
  obtain ⟨W0, hW0⟩ : ∃ W0, W0 = (w.alloc (.cells #[.int .i64 k.length, .int .i64 k.lanes, .int .i64 k.minutes] 24)) := ⟨_, rfl⟩
  have B := Lib.hid (Joins.below_alloc1 w (.cells #[.int .i64 k.length, .int .i64 k.lanes, .int .i64 k.minutes] 24))
  have Kk := Lib.hid (Blk.new w #[.int .i64 k.length, .int .i64 k.lanes, .int .i64 k.minutes] 24)
  have HW0 := Lib.hid hW0
  rw [← hW0] at B Kk
  clear hW0
  have hz := Lib.hid (show W0.heap.size = w.heap.size + 1 by rw [HW0.out]; simp)
  have hbp := bulkLock_pos rows
  obtain ⟨l, hld⟩ : ∃ l, rows.map LockR.d = l := ⟨_, rfl⟩
  have HLD := Lib.hid hld
  rw [hld]
  obtain ⟨a, ha⟩ : ∃ a, nextI k l up rd = a := ⟨_, rfl⟩
  have HA := Lib.hid ha
  have hap := append_same (fl := fl) (s := sh) ha
  obtain ⟨l4, hl4⟩ : ∃ x, l ++ midW k l up a ++ [⟨a, up, sh⟩] = x := ⟨_, rfl⟩
  have HL4 := Lib.hid hl4
  rw [hl4] at hap
  have HAP := Lib.hid hap
  have hb4 : (l4.length : Int) + bulkD l4 ≤ (rows.length : Int) + bulkLock rows + 2 + sh.length := by
    have h := midW_small k l up a
    rw [← hl4, List.length_append, List.length_append, bulkD_app, bulkD_app, h.2, ← hld, bulkD_map, List.length_map]
    rw [hld]
    have e : bulkD [(⟨a, up, sh⟩ : LockD)] = sh.length := by simp [bulkD]
    rw [e]
    push_cast
    have := h.1
    simp
    omega
  have HB4 := Lib.hid (show (l4.length : Int) + bulkD l4 ≤ 9000000 by omega)
  obtain ⟨b1, hb1⟩ : ∃ b, lockPlanB k fl l4 = b := ⟨_, rfl⟩
  have Hb1 := Lib.hid hb1
  clear hb1 ha hld hap hl4 hb4
  obtain ⟨m, hm⟩ : ∃ m, rows.length = m := ⟨_, rfl⟩
  have HM := Lib.hid hm
  rw [hm] at Rrows hn
  try rw [hm]
  clear hm
  obtain ⟨W1, hW1⟩ : ∃ W, W = W0.alloc (.cells #[.int .i64 k.length, .int .i64 k.lanes, .int .i64 k.minutes, .slice none 0 0] 72) := ⟨_, rfl⟩
  have C0 := Lib.hid (show CycAt W0 W1 k (.slice none 0 0) [] by rw [hW1]; exact CycAt.new W0 k)
  have HW1 := Lib.hid hW1
  have HRL := Lib.hid Rrows.out.1.1
  clear hW1
  go_enter Try.func13, Try.ntmps13
  go_upto_region 2 with fail
  rw [← HW0.out]
  try rw [← HW1.out]
  go_wp2
  go_loopw [21] (fun t wr => ∃ (i : Nat) (q : Value) (rs : List LockR), i ≤ m ∧ t = .int .i64 (i : Int) ∧ Hid (rs.map LockR.d = (rows.take i).map LockR.d) ∧ Hid (CycAt W0 wr k q rs)) (fun t _ => m - (intOf t).toNat)
  case atStart => exact ⟨0, _, [], Nat.zero_le _, rfl, Lib.hid rfl, C0⟩
  case round =>
    obtain ⟨i, q, rs, hi, rfl, hS, hC⟩ := hrel
    have BR := Lib.hid (B.out.trans (hC.out.low.mono B.out.size))
    have hrs : rs.length = i := by have h := congrArg List.length hS.out; rw [List.length_map, List.length_map, List.length_take, HM.out] at h; omega
    have HRS := Lib.hid hrs
    clear hrs
    have hml : (m : Int) ≤ 4000000 := by omega
    by_cases hlt : i < m
    rotate_left
    · obtain rfl : i = m := by omega
      have E1 := Lib.hid (show rs.map LockR.d = l by have := hS.out; rwa [← HM.out, List.take_length, HLD.out] at this)
      have KR := Lib.hid (Kk.out.below hC.out.low)
      have vk0 : wr.cell? ⟨w.heap.size, 0, none⟩ = some (.int .i64 k.length) := KR.out.cell 0
      have vk1 : wr.cell? ⟨w.heap.size, 1, none⟩ = some (.int .i64 k.lanes) := KR.out.cell 1
      have vk2 : wr.cell? ⟨w.heap.size, 2, none⟩ = some (.int .i64 k.minutes) := KR.out.cell 2
      go_wp2_with fail
      clear vk0 vk1 vk2
      refine (implNextTurn k _ rows up rd _ (Rrows.out.below BR.out)).mono ?_
      rw [HLD.out, HA.out]
      rintro e w3 ⟨rfl, hb3⟩
      have C3 := Lib.hid (hC.out.below hb3)
      clear hb3
      go_wp2_with fail
      refine (implLock hz.out a up _ sh C3.out (Rsh.out.below B.out) (by omega) (by have := HRS.out; omega)).mono ?_
      rw [E1.out]
      rintro e w4 ⟨q4, rs4, rfl, hc4, hd4⟩
      have hd5 : rs4.map LockR.d = l4 := hd4.trans HL4.out
      have C4 := Lib.hid hc4
      have D4 := Lib.hid hd5
      clear hc4 hd4 hd5
      have HBD := Lib.hid (show (rs4.length : Int) + bulkLock rs4 ≤ 9000000 by have h := HB4.out; rw [← D4.out, bulkD_map, List.length_map] at h; exact h)
      have RD4 := Lib.hid (OwnLocks.parts C4.out.own (by have := HBD.out; omega)).2.1
      obtain ⟨Q4, cq4, rfl⟩ := C4.out.form
      obtain ⟨n4, hn4⟩ : ∃ n, rs4.length = n := ⟨_, rfl⟩
      have HN4 := Lib.hid hn4
      have B4 := Lib.hid (B.out.trans (C4.out.low.mono B.out.size))
      have K4 := Lib.hid (Kk.out.below C4.out.low)
      have c3 : w4.cell? ⟨w.heap.size + 1, 3, none⟩ = some (.slice Q4 n4 cq4) := by rw [← hz.out, ← hn4]; exact C4.out.blk.cell 3
      have LP := Lib.hid (implLockPlanOk k _ fl _ rs4 w4 (Rfl.out.below B4.out) RD4.out Nfl.out HBD.out)
      rw [D4.out, Hb1.out, hn4] at LP
      clear hn4
      have vk0 : w4.cell? ⟨w.heap.size, 0, none⟩ = some (.int .i64 k.length) := K4.out.cell 0
      have vk1 : w4.cell? ⟨w.heap.size, 1, none⟩ = some (.int .i64 k.lanes) := K4.out.cell 1
      have vk2 : w4.cell? ⟨w.heap.size, 2, none⟩ = some (.int .i64 k.minutes) := K4.out.cell 2
      go_wp2_with fail
      clear vk0 vk1 vk2 c3
      refine LP.out.mono ?_
      rintro e w5 ⟨rfl, hb5⟩
      have C5 := Lib.hid (C4.out.below hb5)
      have B5 := Lib.hid (B4.out.trans (hb5.mono B4.out.size))
      clear hb5 LP
      cases b1 with
      | false =>
        have E := Lib.hid (HAP.out.trans (if_neg (by rw [Hb1.out]; simp)))
        go_wp2
        refine bodyPost_ret (v := .tuple #[.slice none 0 0, .bool false]) (by simp [results, Try.results13, go_sem]) rfl ⟨.slice none 0 0, [], by rw [E.out]; rfl, own_none _ _, by rw [E.out]; rfl, B5.out⟩
      | true =>
        have E := Lib.hid (HAP.out.trans (if_pos Hb1.out))
        have c3 : w5.cell? ⟨w.heap.size + 1, 3, none⟩ = some (.slice Q4 n4 cq4) := by rw [← hz.out, ← HN4.out]; exact C5.out.blk.cell 3
        go_wp2
        refine bodyPost_ret (v := .tuple #[.slice Q4 n4 cq4, .bool true]) (by simp [results, Try.results13, go_sem]) rfl ⟨.slice Q4 n4 cq4, rs4, by rw [E.out]; rfl, ?_, by rw [E.out]; exact D4.out, B5.out⟩
        rw [← HN4.out]
        exact C5.out.own.lo (by have := B.out.size; omega)
    obtain ⟨x, hx⟩ : ∃ x, rows[i]? = some x := ⟨_, List.getElem?_eq_getElem (by have := HM.out; omega)⟩
    have HX := Lib.hid hx
    have hxin := Rrows.out.2 x (List.mem_of_getElem? hx)
    obtain ⟨Ax, cx, hxv⟩ := hxin.at
    rw [hxv] at hxin
    have HXL := Lib.hid (show x.ships.length ≤ 9000000 by have := bulkLock_mem (List.mem_of_getElem? hx); omega)
    rcases Rrows.out.1.2 with ⟨he, _⟩ | ⟨gl, ol, cl', e, lpos, lcap, lc⟩
    · rw [he] at hx; simp at hx
    injection e with ea e2 e3
    subst ea
    clear e2 e3 lpos lcap
    obtain ⟨p0, p1, p2⟩ := LockR.at lc i x hx
    rw [hxv] at p2
    have y0 := cell_onV p0 BR.out
    have y1 := cell_onV p1 BR.out
    have y2 := cell_onV p2 BR.out
    have BL := Joins.below_alloc1 wr (.cells #[.int .i64 x.start, .bool x.up, .slice Ax x.ships.length cx] 38)
    have KN := Blk.new wr #[.int .i64 x.start, .bool x.up, .slice Ax x.ships.length cx] 38
    have HXI := Lib.hid (hxin.below (BR.out.trans (BL.mono BR.out.size)))
    clear p0 p1 p2 lc hx hxv hxin
    go_upto_region 5 with fail
    obtain ⟨w6, hw6⟩ : ∃ w6, w6 = wr.alloc (.cells #[.int .i64 x.start, .bool x.up, .slice Ax x.ships.length cx] 38) := ⟨_, rfl⟩
    rw [← hw6] at BL KN HXI ⊢
    have C6 := Lib.hid (hC.out.below BL)
    have u0 : w6.cell? ⟨wr.heap.size, 0, none⟩ = some (.int .i64 x.start) := KN.cell 0
    have u1 : w6.cell? ⟨wr.heap.size, 1, none⟩ = some (.bool x.up) := KN.cell 1
    have u2 : w6.cell? ⟨wr.heap.size, 2, none⟩ = some (.slice Ax x.ships.length cx) := KN.cell 2
    clear hw6 BL KN y0 y1 y2
    go_wp2_with fail
    clear u0 u1 u2
    refine (implAddG hz.out x.start x.up _ x.ships C6.out HXI.out HXL.out (by have := HRS.out; omega)).mono ?_
    rintro e w7 ⟨q7, u7, rfl, hc7⟩
    have C7 := Lib.hid hc7
    clear hc7
    have SN := Lib.hid (show (rs ++ [(⟨x.start, x.up, u7, x.ships⟩ : LockR)]).map LockR.d = (rows.take (i + 1)).map LockR.d by rw [List.map_append, hS.out, take_snoc' rows i x HX.out, List.map_append]; rfl)
    go_wp2
    go_roundw
    case rel => exact ⟨i + 1, q7, _, by omega, by go_num, SN, C7⟩
    case measure => simp [intOf]; omega
end Go.Proofs.Ytlddampjbmklkaa
