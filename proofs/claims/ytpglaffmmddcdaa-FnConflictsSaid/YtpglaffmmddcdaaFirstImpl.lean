
/- Rules of traffic, the program's side: firstAgainst, FirstConflict, IsClear, Clashes: contracts. -/
import Derived.Test.YtpglaffmmddcdaaBetween
import Derived.Test.YtpglaffmmddcdaaRuleMath2
import Derived.Deep.RegionHeld3
import Derived.Deep.DeepCutAuto
namespace Go.Proofs.Ytpglaffmmddcdaa
open Go.RowKit
set_option maxRecDepth 100000

/-- The first k of a list, in the same cells. -/
theorem SlOf.takeR {α : Type} {n : Nat} {cs : α → List Value} {w : World} {A : Option Addr} {c : Nat} {l : List α} (h : SlOf n cs w (.slice A l.length c) l) {k : Nat} (hk : k ≤ l.length) : SlOf n cs w (.slice A k c) (l.take k) := by
  obtain ⟨hl, h⟩ := h
  have hlen : (l.take k).length = k := by rw [List.length_take]; omega
  refine ⟨by omega, ?_⟩
  by_cases hk0 : k = 0
  · left
    subst hk0
    exact ⟨rfl, _, _, rfl⟩
  · right
    rcases h with ⟨he, _⟩ | ⟨g, o, c', e, hp, hc, hx⟩
    · rw [he] at hk; simp at hk; exact absurd hk hk0
    · injection e with e1 e2 e3
      refine ⟨g, o, c', by rw [hlen, e1, e3], by omega, by omega, fun i x hi => ?_⟩
      have hik : i < k := by have := (List.getElem?_eq_some_iff.1 hi).1; omega
      rw [List.getElem?_take_of_lt hik] at hi
      exact hx i x hi


set_option maxHeartbeats 8000000 in
theorem firstAgainst_any (yd0 yd1 : Value) (d : ChartD) (r : RegimeD) (yl : Value) (l : List PassageD) (q : PassageD) (w : World) (rd : RdChart w yd0 yd1 d) (rl : SlPassage w yl l) (fd : ∀ x ∈ d.points, PointD.wf x) (fl : ∀ x ∈ l, PassageD.wf x) (fq : q.wf) (hc : chartB d = true) (hr : regB r = true) :
    Calls Try.prog 48 #[.agg #[yd0, yd1], r.val, yl, q.val] w (fun e w' => e = .returned (.tuple #[.int .i64 (fcI (againC d r l q)), .int .i64 (fcN (againC d r l q))]) ∧ Below w.heap.size w w') := by
  have Rd := Lib.hid rd
  obtain ⟨rd0, rd1⟩ := rd
  obtain ⟨Ad0, cd0, rfl⟩ := SlOf.form rd0
  obtain ⟨Ad1, cd1, rfl⟩ := SlOf.form rd1
  have Nd := Lib.hid fd
  clear fd
  clear rd0 rd1
  have Rl := Lib.hid rl
  obtain ⟨Al, cl, rfl⟩ := SlOf.form rl
  clear rl
  have Nl := Lib.hid fl
  clear fl
  have Nq := Lib.hid fq
  clear fq
  obtain ⟨W0, hW0⟩ : ∃ W0, W0 = (((w.alloc (.cells #[.slice Ad0 d.points.length cd0, .slice Ad1 d.segs.length cd1] 26)).alloc (.cells #[.int .i64 r.gap, .bool r.noMeet] 28)).alloc (.cells #[.int .i64 q.ship, .int .i64 q.segment, .bool q.toward, .int .i64 q.start, .int .i64 q.stop] 41)) := ⟨_, rfl⟩
  have B := Lib.hid (((Joins.below_alloc1 w (.cells #[.slice Ad0 d.points.length cd0, .slice Ad1 d.segs.length cd1] 26)).trans ((Joins.below_alloc1 (w.alloc (.cells #[.slice Ad0 d.points.length cd0, .slice Ad1 d.segs.length cd1] 26)) (.cells #[.int .i64 r.gap, .bool r.noMeet] 28)).mono (by simp; try omega))).trans ((Joins.below_alloc1 ((w.alloc (.cells #[.slice Ad0 d.points.length cd0, .slice Ad1 d.segs.length cd1] 26)).alloc (.cells #[.int .i64 r.gap, .bool r.noMeet] 28)) (.cells #[.int .i64 q.ship, .int .i64 q.segment, .bool q.toward, .int .i64 q.start, .int .i64 q.stop] 41)).mono (by simp; try omega)))
  have Kd := Lib.hid (((Blk.new w #[.slice Ad0 d.points.length cd0, .slice Ad1 d.segs.length cd1] 26).below (Joins.below_alloc1 _ (.cells #[.int .i64 r.gap, .bool r.noMeet] 28))).below (Joins.below_alloc1 _ (.cells #[.int .i64 q.ship, .int .i64 q.segment, .bool q.toward, .int .i64 q.start, .int .i64 q.stop] 41)))
  have Kr := Lib.hid ((Blk.new (w.alloc (.cells #[.slice Ad0 d.points.length cd0, .slice Ad1 d.segs.length cd1] 26)) #[.int .i64 r.gap, .bool r.noMeet] 28).below (Joins.below_alloc1 _ (.cells #[.int .i64 q.ship, .int .i64 q.segment, .bool q.toward, .int .i64 q.start, .int .i64 q.stop] 41)))
  rw [World.size_alloc] at Kr
  have Kq := Lib.hid (Blk.new ((w.alloc (.cells #[.slice Ad0 d.points.length cd0, .slice Ad1 d.segs.length cd1] 26)).alloc (.cells #[.int .i64 r.gap, .bool r.noMeet] 28)) #[.int .i64 q.ship, .int .i64 q.segment, .bool q.toward, .int .i64 q.start, .int .i64 q.stop] 41)
  rw [World.size_alloc, World.size_alloc] at Kq
  have HW0 := Lib.hid hW0
  rw [← hW0] at B Kd Kr Kq
  clear hW0
  have hll := Rl.out.1
  have HC := Lib.hid hc
  have HR := Lib.hid hr
  clear hc hr
  obtain ⟨gg, hgg⟩ : ∃ g, g = (fun (i _ : Nat) => againI d r l q i) := ⟨_, rfl⟩
  have E0 := Lib.hid (show againC d r l q = rowF gg 0 l.length by rw [hgg]; rfl)
  have HGG := Lib.hid (fun (i : Nat) p (h : l[i]? = some p) => show gg i 0 = confI d r p q by rw [hgg]; exact againI_at h)
  clear hgg
  go_enter Try.func48, Try.ntmps48
  go_wp2
  rw [← HW0.out]
  go_loopw [15] (fun i wr => ∃ k : Nat, k ≤ l.length ∧ i = .int .i64 (k : Int) ∧ Hid (rowF gg 0 k = none) ∧ Hid (Below W0.heap.size W0 wr)) (fun i _ => l.length - (intOf i).toNat)
  case atStart => exact ⟨0, Nat.zero_le _, rfl, Lib.hid rfl, Lib.hid (Below.refl _ _)⟩
  case round =>
    obtain ⟨k, hk, rfl, hA, hb⟩ := hrel
    have BR := Lib.hid (B.out.trans (hb.out.mono B.out.size))
    by_cases hlt : k < l.length
    rotate_left
    · obtain rfl : k = l.length := by omega
      have E := Lib.hid (E0.out.trans hA.out)
      go_wp2
      refine bodyPost_ret (v := .tuple #[.int .i64 (-1), .int .i64 0]) (by simp [results, Try.results48, go_sem]) rfl ⟨by rw [E.out]; first | rfl | simp [fcI, fcK, fcN], BR.out⟩
    obtain ⟨p, hp⟩ : ∃ x, l[k]? = some x := ⟨_, List.getElem?_eq_getElem hlt⟩
    have HP := Lib.hid (HGG.out k p hp)
    have WP := Lib.hid (Nl.out p (List.mem_of_getElem? hp))
    rcases Rl.out.2 with ⟨he, _⟩ | ⟨gl, ol, cl', e, lpos, lcap, lc⟩
    · rw [he] at hlt; simp at hlt
    injection e with hA' _ hcp'
    subst hA' hcp'
    obtain ⟨p0, p1, p2, p3, p4⟩ := SlPassage.cells lc k p hp
    have y0 := cell_onV p0 BR.out
    have y1 := cell_onV p1 BR.out
    have y2 := cell_onV p2 BR.out
    have y3 := cell_onV p3 BR.out
    have y4 := cell_onV p4 BR.out
    clear p0 p1 p2 p3 p4 lc hp
    go_upto_region 4 with fail
    have BL := Joins.below_alloc1 wr (.cells #[.int .i64 p.ship, .int .i64 p.segment, .bool p.toward, .int .i64 p.start, .int .i64 p.stop] 41)
    have KN := Lib.hid (Blk.new wr #[.int .i64 p.ship, .int .i64 p.segment, .bool p.toward, .int .i64 p.start, .int .i64 p.stop] 41)
    obtain ⟨w6, hw6⟩ : ∃ W, W = wr.alloc (.cells #[.int .i64 p.ship, .int .i64 p.segment, .bool p.toward, .int .i64 p.start, .int .i64 p.stop] 41) := ⟨_, rfl⟩
    rw [← hw6] at BL KN ⊢
    have B6 := Lib.hid (BR.out.trans (BL.mono BR.out.size))
    have hb6 := Lib.hid (hb.out.trans (BL.mono hb.out.size))
    clear hw6 BL y0 y1 y2 y3 y4
    have Kd_6 := Lib.hid (Kd.out.below hb6.out)
    have Kr_6 := Lib.hid (Kr.out.below hb6.out)
    have Kq_6 := Lib.hid (Kq.out.below hb6.out)
    have vp0 : w6.cell? ⟨wr.heap.size, 0, none⟩ = some (.int .i64 p.ship) := KN.out.cell 0
    have vp1 : w6.cell? ⟨wr.heap.size, 1, none⟩ = some (.int .i64 p.segment) := KN.out.cell 1
    have vp2 : w6.cell? ⟨wr.heap.size, 2, none⟩ = some (.bool p.toward) := KN.out.cell 2
    have vp3 : w6.cell? ⟨wr.heap.size, 3, none⟩ = some (.int .i64 p.start) := KN.out.cell 3
    have vp4 : w6.cell? ⟨wr.heap.size, 4, none⟩ = some (.int .i64 p.stop) := KN.out.cell 4
    obtain ⟨n, hn⟩ : ∃ n, confI d r p q = n := ⟨_, rfl⟩
    have HN := Lib.hid hn
    have HPN := Lib.hid (HP.out.trans hn)
    clear hn
    have vd0 : w6.cell? ⟨w.heap.size, 0, none⟩ = some (.slice Ad0 d.points.length cd0) := Kd_6.out.cell 0
    have vd1 : w6.cell? ⟨w.heap.size, 1, none⟩ = some (.slice Ad1 d.segs.length cd1) := Kd_6.out.cell 1
    have vr0 : w6.cell? ⟨w.heap.size + 1, 0, none⟩ = some (.int .i64 r.gap) := Kr_6.out.cell 0
    have vr1 : w6.cell? ⟨w.heap.size + 1, 1, none⟩ = some (.bool r.noMeet) := Kr_6.out.cell 1
    have vq0 : w6.cell? ⟨w.heap.size + 2, 0, none⟩ = some (.int .i64 q.ship) := Kq_6.out.cell 0
    have vq1 : w6.cell? ⟨w.heap.size + 2, 1, none⟩ = some (.int .i64 q.segment) := Kq_6.out.cell 1
    have vq2 : w6.cell? ⟨w.heap.size + 2, 2, none⟩ = some (.bool q.toward) := Kq_6.out.cell 2
    have vq3 : w6.cell? ⟨w.heap.size + 2, 3, none⟩ = some (.int .i64 q.start) := Kq_6.out.cell 3
    have vq4 : w6.cell? ⟨w.heap.size + 2, 4, none⟩ = some (.int .i64 q.stop) := Kq_6.out.cell 4
    go_wp2_with fail
    clear vd0 vd1 vr0 vr1 vq0 vq1 vq2 vq3 vq4
    refine (between_any _ _ d r p q _ (Rd.out.below B6.out) Nd.out WP.out Nq.out HC.out HR.out).mono ?_
    rw [HN.out]
    rintro e w7 ⟨rfl, hb7⟩
    have B7 := Lib.hid (B6.out.trans (hb7.mono B6.out.size))
    have Kd_7 := Lib.hid (Kd_6.out.below hb7)
    have Kr_7 := Lib.hid (Kr_6.out.below hb7)
    have Kq_7 := Lib.hid (Kq_6.out.below hb7)
    have hbz := Lib.hid (hb6.out.trans (hb7.mono hb6.out.size))
    clear hb7
    clear vp0 vp1 vp2 vp3 vp4
    by_cases hn0 : n = 0
    · have RN := Lib.hid (rowF_no hA.out (HPN.out.trans hn0))
      have hne : (n != 0) = false := by simpa using hn0
      clear hn0
      go_wp2
      go_roundw
      case rel => exact ⟨k + 1, by omega, by go_num, RN, hbz⟩
      case measure => simp [intOf]; omega
    have E := Lib.hid (show againC d r l q = some (k, 0, n) by
      rw [E0.out]
      have h1 := rowF_yes hA.out (by rw [HPN.out]; exact hn0)
      rw [HPN.out] at h1
      obtain ⟨m, hm⟩ : ∃ m, l.length = k + 1 + m := ⟨l.length - (k + 1), by omega⟩
      rw [hm]
      exact rowF_stays h1 m)
    have hne : (n != 0) = true := by simpa using hn0
    go_wp2
    refine bodyPost_ret (v := .tuple #[.int .i64 (k : Int), .int .i64 n]) (by simp [results, Try.results48, go_sem]) rfl ⟨by rw [E.out]; first | rfl | simp [fcI, fcK, fcN], B7.out⟩

set_option maxHeartbeats 8000000 in
theorem implFirstConflict (yd0 yd1 : Value) (d : ChartD) (r : RegimeD) (yl : Value) (l : List PassageD) (w : World) (rd : RdChart w yd0 yd1 d) (rl : SlPassage w yl l) (fd : ∀ x ∈ d.points, PointD.wf x) (fl : ∀ x ∈ l, PassageD.wf x) :
    Calls Try.prog 14 #[.agg #[yd0, yd1], r.val, yl] w (fun e w' => e = .returned (.tuple #[.int .i64 (fcI (firstC d r l)), .int .i64 (fcK (firstC d r l)), .int .i64 (fcN (firstC d r l))]) ∧ Below w.heap.size w w') := by

  have Rd := Lib.hid rd
  obtain ⟨rd0, rd1⟩ := rd
  obtain ⟨Ad0, cd0, rfl⟩ := SlOf.form rd0
  obtain ⟨Ad1, cd1, rfl⟩ := SlOf.form rd1
  have Nd := Lib.hid fd
  clear fd
  clear rd0 rd1
  have Rl := Lib.hid rl
  obtain ⟨Al, cl, rfl⟩ := SlOf.form rl
  clear rl
  have Nl := Lib.hid fl
  clear fl
  obtain ⟨W0, hW0⟩ : ∃ W0, W0 = ((w.alloc (.cells #[.slice Ad0 d.points.length cd0, .slice Ad1 d.segs.length cd1] 26)).alloc (.cells #[.int .i64 r.gap, .bool r.noMeet] 28)) := ⟨_, rfl⟩
  have B := Lib.hid ((Joins.below_alloc1 w (.cells #[.slice Ad0 d.points.length cd0, .slice Ad1 d.segs.length cd1] 26)).trans ((Joins.below_alloc1 (w.alloc (.cells #[.slice Ad0 d.points.length cd0, .slice Ad1 d.segs.length cd1] 26)) (.cells #[.int .i64 r.gap, .bool r.noMeet] 28)).mono (by simp; try omega)))
  have Kd := Lib.hid ((Blk.new w #[.slice Ad0 d.points.length cd0, .slice Ad1 d.segs.length cd1] 26).below (Joins.below_alloc1 _ (.cells #[.int .i64 r.gap, .bool r.noMeet] 28)))
  have Kr := Lib.hid (Blk.new (w.alloc (.cells #[.slice Ad0 d.points.length cd0, .slice Ad1 d.segs.length cd1] 26)) #[.int .i64 r.gap, .bool r.noMeet] 28)
  rw [World.size_alloc] at Kr
  have HW0 := Lib.hid hW0
  rw [← hW0] at B Kd Kr
  clear hW0
  have hll := Rl.out.1
  obtain ⟨x, hx⟩ : ∃ x, (chartB d && regB r) = x := ⟨_, rfl⟩
  have HX := Lib.hid hx
  cases x with
  | false =>
    have E := Lib.hid (firstC_bad (l := l) hx)
    clear hx
    go_enter Try.func14, Try.ntmps14
    have vd0 : W0.cell? ⟨w.heap.size, 0, none⟩ = some (.slice Ad0 d.points.length cd0) := Kd.out.cell 0
    have vd1 : W0.cell? ⟨w.heap.size, 1, none⟩ = some (.slice Ad1 d.segs.length cd1) := Kd.out.cell 1
    have vr0 : W0.cell? ⟨w.heap.size + 1, 0, none⟩ = some (.int .i64 r.gap) := Kr.out.cell 0
    have vr1 : W0.cell? ⟨w.heap.size + 1, 1, none⟩ = some (.bool r.noMeet) := Kr.out.cell 1
    go_wp2_with fail
    rw [← HW0.out]
    clear vd0 vd1 vr0 vr1
    refine (hasRules_any _ _ d r _ (Rd.out.below B.out) Nd.out).mono ?_
    rw [HX.out]
    rintro e w1 ⟨rfl, hb1⟩
    have B1 := Lib.hid (B.out.trans (hb1.mono B.out.size))
    have Kd_1 := Lib.hid (Kd.out.below hb1)
    have Kr_1 := Lib.hid (Kr.out.below hb1)
    clear hb1
    go_wp2
    refine bodyPost_ret (v := .tuple #[.int .i64 (-1), .int .i64 (-1), .int .i64 0]) (by simp [results, Try.results14, go_sem]) rfl ⟨by rw [E.out]; first | rfl | simp [fcI, fcK, fcN], B1.out⟩
  | true =>
  simp only [Bool.and_eq_true] at hx
  have HC := Lib.hid hx.1
  have HR := Lib.hid hx.2
  clear hx
  go_enter Try.func14, Try.ntmps14
  have vd0 : W0.cell? ⟨w.heap.size, 0, none⟩ = some (.slice Ad0 d.points.length cd0) := Kd.out.cell 0
  have vd1 : W0.cell? ⟨w.heap.size, 1, none⟩ = some (.slice Ad1 d.segs.length cd1) := Kd.out.cell 1
  have vr0 : W0.cell? ⟨w.heap.size + 1, 0, none⟩ = some (.int .i64 r.gap) := Kr.out.cell 0
  have vr1 : W0.cell? ⟨w.heap.size + 1, 1, none⟩ = some (.bool r.noMeet) := Kr.out.cell 1
  go_wp2_with fail
  rw [← HW0.out]
  clear vd0 vd1 vr0 vr1
  refine (hasRules_any _ _ d r _ (Rd.out.below B.out) Nd.out).mono ?_
  rw [HX.out]
  rintro e w1 ⟨rfl, hb1⟩
  have B1 := Lib.hid (B.out.trans (hb1.mono B.out.size))
  have Kd_1 := Lib.hid (Kd.out.below hb1)
  have Kr_1 := Lib.hid (Kr.out.below hb1)
  clear hb1
  go_wp2
  go_loopw [19] (fun i wr => ∃ k : Nat, k ≤ l.length ∧ i = .int .i64 (k : Int) ∧ Hid (allF (pairI d r l) k = none) ∧ Hid (Below w1.heap.size w1 wr)) (fun i _ => l.length - (intOf i).toNat)
  case atStart => exact ⟨0, Nat.zero_le _, rfl, Lib.hid rfl, Lib.hid (Below.refl _ _)⟩
  case round =>
    obtain ⟨k, hk, rfl, hA, hb⟩ := hrel
    have BR := Lib.hid (B1.out.trans (hb.out.mono B1.out.size))
    by_cases hlt : k < l.length
    rotate_left
    · obtain rfl : k = l.length := by omega
      have E := Lib.hid (show firstC d r l = none from hA.out)
      go_wp2
      refine bodyPost_ret (v := .tuple #[.int .i64 (-1), .int .i64 (-1), .int .i64 0]) (by simp [results, Try.results14, go_sem]) rfl ⟨by rw [E.out]; first | rfl | simp [fcI, fcK, fcN], BR.out⟩
    obtain ⟨p, hp⟩ : ∃ x, l[k]? = some x := ⟨_, List.getElem?_eq_getElem hlt⟩
    have HP := Lib.hid hp
    have WP := Lib.hid (Nl.out p (List.mem_of_getElem? hp))
    rcases Rl.out.2 with ⟨he, _⟩ | ⟨gl, ol, cl', e, lpos, lcap, lc⟩
    · rw [he] at hlt; simp at hlt
    injection e with hA' _ hcp'
    subst hA' hcp'
    obtain ⟨p0, p1, p2, p3, p4⟩ := SlPassage.cells lc k p hp
    have RT := Lib.hid (SlOf.takeR Rl.out hk)
    have WT := Lib.hid (show ∀ x ∈ l.take k, PassageD.wf x from fun x hx => Nl.out x (List.mem_of_mem_take hx))
    have y0 := cell_onV p0 BR.out
    have y1 := cell_onV p1 BR.out
    have y2 := cell_onV p2 BR.out
    have y3 := cell_onV p3 BR.out
    have y4 := cell_onV p4 BR.out
    have Kd_1r := Lib.hid (Kd_1.out.below hb.out)
    have Kr_1r := Lib.hid (Kr_1.out.below hb.out)
    clear p0 p1 p2 p3 p4 lc hp
    go_upto_region 6 with fail
    have BL := Joins.below_alloc1 wr (.cells #[.int .i64 p.ship, .int .i64 p.segment, .bool p.toward, .int .i64 p.start, .int .i64 p.stop] 41)
    have KN := Lib.hid (Blk.new wr #[.int .i64 p.ship, .int .i64 p.segment, .bool p.toward, .int .i64 p.start, .int .i64 p.stop] 41)
    obtain ⟨w6, hw6⟩ : ∃ W, W = wr.alloc (.cells #[.int .i64 p.ship, .int .i64 p.segment, .bool p.toward, .int .i64 p.start, .int .i64 p.stop] 41) := ⟨_, rfl⟩
    rw [← hw6] at BL KN ⊢
    have B6 := Lib.hid (BR.out.trans (BL.mono BR.out.size))
    have hb6 := Lib.hid (hb.out.trans (BL.mono hb.out.size))
    have Kd_6 := Lib.hid (Kd_1r.out.below BL)
    have Kr_6 := Lib.hid (Kr_1r.out.below BL)
    clear hw6 BL y0 y1 y2 y3 y4
    have FP0 := Lib.hid (show w6.cell? ⟨wr.heap.size, 0, none⟩ = some (.int .i64 p.ship) from KN.out.cell 0)
    have FP1 := Lib.hid (show w6.cell? ⟨wr.heap.size, 1, none⟩ = some (.int .i64 p.segment) from KN.out.cell 1)
    have FP2 := Lib.hid (show w6.cell? ⟨wr.heap.size, 2, none⟩ = some (.bool p.toward) from KN.out.cell 2)
    have FP3 := Lib.hid (show w6.cell? ⟨wr.heap.size, 3, none⟩ = some (.int .i64 p.start) from KN.out.cell 3)
    have FP4 := Lib.hid (show w6.cell? ⟨wr.heap.size, 4, none⟩ = some (.int .i64 p.stop) from KN.out.cell 4)
    obtain ⟨a, ha⟩ : ∃ a, againC d r (l.take k) p = a := ⟨_, rfl⟩
    obtain ⟨n, hn⟩ : ∃ n, fcN a = n := ⟨_, rfl⟩
    obtain ⟨i, hi⟩ : ∃ i, fcI a = i := ⟨_, rfl⟩
    have HAG := Lib.hid ha
    have HN := Lib.hid hn
    have HI := Lib.hid hi
    clear ha hn hi
    have hkc : k ≤ cl := by omega
    have Fd0 := Lib.hid (show w6.cell? ⟨w.heap.size, 0, none⟩ = some (.slice Ad0 d.points.length cd0) from Kd_6.out.cell 0)
    have Fd1 := Lib.hid (show w6.cell? ⟨w.heap.size, 1, none⟩ = some (.slice Ad1 d.segs.length cd1) from Kd_6.out.cell 1)
    have Fr0 := Lib.hid (show w6.cell? ⟨w.heap.size + 1, 0, none⟩ = some (.int .i64 r.gap) from Kr_6.out.cell 0)
    have Fr1 := Lib.hid (show w6.cell? ⟨w.heap.size + 1, 1, none⟩ = some (.bool r.noMeet) from Kr_6.out.cell 1)
    have DD := Lib.hid ((Below.refl w6.heap.size w6).drew)
    have vFd0 := Fd0.out
    have vFd1 := Fd1.out
    have vFr0 := Fr0.out
    have vFr1 := Fr1.out
    have vFP0 := FP0.out
    have vFP1 := FP1.out
    have vFP2 := FP2.out
    have vFP3 := FP3.out
    have vFP4 := FP4.out
    refine wp_region_held_drew (S := (fun w' => w'.cell? ⟨w.heap.size, 0, none⟩ = some (.slice Ad0 d.points.length cd0) ∧ w'.cell? ⟨w.heap.size, 1, none⟩ = some (.slice Ad1 d.segs.length cd1) ∧ w'.cell? ⟨w.heap.size + 1, 0, none⟩ = some (.int .i64 r.gap) ∧ w'.cell? ⟨w.heap.size + 1, 1, none⟩ = some (.bool r.noMeet) ∧ w'.cell? ⟨wr.heap.size, 0, none⟩ = some (.int .i64 p.ship) ∧ w'.cell? ⟨wr.heap.size, 1, none⟩ = some (.int .i64 p.segment) ∧ w'.cell? ⟨wr.heap.size, 2, none⟩ = some (.bool p.toward) ∧ w'.cell? ⟨wr.heap.size, 3, none⟩ = some (.int .i64 p.start) ∧ w'.cell? ⟨wr.heap.size, 4, none⟩ = some (.int .i64 p.stop) ∧ Hid (Below w6.heap.size w6 w'))) (by kernel_rfl) ?_ (fun hHeld => ?_)
    · (try dsimp only); go_keep
    refine wpAnyH_take (i := 0) (v := ?_) (by simp only [List.getElem?_toArray, List.getElem?_cons_zero]; rfl) (by kernel_rfl) (by kernel_rfl) (by kernel_rfl) (by exact fun _ _ _ h => h) (Or.inl ⟨by rfl, ?_⟩) (by assumption) ?_; rotate_left; focus (intro w hSw; (try dsimp only at hSw); first | (go_simp; done) | (go_simp; with_reducible rfl))
    try simp only [Act.put, List.setIfInBounds_toArray, List.set_cons_zero, List.set_cons_succ]
    refine wpAnyH_take (i := 1) (v := ?_) (by simp only [List.getElem?_toArray, List.getElem?_cons_succ, List.getElem?_cons_zero]; rfl) (by kernel_rfl) (by kernel_rfl) (by kernel_rfl) (by exact fun _ _ _ h => h) (Or.inl ⟨by rfl, ?_⟩) (by assumption) ?_; rotate_left; focus (intro w hSw; (try dsimp only at hSw); first | (go_simp; done) | (go_simp; with_reducible rfl))
    try simp only [Act.put, List.setIfInBounds_toArray, List.set_cons_zero, List.set_cons_succ]
    refine wpAnyH_take (i := 2) (v := ?_) (by simp only [List.getElem?_toArray, List.getElem?_cons_succ, List.getElem?_cons_zero]; rfl) (by kernel_rfl) (by kernel_rfl) (by kernel_rfl) (by exact fun _ _ _ h => h) (Or.inl ⟨by rfl, ?_⟩) (by assumption) ?_; rotate_left; focus (intro w hSw; (try dsimp only at hSw); first | (go_simp; done) | (go_simp; with_reducible rfl))
    try simp only [Act.put, List.setIfInBounds_toArray, List.set_cons_zero, List.set_cons_succ]
    refine wpAnyH_take (i := 3) (v := ?_) (by simp only [List.getElem?_toArray, List.getElem?_cons_succ, List.getElem?_cons_zero]; rfl) (by kernel_rfl) (by kernel_rfl) (by kernel_rfl) (by exact fun _ _ _ h => h) (Or.inl ⟨by rfl, ?_⟩) (by assumption) ?_; rotate_left; focus (intro w hSw; (try dsimp only at hSw); first | (go_simp; done) | (go_simp; with_reducible rfl))
    try simp only [Act.put, List.setIfInBounds_toArray, List.set_cons_zero, List.set_cons_succ]
    refine wpAnyH_take (i := 4) (v := ?_) (by simp only [List.getElem?_toArray, List.getElem?_cons_succ, List.getElem?_cons_zero]; rfl) (by kernel_rfl) (by kernel_rfl) (by kernel_rfl) (by exact fun _ _ _ h => h) (Or.inl ⟨by rfl, ?_⟩) (by assumption) ?_; rotate_left; focus (intro w hSw; (try dsimp only at hSw); first | (go_simp; done) | (go_simp; with_reducible rfl))
    try simp only [Act.put, List.setIfInBounds_toArray, List.set_cons_zero, List.set_cons_succ]
    refine wpAnyH_take (i := 5) (v := ?_) (by simp only [List.getElem?_toArray, List.getElem?_cons_succ, List.getElem?_cons_zero]; rfl) (by kernel_rfl) (by kernel_rfl) (by kernel_rfl) (by exact fun _ _ _ h => h) (Or.inl ⟨by rfl, ?_⟩) (by assumption) ?_; rotate_left; focus (intro w hSw; (try dsimp only at hSw); first | (go_simp; done) | (go_simp; with_reducible rfl))
    try simp only [Act.put, List.setIfInBounds_toArray, List.set_cons_zero, List.set_cons_succ]
    refine wpAnyH_ready (rs := [6]) (by kernel_rfl) (by simp) ?_
    refine AllReadyH.cons rfl (fun K hK => ?_) AllReadyH.nil
    rw [if_pos (by rfl)]
    go_simp
    go_at_call 48
    have kB := hHeld.2.2.2.2.2.2.2.2.2
    refine (firstAgainst_any _ _ d r _ (l.take k) p _ (Rd.out.below (B6.out.trans (kB.out.mono B6.out.size))) (SlOf.below RT.out (B6.out.trans (kB.out.mono B6.out.size))) Nd.out WT.out WP.out HC.out HR.out).mono ?_
    rw [HAG.out, HN.out, HI.out]
    rintro e wq6_6 ⟨rfl, hbk⟩
    have HBK := kB.out.trans (hbk.mono kB.out.size)
    have QS := Lib.hid (show wq6_6.cell? ⟨w.heap.size, 0, none⟩ = some (.slice Ad0 d.points.length cd0) ∧ wq6_6.cell? ⟨w.heap.size, 1, none⟩ = some (.slice Ad1 d.segs.length cd1) ∧ wq6_6.cell? ⟨w.heap.size + 1, 0, none⟩ = some (.int .i64 r.gap) ∧ wq6_6.cell? ⟨w.heap.size + 1, 1, none⟩ = some (.bool r.noMeet) ∧ wq6_6.cell? ⟨wr.heap.size, 0, none⟩ = some (.int .i64 p.ship) ∧ wq6_6.cell? ⟨wr.heap.size, 1, none⟩ = some (.int .i64 p.segment) ∧ wq6_6.cell? ⟨wr.heap.size, 2, none⟩ = some (.bool p.toward) ∧ wq6_6.cell? ⟨wr.heap.size, 3, none⟩ = some (.int .i64 p.start) ∧ wq6_6.cell? ⟨wr.heap.size, 4, none⟩ = some (.int .i64 p.stop) ∧ Hid (Below w6.heap.size w6 wq6_6) from ⟨cell_onV Fd0.out HBK, cell_onV Fd1.out HBK, cell_onV Fr0.out HBK, cell_onV Fr1.out HBK, cell_onV FP0.out HBK, cell_onV FP1.out HBK, cell_onV FP2.out HBK, cell_onV FP3.out HBK, cell_onV FP4.out HBK, Lib.hid HBK⟩)
    clear hbk kB hHeld HBK
    go_simp
    refine hK.out _ _ ?_ (fun hHeld => ?_)
    · (try dsimp only); exact QS.out
    clear hK K
    try simp only [Act.put, List.setIfInBounds_toArray, List.set_cons_zero, List.set_cons_succ]
    refine wpAnyH_take (i := 7) (v := ?_) (by simp only [List.getElem?_toArray, List.getElem?_cons_succ, List.getElem?_cons_zero]; rfl) (by kernel_rfl) (by kernel_rfl) (by kernel_rfl) (by exact fun _ _ _ h => h) (Or.inl ⟨by rfl, ?_⟩) (by assumption) ?_; rotate_left; focus (intro w hSw; (try dsimp only at hSw); first | (go_simp; done) | (go_simp; with_reducible rfl))
    try simp only [Act.put, List.setIfInBounds_toArray, List.set_cons_zero, List.set_cons_succ]
    refine wpAnyH_take (i := 8) (v := ?_) (by simp only [List.getElem?_toArray, List.getElem?_cons_succ, List.getElem?_cons_zero]; rfl) (by kernel_rfl) (by kernel_rfl) (by kernel_rfl) (by exact fun _ _ _ h => h) (Or.inl ⟨by rfl, ?_⟩) (by assumption) ?_; rotate_left; focus (intro w hSw; (try dsimp only at hSw); first | (go_simp; done) | (go_simp; with_reducible rfl))
    try simp only [Act.put, List.setIfInBounds_toArray, List.set_cons_zero, List.set_cons_succ]
    refine wpAnyH_take (i := 9) (v := ?_) (by simp only [List.getElem?_toArray, List.getElem?_cons_succ, List.getElem?_cons_zero]; rfl) (by kernel_rfl) (by kernel_rfl) (by kernel_rfl) (by exact fun _ _ _ h => h) (Or.inl ⟨by rfl, ?_⟩) (by assumption) ?_; rotate_left; focus (intro w hSw; (try dsimp only at hSw); first | (go_simp; done) | (go_simp; with_reducible rfl))
    try simp only [Act.put, List.setIfInBounds_toArray, List.set_cons_zero, List.set_cons_succ]
    refine wpAnyH_take (i := 10) (v := ?_) (by simp only [List.getElem?_toArray, List.getElem?_cons_succ, List.getElem?_cons_zero]; rfl) (by kernel_rfl) (by kernel_rfl) (by kernel_rfl) (by exact fun _ _ _ h => h) (Or.inl ⟨by rfl, ?_⟩) (by assumption) ?_; rotate_left; focus (intro w hSw; (try dsimp only at hSw); first | (go_simp; done) | (go_simp; with_reducible rfl))
    try simp only [Act.put, List.setIfInBounds_toArray, List.set_cons_zero, List.set_cons_succ]
    refine wpAnyH_take (i := 11) (v := ?_) (by simp only [List.getElem?_toArray, List.getElem?_cons_succ, List.getElem?_cons_zero]; rfl) (by kernel_rfl) (by kernel_rfl) (by kernel_rfl) (by exact fun _ _ _ h => h) (Or.inl ⟨by rfl, ?_⟩) (by assumption) ?_; rotate_left; focus (intro w hSw; (try dsimp only at hSw); first | (go_simp; done) | (go_simp; with_reducible rfl))
    try simp only [Act.put, List.setIfInBounds_toArray, List.set_cons_zero, List.set_cons_succ]
    refine wpAnyH_done (by kernel_rfl) ?_ _
    have hbz := Lib.hid (hb6.out.trans (hHeld.2.2.2.2.2.2.2.2.2.out.mono hb6.out.size))
    have BZ := Lib.hid (B6.out.trans (hHeld.2.2.2.2.2.2.2.2.2.out.mono B6.out.size))
    clear hHeld DD
    by_cases hn0 : n = 0
    · have RN := Lib.hid (allF_next hA.out (again_none HP.out (by rw [HAG.out, HN.out]; exact hn0)))
      have hne : (n != 0) = false := by simpa using hn0
      clear hn0
      go_wp2
      go_roundw
      case rel => exact ⟨k + 1, by omega, by go_num, RN, hbz⟩
      case measure => simp [intOf]; omega
    obtain ⟨x1, x2, x3⟩ := again_some HP.out hA.out (by rw [HAG.out, HN.out]; exact hn0)
    rw [HAG.out, HI.out] at x1
    rw [HAG.out, HN.out] at x3
    have X1 := Lib.hid x1
    have X2 := Lib.hid x2
    have X3 := Lib.hid x3
    clear x1 x2 x3
    have hne : (n != 0) = true := by simpa using hn0
    go_wp2
    refine bodyPost_ret (v := .tuple #[.int .i64 i, .int .i64 (k : Int), .int .i64 n]) (by simp [results, Try.results14, go_sem]) rfl ⟨by rw [X1.out, X2.out, X3.out], BZ.out⟩

set_option maxHeartbeats 4000000 in
theorem implIsClear (yd0 yd1 : Value) (d : ChartD) (r : RegimeD) (yl : Value) (l : List PassageD) (w : World) (rd : RdChart w yd0 yd1 d) (rl : SlPassage w yl l) (fd : ∀ x ∈ d.points, PointD.wf x) (fl : ∀ x ∈ l, PassageD.wf x) :
    Calls Try.prog 17 #[.agg #[yd0, yd1], r.val, yl] w (fun e w' => e = .returned (.bool (clearB d r l)) ∧ Below w.heap.size w w') := by
  have Rd := Lib.hid rd
  obtain ⟨rd0, rd1⟩ := rd
  obtain ⟨Ad0, cd0, rfl⟩ := SlOf.form rd0
  obtain ⟨Ad1, cd1, rfl⟩ := SlOf.form rd1
  have Nd := Lib.hid fd
  clear fd
  clear rd0 rd1
  have Rl := Lib.hid rl
  obtain ⟨Al, cl, rfl⟩ := SlOf.form rl
  clear rl
  have Nl := Lib.hid fl
  clear fl
  obtain ⟨W0, hW0⟩ : ∃ W0, W0 = ((w.alloc (.cells #[.slice Ad0 d.points.length cd0, .slice Ad1 d.segs.length cd1] 26)).alloc (.cells #[.int .i64 r.gap, .bool r.noMeet] 28)) := ⟨_, rfl⟩
  have B := Lib.hid ((Joins.below_alloc1 w (.cells #[.slice Ad0 d.points.length cd0, .slice Ad1 d.segs.length cd1] 26)).trans ((Joins.below_alloc1 (w.alloc (.cells #[.slice Ad0 d.points.length cd0, .slice Ad1 d.segs.length cd1] 26)) (.cells #[.int .i64 r.gap, .bool r.noMeet] 28)).mono (by simp; try omega)))
  have Kd := Lib.hid ((Blk.new w #[.slice Ad0 d.points.length cd0, .slice Ad1 d.segs.length cd1] 26).below (Joins.below_alloc1 _ (.cells #[.int .i64 r.gap, .bool r.noMeet] 28)))
  have Kr := Lib.hid (Blk.new (w.alloc (.cells #[.slice Ad0 d.points.length cd0, .slice Ad1 d.segs.length cd1] 26)) #[.int .i64 r.gap, .bool r.noMeet] 28)
  rw [World.size_alloc] at Kr
  have HW0 := Lib.hid hW0
  rw [← hW0] at B Kd Kr
  clear hW0
  obtain ⟨x, hx⟩ : ∃ x, (chartB d && regB r) = x := ⟨_, rfl⟩
  obtain ⟨f, hf⟩ : ∃ f, firstC d r l = f := ⟨_, rfl⟩
  obtain ⟨n, hn⟩ : ∃ n, fcN f = n := ⟨_, rfl⟩
  have E0 := Lib.hid (show clearB d r l = (x && (n == 0)) by unfold clearB; rw [hx, hf, hn])
  have HX := Lib.hid hx
  have HF := Lib.hid hf
  have HN := Lib.hid hn
  clear hx hf hn
  cases x with
  | false =>
    have E := Lib.hid (E0.out.trans (show _ = false by simp))
    go_enter Try.func17, Try.ntmps17
    have vd0 : W0.cell? ⟨w.heap.size, 0, none⟩ = some (.slice Ad0 d.points.length cd0) := Kd.out.cell 0
    have vd1 : W0.cell? ⟨w.heap.size, 1, none⟩ = some (.slice Ad1 d.segs.length cd1) := Kd.out.cell 1
    have vr0 : W0.cell? ⟨w.heap.size + 1, 0, none⟩ = some (.int .i64 r.gap) := Kr.out.cell 0
    have vr1 : W0.cell? ⟨w.heap.size + 1, 1, none⟩ = some (.bool r.noMeet) := Kr.out.cell 1
    go_wp2_with fail
    rw [← HW0.out]
    clear vd0 vd1 vr0 vr1
    refine (implFirstConflict _ _ d r _ l _ (Rd.out.below B.out) (Rl.out.below B.out) Nd.out Nl.out).mono ?_
    rw [HF.out, HN.out]
    rintro e w1 ⟨rfl, hb1⟩
    have B1 := Lib.hid (B.out.trans (hb1.mono B.out.size))
    have Kd_1 := Lib.hid (Kd.out.below hb1)
    have Kr_1 := Lib.hid (Kr.out.below hb1)
    clear hb1
    have vd0 : w1.cell? ⟨w.heap.size, 0, none⟩ = some (.slice Ad0 d.points.length cd0) := Kd_1.out.cell 0
    have vd1 : w1.cell? ⟨w.heap.size, 1, none⟩ = some (.slice Ad1 d.segs.length cd1) := Kd_1.out.cell 1
    have vr0 : w1.cell? ⟨w.heap.size + 1, 0, none⟩ = some (.int .i64 r.gap) := Kr_1.out.cell 0
    have vr1 : w1.cell? ⟨w.heap.size + 1, 1, none⟩ = some (.bool r.noMeet) := Kr_1.out.cell 1
    go_wp2_with fail
    clear vd0 vd1 vr0 vr1
    refine (hasRules_any _ _ d r _ (Rd.out.below B1.out) Nd.out).mono ?_
    rw [HX.out]
    rintro e w2 ⟨rfl, hb2⟩
    have B2 := Lib.hid (B1.out.trans (hb2.mono B1.out.size))
    have Kd_2 := Lib.hid (Kd_1.out.below hb2)
    have Kr_2 := Lib.hid (Kr_1.out.below hb2)
    clear hb2
    have vd0 : w2.cell? ⟨w.heap.size, 0, none⟩ = some (.slice Ad0 d.points.length cd0) := Kd_2.out.cell 0
    have vd1 : w2.cell? ⟨w.heap.size, 1, none⟩ = some (.slice Ad1 d.segs.length cd1) := Kd_2.out.cell 1
    have vr0 : w2.cell? ⟨w.heap.size + 1, 0, none⟩ = some (.int .i64 r.gap) := Kr_2.out.cell 0
    have vr1 : w2.cell? ⟨w.heap.size + 1, 1, none⟩ = some (.bool r.noMeet) := Kr_2.out.cell 1
    go_wp2
    go_ret
    exact ⟨ret_bool E.out.symm, B2.out⟩
  | true =>
  have E := Lib.hid (E0.out.trans (show _ = (n == 0) by simp))
  go_enter Try.func17, Try.ntmps17
  have vd0 : W0.cell? ⟨w.heap.size, 0, none⟩ = some (.slice Ad0 d.points.length cd0) := Kd.out.cell 0
  have vd1 : W0.cell? ⟨w.heap.size, 1, none⟩ = some (.slice Ad1 d.segs.length cd1) := Kd.out.cell 1
  have vr0 : W0.cell? ⟨w.heap.size + 1, 0, none⟩ = some (.int .i64 r.gap) := Kr.out.cell 0
  have vr1 : W0.cell? ⟨w.heap.size + 1, 1, none⟩ = some (.bool r.noMeet) := Kr.out.cell 1
  go_wp2_with fail
  rw [← HW0.out]
  clear vd0 vd1 vr0 vr1
  refine (implFirstConflict _ _ d r _ l _ (Rd.out.below B.out) (Rl.out.below B.out) Nd.out Nl.out).mono ?_
  rw [HF.out, HN.out]
  rintro e w1 ⟨rfl, hb1⟩
  have B1 := Lib.hid (B.out.trans (hb1.mono B.out.size))
  have Kd_1 := Lib.hid (Kd.out.below hb1)
  have Kr_1 := Lib.hid (Kr.out.below hb1)
  clear hb1
  have vd0 : w1.cell? ⟨w.heap.size, 0, none⟩ = some (.slice Ad0 d.points.length cd0) := Kd_1.out.cell 0
  have vd1 : w1.cell? ⟨w.heap.size, 1, none⟩ = some (.slice Ad1 d.segs.length cd1) := Kd_1.out.cell 1
  have vr0 : w1.cell? ⟨w.heap.size + 1, 0, none⟩ = some (.int .i64 r.gap) := Kr_1.out.cell 0
  have vr1 : w1.cell? ⟨w.heap.size + 1, 1, none⟩ = some (.bool r.noMeet) := Kr_1.out.cell 1
  go_wp2_with fail
  clear vd0 vd1 vr0 vr1
  refine (hasRules_any _ _ d r _ (Rd.out.below B1.out) Nd.out).mono ?_
  rw [HX.out]
  rintro e w2 ⟨rfl, hb2⟩
  have B2 := Lib.hid (B1.out.trans (hb2.mono B1.out.size))
  have Kd_2 := Lib.hid (Kd_1.out.below hb2)
  have Kr_2 := Lib.hid (Kr_1.out.below hb2)
  clear hb2
  have vd0 : w2.cell? ⟨w.heap.size, 0, none⟩ = some (.slice Ad0 d.points.length cd0) := Kd_2.out.cell 0
  have vd1 : w2.cell? ⟨w.heap.size, 1, none⟩ = some (.slice Ad1 d.segs.length cd1) := Kd_2.out.cell 1
  have vr0 : w2.cell? ⟨w.heap.size + 1, 0, none⟩ = some (.int .i64 r.gap) := Kr_2.out.cell 0
  have vr1 : w2.cell? ⟨w.heap.size + 1, 1, none⟩ = some (.bool r.noMeet) := Kr_2.out.cell 1
  go_wp2
  go_ret
  exact ⟨ret_bool E.out.symm, B2.out⟩

set_option maxHeartbeats 4000000 in
/-- The closure of Clashes. -/
theorem clashes1 (yd0 yd1 : Value) (d : ChartD) (r : RegimeD) (ya : Value) (a : List PassageD) (q : PassageD) (Bd Br Ba : Nat) (w : World) (rd : RdChart w yd0 yd1 d) (ra : SlPassage w ya a) (nd : ∀ x ∈ d.points, PointD.wf x) (na : ∀ x ∈ a, PassageD.wf x) (nq : q.wf) (hd0 : w.cell? ⟨Bd, 0, none⟩ = some yd0) (hd1 : w.cell? ⟨Bd, 1, none⟩ = some yd1) (hr0 : w.cell? ⟨Br, 0, none⟩ = some (.int .i64 r.gap)) (hr1 : w.cell? ⟨Br, 1, none⟩ = some (.bool r.noMeet)) (ha0 : w.cell? ⟨Ba, 0, none⟩ = some ya) (hc : chartB d = true) (hr : regB r = true) :
    Calls Try.prog 52 #[q.val, .pointer (some ⟨Bd, 0, none⟩), .pointer (some ⟨Br, 0, none⟩), .pointer (some ⟨Ba, 0, none⟩)] w fun e w' => e = .returned (.bool (hitB d r a q)) ∧ Below w.heap.size w w' := by
  obtain ⟨W0, hW0⟩ : ∃ W, W = w.alloc (.cells #[.int .i64 q.ship, .int .i64 q.segment, .bool q.toward, .int .i64 q.start, .int .i64 q.stop] 41) := ⟨_, rfl⟩
  have hB := Joins.below_alloc1 w (.cells #[.int .i64 q.ship, .int .i64 q.segment, .bool q.toward, .int .i64 q.start, .int .i64 q.stop] 41)
  have hKq := Blk.new w #[.int .i64 q.ship, .int .i64 q.segment, .bool q.toward, .int .i64 q.start, .int .i64 q.stop] 41
  rw [← hW0] at hB hKq
  have B := Lib.hid hB
  have Kq := Lib.hid hKq
  have HW0 := Lib.hid hW0
  have Rd := Lib.hid (rd.below hB)
  have Ra := Lib.hid (SlPassage.below ra hB)
  obtain ⟨rd0, rd1⟩ := rd
  obtain ⟨Ad0, cd0, rfl⟩ := SlOf.form rd0
  obtain ⟨Ad1, cd1, rfl⟩ := SlOf.form rd1
  obtain ⟨Aa, ca, rfl⟩ := SlOf.form ra
  have zhd0 := cell_onV hd0 (Joins.below_alloc1 w (.cells #[.int .i64 q.ship, .int .i64 q.segment, .bool q.toward, .int .i64 q.start, .int .i64 q.stop] 41))
  have zhd1 := cell_onV hd1 (Joins.below_alloc1 w (.cells #[.int .i64 q.ship, .int .i64 q.segment, .bool q.toward, .int .i64 q.start, .int .i64 q.stop] 41))
  have zhr0 := cell_onV hr0 (Joins.below_alloc1 w (.cells #[.int .i64 q.ship, .int .i64 q.segment, .bool q.toward, .int .i64 q.start, .int .i64 q.stop] 41))
  have zhr1 := cell_onV hr1 (Joins.below_alloc1 w (.cells #[.int .i64 q.ship, .int .i64 q.segment, .bool q.toward, .int .i64 q.start, .int .i64 q.stop] 41))
  have zha0 := cell_onV ha0 (Joins.below_alloc1 w (.cells #[.int .i64 q.ship, .int .i64 q.segment, .bool q.toward, .int .i64 q.start, .int .i64 q.stop] 41))
  have Nd := Lib.hid nd
  have Na := Lib.hid na
  have Nq := Lib.hid nq
  have HC := Lib.hid hc
  have HR := Lib.hid hr
  clear rd0 rd1 ra nd na nq hc hr hW0 hKq hd0 hd1 hr0 hr1 ha0
  obtain ⟨x, hx⟩ : ∃ x, againC d r a q = x := ⟨_, rfl⟩
  obtain ⟨n, hn⟩ : ∃ n, fcN x = n := ⟨_, rfl⟩
  have E := Lib.hid (show hitB d r a q = (n != 0) by unfold hitB; rw [hx, hn]; rfl)
  have HX := Lib.hid hx
  have HN := Lib.hid hn
  clear hx hn hB
  go_enter Try.func52, Try.ntmps52
  go_wp2_with fail
  rw [← HW0.out]
  refine (firstAgainst_any _ _ d r _ a q _ Rd.out Ra.out Nd.out Na.out Nq.out HC.out HR.out).mono ?_
  rw [HX.out, HN.out]
  rintro e w1 ⟨rfl, hb1⟩
  have B1 := Lib.hid (B.out.trans (hb1.mono B.out.size))
  clear hb1 zhd0 zhd1 zhr0 zhr1 zha0
  go_wp2
  go_ret
  exact ⟨ret_bool E.out.symm, B1.out⟩

set_option maxHeartbeats 4000000 in
theorem indexFuncR (yd0 yd1 : Value) (d : ChartD) (r : RegimeD) (ya : Value) (a : List PassageD) (yb : Value) (b : List PassageD) (Bd Br Ba : Nat) (w : World) (rd : RdChart w yd0 yd1 d) (ra : SlPassage w ya a) (nd : ∀ x ∈ d.points, PointD.wf x) (na : ∀ x ∈ a, PassageD.wf x) (rb : SlPassage w yb b) (nb : ∀ x ∈ b, PassageD.wf x) (hd0 : w.cell? ⟨Bd, 0, none⟩ = some yd0) (hd1 : w.cell? ⟨Bd, 1, none⟩ = some yd1) (hr0 : w.cell? ⟨Br, 0, none⟩ = some (.int .i64 r.gap)) (hr1 : w.cell? ⟨Br, 1, none⟩ = some (.bool r.noMeet)) (ha0 : w.cell? ⟨Ba, 0, none⟩ = some ya) (hc : chartB d = true) (hr : regB r = true) :
    Calls Try.prog 67 #[yb, .func (.func 52) #[] #[.pointer (some ⟨Bd, 0, none⟩), .pointer (some ⟨Br, 0, none⟩), .pointer (some ⟨Ba, 0, none⟩)]] w fun e w' => e = .returned (.int .i64 (firstI (hitB d r a) b)) ∧ Below w.heap.size w w' := by
  have hl := rb.1
  obtain ⟨Ab, cb, rfl⟩ := SlOf.form rb
  have Ghd0 := Lib.hid hd0
  have Ghd1 := Lib.hid hd1
  have Ghr0 := Lib.hid hr0
  have Ghr1 := Lib.hid hr1
  have Gha0 := Lib.hid ha0
  have Zrd := Lib.hid rd
  have Zra := Lib.hid ra
  have Zrb := Lib.hid rb
  have Znd := Lib.hid nd
  have Zna := Lib.hid na
  have Znb := Lib.hid nb
  have Zhc := Lib.hid hc
  have Zhr := Lib.hid hr
  clear rd ra rb nd na nb hc hr hd0 hd1 hr0 hr1 ha0
  go_enter Try.func67, Try.ntmps67
  go_wp2
  go_loopw [8] (fun i wr => ∃ k : Nat, k ≤ b.length ∧ i = .int .i64 k ∧ Hid (NoOne (hitB d r a) b k) ∧ Hid (Below w.heap.size w wr)) (fun i _ => b.length - (intOf i).toNat)
  case atStart => exact ⟨0, Nat.zero_le _, rfl, Lib.hid (NoOne.zero _ _), Lib.hid (Below.refl _ _)⟩
  case round =>
    obtain ⟨k, hk, rfl, hN, hb⟩ := hrel
    by_cases hlt : k < b.length
    rotate_left
    · obtain rfl : k = b.length := by omega
      have E := Lib.hid (firstI_none hN.out)
      go_wp2
      go_ret
      exact ⟨ret_int E.out.symm, hb.out⟩
    obtain ⟨q, hq⟩ : ∃ x, b[k]? = some x := ⟨_, List.getElem?_eq_getElem hlt⟩
    have HQ := Lib.hid hq
    have WQ := Lib.hid (Znb.out q (List.mem_of_getElem? hq))
    rcases Zrb.out.2 with ⟨he, _⟩ | ⟨gb, ob, cb', e, bpos, bcap, bc⟩
    · rw [he] at hlt; simp at hlt
    injection e with hA' _ hcp'
    subst hA' hcp'
    obtain ⟨q0, q1, q2, q3, q4⟩ := SlPassage.cells bc k q hq
    have y0 := cell_onV q0 hb.out
    have y1 := cell_onV q1 hb.out
    have y2 := cell_onV q2 hb.out
    have y3 := cell_onV q3 hb.out
    have y4 := cell_onV q4 hb.out
    clear q0 q1 q2 q3 q4 bc hq
    obtain ⟨t, ht⟩ : ∃ t, hitB d r a q = t := ⟨_, rfl⟩
    have HT := Lib.hid ht
    clear ht
    go_wp2_with fail
    refine (clashes1 _ _ d r _ a q Bd Br Ba _ (Zrd.out.below hb.out) (SlPassage.below Zra.out hb.out) Znd.out Zna.out WQ.out (cell_onV Ghd0.out hb.out) (cell_onV Ghd1.out hb.out) (cell_onV Ghr0.out hb.out) (cell_onV Ghr1.out hb.out) (cell_onV Gha0.out hb.out) Zhc.out Zhr.out).mono ?_
    rw [HT.out]
    rintro e w5 ⟨rfl, hb5⟩
    have hb6 := Lib.hid (hb.out.trans (hb5.mono hb.out.size))
    clear hb5 y0 y1 y2 y3 y4
    cases t with
    | true =>
      have E := Lib.hid (firstI_at hN.out HQ.out HT.out)
      go_wp2
      go_ret
      exact ⟨ret_int E.out.symm, hb6.out⟩
    | false =>
      have N2 := Lib.hid (hN.out.next HQ.out HT.out)
      go_wp2
      go_roundw
      case rel => exact ⟨k + 1, by omega, by go_num, N2, hb6⟩
      case measure => simp [intOf]; omega

set_option maxHeartbeats 4000000 in
theorem containsFuncR (yd0 yd1 : Value) (d : ChartD) (r : RegimeD) (ya : Value) (a : List PassageD) (yb : Value) (b : List PassageD) (Bd Br Ba : Nat) (w : World) (rd : RdChart w yd0 yd1 d) (ra : SlPassage w ya a) (nd : ∀ x ∈ d.points, PointD.wf x) (na : ∀ x ∈ a, PassageD.wf x) (rb : SlPassage w yb b) (nb : ∀ x ∈ b, PassageD.wf x) (hd0 : w.cell? ⟨Bd, 0, none⟩ = some yd0) (hd1 : w.cell? ⟨Bd, 1, none⟩ = some yd1) (hr0 : w.cell? ⟨Br, 0, none⟩ = some (.int .i64 r.gap)) (hr1 : w.cell? ⟨Br, 1, none⟩ = some (.bool r.noMeet)) (ha0 : w.cell? ⟨Ba, 0, none⟩ = some ya) (hc : chartB d = true) (hr : regB r = true) :
    Calls Try.prog 51 #[yb, .func (.func 52) #[] #[.pointer (some ⟨Bd, 0, none⟩), .pointer (some ⟨Br, 0, none⟩), .pointer (some ⟨Ba, 0, none⟩)]] w fun e w' => e = .returned (.bool (clashB d r a b)) ∧ Below w.heap.size w w' := by
  have C := Lib.hid (indexFuncR yd0 yd1 d r ya a yb b Bd Br Ba w rd ra nd na rb nb hd0 hd1 hr0 hr1 ha0 hc hr)
  obtain ⟨i, hi⟩ : ∃ i, firstI (hitB d r a) b = i := ⟨_, rfl⟩
  have HI := Lib.hid hi
  have E := Lib.hid (show clashB d r a b = decide (0 ≤ i) by rw [clash_hit, ← any_first, hi])
  obtain ⟨Ab, cb, rfl⟩ := SlOf.form rb
  clear rd ra nd na rb nb hd0 hd1 hr0 hr1 ha0 hc hr hi
  go_enter Try.func51, Try.ntmps51
  go_wp2_with fail
  refine C.out.mono ?_
  rw [HI.out]
  rintro e w1 ⟨rfl, hb1⟩
  have B1 := Lib.hid hb1
  clear hb1
  go_wp2
  go_ret
  exact ⟨ret_bool (by rw [E.out]), B1.out⟩


set_option maxHeartbeats 8000000 in
theorem implClashes (yd0 yd1 : Value) (d : ChartD) (r : RegimeD) (ya : Value) (a : List PassageD) (yb : Value) (b : List PassageD) (w : World) (rd : RdChart w yd0 yd1 d) (ra : SlPassage w ya a) (rb : SlPassage w yb b) (fd : ∀ x ∈ d.points, PointD.wf x) (fa : ∀ x ∈ a, PassageD.wf x) (fb : ∀ x ∈ b, PassageD.wf x) :
    Calls Try.prog 21 #[.agg #[yd0, yd1], r.val, ya, yb] w (fun e w' => e = .returned (.bool (clashB d r a b)) ∧ Below w.heap.size w w') := by
  have Rd := Lib.hid rd
  obtain ⟨rd0, rd1⟩ := rd
  obtain ⟨Ad0, cd0, rfl⟩ := SlOf.form rd0
  obtain ⟨Ad1, cd1, rfl⟩ := SlOf.form rd1
  have Nd := Lib.hid fd
  clear fd
  clear rd0 rd1
  have Ra := Lib.hid ra
  obtain ⟨Aa, ca, rfl⟩ := SlOf.form ra
  clear ra
  have Na := Lib.hid fa
  clear fa
  have Rb := Lib.hid rb
  obtain ⟨Ab, cb, rfl⟩ := SlOf.form rb
  clear rb
  have Nb := Lib.hid fb
  clear fb
  obtain ⟨W0, hW0⟩ : ∃ W0, W0 = (((w.alloc (.cells #[.slice Ad0 d.points.length cd0, .slice Ad1 d.segs.length cd1] 26)).alloc (.cells #[.int .i64 r.gap, .bool r.noMeet] 28)).alloc (.cells #[.slice Aa a.length ca] 29)) := ⟨_, rfl⟩
  have B := Lib.hid (((Joins.below_alloc1 w (.cells #[.slice Ad0 d.points.length cd0, .slice Ad1 d.segs.length cd1] 26)).trans ((Joins.below_alloc1 (w.alloc (.cells #[.slice Ad0 d.points.length cd0, .slice Ad1 d.segs.length cd1] 26)) (.cells #[.int .i64 r.gap, .bool r.noMeet] 28)).mono (by simp; try omega))).trans ((Joins.below_alloc1 ((w.alloc (.cells #[.slice Ad0 d.points.length cd0, .slice Ad1 d.segs.length cd1] 26)).alloc (.cells #[.int .i64 r.gap, .bool r.noMeet] 28)) (.cells #[.slice Aa a.length ca] 29)).mono (by simp; try omega)))
  have Kd := Lib.hid (((Blk.new w #[.slice Ad0 d.points.length cd0, .slice Ad1 d.segs.length cd1] 26).below (Joins.below_alloc1 _ (.cells #[.int .i64 r.gap, .bool r.noMeet] 28))).below (Joins.below_alloc1 _ (.cells #[.slice Aa a.length ca] 29)))
  have Kr := Lib.hid ((Blk.new (w.alloc (.cells #[.slice Ad0 d.points.length cd0, .slice Ad1 d.segs.length cd1] 26)) #[.int .i64 r.gap, .bool r.noMeet] 28).below (Joins.below_alloc1 _ (.cells #[.slice Aa a.length ca] 29)))
  rw [World.size_alloc] at Kr
  have Ka := Lib.hid (Blk.new ((w.alloc (.cells #[.slice Ad0 d.points.length cd0, .slice Ad1 d.segs.length cd1] 26)).alloc (.cells #[.int .i64 r.gap, .bool r.noMeet] 28)) #[.slice Aa a.length ca] 29)
  rw [World.size_alloc, World.size_alloc] at Ka
  have HW0 := Lib.hid hW0
  rw [← hW0] at B Kd Kr Ka
  clear hW0
  obtain ⟨x, hx⟩ : ∃ x, (chartB d && regB r) = x := ⟨_, rfl⟩
  have HX := Lib.hid hx
  cases x with
  | false =>
    have E := Lib.hid (clashB_bad (a := a) (b := b) hx)
    clear hx
    go_enter Try.func21, Try.ntmps21
    have vd0 : W0.cell? ⟨w.heap.size, 0, none⟩ = some (.slice Ad0 d.points.length cd0) := Kd.out.cell 0
    have vd1 : W0.cell? ⟨w.heap.size, 1, none⟩ = some (.slice Ad1 d.segs.length cd1) := Kd.out.cell 1
    have vr0 : W0.cell? ⟨w.heap.size + 1, 0, none⟩ = some (.int .i64 r.gap) := Kr.out.cell 0
    have vr1 : W0.cell? ⟨w.heap.size + 1, 1, none⟩ = some (.bool r.noMeet) := Kr.out.cell 1
    have va0 : W0.cell? ⟨w.heap.size + 2, 0, none⟩ = some (.slice Aa a.length ca) := Ka.out.cell 0
    go_wp2_with fail
    rw [← HW0.out]
    clear vd0 vd1 vr0 vr1 va0
    refine (hasRules_any _ _ d r _ (Rd.out.below B.out) Nd.out).mono ?_
    rw [HX.out]
    rintro e w1 ⟨rfl, hb1⟩
    have B1 := Lib.hid (B.out.trans (hb1.mono B.out.size))
    have Kd_1 := Lib.hid (Kd.out.below hb1)
    have Kr_1 := Lib.hid (Kr.out.below hb1)
    have Ka_1 := Lib.hid (Ka.out.below hb1)
    clear hb1
    go_wp2
    go_ret
    exact ⟨ret_bool E.out.symm, B1.out⟩
  | true =>
  simp only [Bool.and_eq_true] at hx
  have HC := Lib.hid hx.1
  have HR := Lib.hid hx.2
  clear hx
  go_enter Try.func21, Try.ntmps21
  have vd0 : W0.cell? ⟨w.heap.size, 0, none⟩ = some (.slice Ad0 d.points.length cd0) := Kd.out.cell 0
  have vd1 : W0.cell? ⟨w.heap.size, 1, none⟩ = some (.slice Ad1 d.segs.length cd1) := Kd.out.cell 1
  have vr0 : W0.cell? ⟨w.heap.size + 1, 0, none⟩ = some (.int .i64 r.gap) := Kr.out.cell 0
  have vr1 : W0.cell? ⟨w.heap.size + 1, 1, none⟩ = some (.bool r.noMeet) := Kr.out.cell 1
  have va0 : W0.cell? ⟨w.heap.size + 2, 0, none⟩ = some (.slice Aa a.length ca) := Ka.out.cell 0
  go_wp2_with fail
  rw [← HW0.out]
  clear vd0 vd1 vr0 vr1 va0
  refine (hasRules_any _ _ d r _ (Rd.out.below B.out) Nd.out).mono ?_
  rw [HX.out]
  rintro e w1 ⟨rfl, hb1⟩
  have B1 := Lib.hid (B.out.trans (hb1.mono B.out.size))
  have Kd_1 := Lib.hid (Kd.out.below hb1)
  have Kr_1 := Lib.hid (Kr.out.below hb1)
  have Ka_1 := Lib.hid (Ka.out.below hb1)
  clear hb1
  have vd0 : w1.cell? ⟨w.heap.size, 0, none⟩ = some (.slice Ad0 d.points.length cd0) := Kd_1.out.cell 0
  have vd1 : w1.cell? ⟨w.heap.size, 1, none⟩ = some (.slice Ad1 d.segs.length cd1) := Kd_1.out.cell 1
  have vr0 : w1.cell? ⟨w.heap.size + 1, 0, none⟩ = some (.int .i64 r.gap) := Kr_1.out.cell 0
  have vr1 : w1.cell? ⟨w.heap.size + 1, 1, none⟩ = some (.bool r.noMeet) := Kr_1.out.cell 1
  have va0 : w1.cell? ⟨w.heap.size + 2, 0, none⟩ = some (.slice Aa a.length ca) := Ka_1.out.cell 0
  go_wp2_with fail
  clear vd0 vd1 vr0 vr1 va0
  refine (containsFuncR _ _ d r _ a _ b _ _ _ _ (Rd.out.below B1.out) (Ra.out.below B1.out) Nd.out Na.out (Rb.out.below B1.out) Nb.out (Kd_1.out.cell 0) (Kd_1.out.cell 1) (Kr_1.out.cell 0) (Kr_1.out.cell 1) (Ka_1.out.cell 0) HC.out HR.out).mono ?_
  rintro e w2 ⟨rfl, hb2⟩
  have B2 := Lib.hid (B1.out.trans (hb2.mono B1.out.size))
  have Kd_2 := Lib.hid (Kd_1.out.below hb2)
  have Kr_2 := Lib.hid (Kr_1.out.below hb2)
  have Ka_2 := Lib.hid (Ka_1.out.below hb2)
  clear hb2
  go_wp2
  go_ret
  exact ⟨rfl, B2.out⟩
end Go.Proofs.Ytpglaffmmddcdaa
