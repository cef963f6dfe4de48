
/- What ExactStaysOk and ExactFindBerth and ExactAllotBerths and ExactBerthLoad rests on, part 14: contracts and mathematics. -/
import Derived.Test.YtghjfcnboocmjaaBa10
import Derived.Test.YtghjfcnboocmjaaBa11
import Derived.Test.YtghjfcnboocmjaaBa2
import Derived.RangeFuncNested
import Derived.RangeFuncBound
import Derived.RangeFuncCalls
import Derived.RangeFuncLeaves
import Derived.Shelf.Abstract
import Derived.Shelf.RegionOpen
import Derived.WalkKit
import Derived.OwnWalkIn
import Derived.TacticsInMore
import Derived.LoopNIn
import Derived.LoopIn
import Derived.Maps.AppendAt
import Derived.Test.YtghjfcnboocmjaaBa0
import Derived.Test.YtghjfcnboocmjaaBa1
import Derived.StillTailTactics
import Derived.Deep.AppendLies
import Derived.Laws.AppendOwn
namespace Go.Proofs.Ytghjfcnboocmjaa
open Go.RowKit
set_option maxRecDepth 100000
set_option maxHeartbeats 4000000 in
theorem specBerthLoad (v : Value) (l : List StayD) (b : Int) (w : World) (h : SlStay w v l) :
    Calls Try.prog 46 #[v, .int .i64 b] w fun e w' => e = .returned (.int .i64 (loadI l b)) ∧ Below w.heap.size w w' := by
  have HS := Lib.hid h
  have hl := h.1
  obtain ⟨A1, c1, rfl⟩ := h.at
  clear h
  obtain ⟨m, hm⟩ : ∃ m, l.length = m := ⟨_, rfl⟩
  have HM := Lib.hid hm
  rw [hm] at hl ⊢
  clear hm
  go_enter Try.func46, Try.ntmps46
  go_wp2
  go_loopw [5, 10] (fun q i wr => ∃ k : Nat, k ≤ m ∧ i = .int .i64 (k : Int) ∧ q = .int .i64 (loadI (l.take k) b) ∧ Hid (Below w.heap.size w wr)) (fun _ i _ => m - (intOf i).toNat)
  case atStart => exact ⟨0, Nat.zero_le _, rfl, rfl, Lib.hid (Below.refl _ _)⟩
  case round =>
    obtain ⟨k, hk, rfl, rfl, hb⟩ := hrel
    have hzs := hb.out.size
    have hle := loadI_le l b k
    by_cases hlt : k < m
    rotate_left
    · obtain rfl : k = m := by omega
      have E := Lib.hid (show loadI (l.take k) b = loadI l b by rw [List.take_of_length_le (by rw [HM.out]; omega)])
      go_wp2
      go_ret
      exact ⟨ret_int E.out, hb.out⟩
    obtain ⟨x, hx⟩ : ∃ x, l[k]? = some x := ⟨_, List.getElem?_eq_getElem (by have := HM.out; omega)⟩
    have HN := Lib.hid (loadI_next (b := b) hx)
    rcases HS.out.2 with ⟨he, _⟩ | ⟨g, o, c', e, lpos, lcap, lc⟩
    · rw [he] at hx; simp at hx
    injection e with ea e2 e3
    subst ea
    clear e2 e3 lpos lcap
    obtain ⟨q0, q1, q2, q3⟩ := SlStay.cells lc k x hx
    have y0 := cell_onV q0 hb.out
    have y1 := cell_onV q1 hb.out
    have y2 := cell_onV q2 hb.out
    have y3 := cell_onV q3 hb.out
    clear q0 q1 q2 q3 hx lc
    go_upto_region 5 with fail
    have BL := Joins.below_alloc1 wr (.cells #[.int .i64 x.ship, .int .i64 x.berth, .int .i64 x.fr, .int .i64 x.tt] 33)
    have KN := Blk.new wr #[.int .i64 x.ship, .int .i64 x.berth, .int .i64 x.fr, .int .i64 x.tt] 33
    obtain ⟨w2, hw2⟩ : ∃ W, W = wr.alloc (.cells #[.int .i64 x.ship, .int .i64 x.berth, .int .i64 x.fr, .int .i64 x.tt] 33) := ⟨_, rfl⟩
    rw [← hw2] at BL KN ⊢
    have B2 := Lib.hid (hb.out.trans (BL.mono hb.out.size))
    have KP := Lib.hid KN
    have z0 : w2.cell? ⟨wr.heap.size, 0, none⟩ = some (.int .i64 x.ship) := KN.cell 0
    have z1 : w2.cell? ⟨wr.heap.size, 1, none⟩ = some (.int .i64 x.berth) := KN.cell 1
    have z2 : w2.cell? ⟨wr.heap.size, 2, none⟩ = some (.int .i64 x.fr) := KN.cell 2
    have z3 : w2.cell? ⟨wr.heap.size, 3, none⟩ = some (.int .i64 x.tt) := KN.cell 3
    clear BL KN hw2 y0 y1 y2 y3
    obtain ⟨S, hS⟩ : ∃ z, loadI (l.take k) b = z := ⟨_, rfl⟩
    rw [hS] at hle HN ⊢
    clear hS
    cases he1 : (x.berth == b) with
    | false =>
      have E2 := Lib.hid (HN.out.trans (if_neg (by rw [he1]; simp)))
      go_wp2
      go_roundw
      case rel => exact ⟨k + 1, by omega, by go_num, by rw [E2.out], B2⟩
      case measure => simp [intOf]; omega
    | true =>
      obtain ⟨t, ht⟩ : ∃ t, timeB x = t := ⟨_, rfl⟩
      have HT := Lib.hid ht
      have HN1 := Lib.hid (HN.out.trans (by rw [he1, ht]; rfl : _ = if t = true then S + x.tt - x.fr else S))
      clear ht
      go_wp2_with fail
      refine (specTime x _).mono ?_
      rw [HT.out]
      rintro e w3 ⟨rfl, hb3⟩
      have B3 := Lib.hid (B2.out.trans (hb3.mono B2.out.size))
      have z2 : w3.cell? ⟨wr.heap.size, 2, none⟩ = some (.int .i64 x.fr) := (KP.out.below hb3).cell 2
      have z3 : w3.cell? ⟨wr.heap.size, 3, none⟩ = some (.int .i64 x.tt) := (KP.out.below hb3).cell 3
      clear hb3
      cases t with
      | false =>
        have E2 := Lib.hid (HN1.out.trans (if_neg (by simp)))
        go_wp2
        go_roundw
        case rel => exact ⟨k + 1, by omega, by go_num, by rw [E2.out], B3⟩
        case measure => simp [intOf]; omega
      | true =>
        have E2 := Lib.hid (HN1.out.trans (if_pos rfl))
        have htt : 0 ≤ x.fr ∧ x.fr < x.tt ∧ x.tt ≤ 2880 := by
          have h2 := HT.out
          unfold timeB at h2
          simp only [Bool.and_eq_true] at h2
          have h3 := of_decide_eq_true h2.1.1
          have h4 := of_decide_eq_true h2.1.2
          have h5 := of_decide_eq_true h2.2
          omega
        have w1 : IntKind.i64.wrap (S + x.tt) = S + x.tt := by rw [IntKind.wrap_i64]; omega
        have w2' : IntKind.i64.wrap (S + x.tt - x.fr) = S + x.tt - x.fr := by rw [IntKind.wrap_i64]; omega
        go_wp2
        go_roundw
        case rel => exact ⟨k + 1, by omega, by go_num, by rw [E2.out], B3⟩
        case measure => simp [intOf]; omega
theorem range_at {n k : Nat} (h : k < n) : ((List.range n).map (fun b : Nat => (b : Int)))[k]? = some (k : Int) := by rw [List.getElem?_map, List.getElem?_range h]; rfl
set_option maxHeartbeats 8000000 in
theorem specFindBerth (vb : Value) (bs : List BerthD) (vf : Value) (fl : List ShipD) (v : Value) (l : List StayD) (ship fr tt : Int) (w : World) (rb : SlBerth w vb bs) (rf : SlShip w vf fl) (h : SlStay w v l) (fb : ∀ x ∈ bs, BerthD.wf x) (ff : ∀ x ∈ fl, ShipD.wf x) :
    Calls Try.prog 42 #[vb, vf, v, .int .i64 ship, .int .i64 fr, .int .i64 tt] w fun e w' => e = .returned (.int .i64 (findI bs fl l ship fr tt)) ∧ Below w.heap.size w w' := by
  have RB := Lib.hid rb
  have RF := Lib.hid rf
  have FB := Lib.hid fb
  have FF := Lib.hid ff
  have HS := Lib.hid h
  have hlb := rb.1
  obtain ⟨A0, c0, rfl⟩ := rb.at
  obtain ⟨A1, c1, rfl⟩ := rf.at
  obtain ⟨A2, c2, rfl⟩ := h.at
  clear h rb rf fb ff
  obtain ⟨nb, hnb⟩ : ∃ m, bs.length = m := ⟨_, rfl⟩
  have HNB := Lib.hid hnb
  obtain ⟨nf, hnf⟩ : ∃ m, fl.length = m := ⟨_, rfl⟩
  obtain ⟨m, hm⟩ : ∃ m, l.length = m := ⟨_, rfl⟩
  have HM := Lib.hid hm
  rw [hnb] at hlb RB
  rw [hnf] at RF
  rw [hm] at HS
  try rw [hnb]
  try rw [hnf]
  try rw [hm]
  obtain ⟨b1, hb1⟩ : ∃ t, staysB bs fl l = t := ⟨_, rfl⟩
  have H1 := Lib.hid hb1
  clear hb1 hnb hnf hm
  go_enter Try.func42, Try.ntmps42
  go_wp2_with fail
  refine (specStaysOk _ bs _ fl _ l _ RB.out RF.out HS.out FB.out FF.out).mono ?_
  rw [H1.out]
  rintro e w1 ⟨rfl, hb1⟩
  have B1 := Lib.hid hb1
  clear hb1
  cases b1 with
  | false =>
    have E := Lib.hid (show findI bs fl l ship fr tt = -1 from if_neg (by rw [H1.out]; simp))
    go_wp2
    go_ret
    exact ⟨ret_int E.out.symm, B1.out⟩
  | true =>
  have h12 : m ≤ 12 := by have := (staysB_all H1.out).2.2.1; have := HM.out; omega
  have E0 := Lib.hid (show findI bs fl l ship fr tt = firstI (fun b => staysB bs fl (l ++ [⟨ship, b, fr, tt⟩])) ((List.range nb).map (fun b : Nat => (b : Int))) by unfold findI; rw [if_pos H1.out, HNB.out])
  go_wp2
  go_loopw [21] (fun t wr => ∃ k : Nat, k ≤ nb ∧ t = .int .i64 (k : Int) ∧ Hid (NoOne (fun b => staysB bs fl (l ++ [⟨ship, b, fr, tt⟩])) ((List.range nb).map (fun b : Nat => (b : Int))) k) ∧ Hid (Below w.heap.size w wr)) (fun t _ => nb - (intOf t).toNat)
  case atStart => exact ⟨0, Nat.zero_le _, rfl, Lib.hid (NoOne.zero _ _), B1⟩
  case round =>
    obtain ⟨k, hk, rfl, hN, hb⟩ := hrel
    have hzs := hb.out.size
    by_cases hlt : k < nb
    rotate_left
    · obtain rfl : k = nb := by omega
      have E := Lib.hid (E0.out.trans (firstI_none (by rw [List.length_map, List.length_range]; exact hN.out)))
      go_wp2
      go_ret
      exact ⟨ret_int E.out.symm, hb.out⟩
    have HR := Lib.hid (range_at hlt)
    obtain ⟨t, ht⟩ : ∃ t, staysB bs fl (l ++ [⟨ship, (k : Int), fr, tt⟩]) = t := ⟨_, rfl⟩
    have HT := Lib.hid ht
    clear ht
    go_wp2_with fail
    refine (specWith _ l ⟨ship, (k : Int), fr, tt⟩ _ (HS.out.below hb.out) (by rw [HM.out]; omega)).mono ?_
    rintro e w2 ⟨v2, rfl, ho2, hb2⟩
    have B2 := Lib.hid (hb.out.trans (hb2.mono hb.out.size))
    have S2 := Lib.hid (OwnStay.sl ho2 (by rw [List.length_append, HM.out]; simp; omega))
    obtain ⟨A3, c3, rfl⟩ := own_form ho2
    obtain ⟨m3, hm3⟩ : ∃ n, (l ++ [(⟨ship, (k : Int), fr, tt⟩ : StayD)]).length = n := ⟨_, rfl⟩
    rw [hm3] at S2 ⊢
    clear ho2 hb2 hm3
    go_wp2_with fail
    refine (specStaysOk _ bs _ fl _ (l ++ [⟨ship, (k : Int), fr, tt⟩]) _ (RB.out.below B2.out) (RF.out.below B2.out) S2.out FB.out FF.out).mono ?_
    rw [HT.out]
    rintro e w3 ⟨rfl, hb3⟩
    have B3 := Lib.hid (B2.out.trans (hb3.mono B2.out.size))
    clear hb3
    cases t with
    | true =>
      have E := Lib.hid (E0.out.trans (firstI_at hN.out HR.out HT.out))
      go_wp2
      go_ret
      exact ⟨ret_int E.out.symm, B3.out⟩
    | false =>
      have N2 := Lib.hid (hN.out.next HR.out HT.out)
      go_wp2
      go_roundw
      case rel => exact ⟨k + 1, by omega, by go_num, N2, B3⟩
      case measure => simp [intOf]; omega
end Go.Proofs.Ytghjfcnboocmjaa
namespace Go.Proofs.Ytghjfcnboocmjaa
open Go.RowKit
set_option maxRecDepth 100000
theorem some_at {α β : Type} {f : α → Option β} {l : List α} {k : Nat} {x : α} {y : β} (h : (l.take k).findSome? f = none) (hx : l[k]? = some x) (hy : f x = some y) : l.findSome? f = some y := by
  have e : l = l.take k ++ (x :: l.drop (k + 1)) := by
    rw [← (List.getElem?_eq_some_iff.1 hx).2, List.getElem_cons_drop, List.take_append_drop]
  rw [e, List.findSome?_append, h, List.findSome?_cons, hy]
  rfl
theorem some_next {α β : Type} {f : α → Option β} {l : List α} {k : Nat} {x : α} (h : (l.take k).findSome? f = none) (hx : l[k]? = some x) (hy : f x = none) : (l.take (k + 1)).findSome? f = none := by
  rw [take_snoc' l k x hx, List.findSome?_append, h, List.findSome?_cons, hy]
  rfl
/-- What one more berth gives. -/
def allotF (bs : List BerthD) (fl : List ShipD) (asks : List StayD) (k : Nat) (done : List StayD) (a : StayD) (b : Nat) : Option (List StayD) := if staysB bs fl (done ++ [⟨a.ship, (b : Int), a.fr, a.tt⟩]) = true then allotR bs fl asks k (done ++ [⟨a.ship, (b : Int), a.fr, a.tt⟩]) else none
theorem allotR_succ {bs : List BerthD} {fl : List ShipD} {asks : List StayD} {k : Nat} {done : List StayD} {a : StayD} (h : asks[done.length]? = some a) : allotR bs fl asks (k + 1) done = (List.range bs.length).findSome? (allotF bs fl asks k done a) := by
  rw [allotR, h]
  rfl
/-- What l12Allot leaves. -/
def Allots (R : Option (List StayD)) (base : Nat) (w : World) (e : Ending) (w' : World) : Prop := ∃ v, e = .returned (.tuple #[v, .bool R.isSome]) ∧ OwnStay w' base v (R.getD []) ∧ Below w.heap.size w w'
set_option maxHeartbeats 16000000 in
theorem specAllot (vb : Value) (bs : List BerthD) (vf : Value) (fl : List ShipD) (va : Value) (asks : List StayD) (h6 : asks.length ≤ 6) (fb : ∀ x ∈ bs, BerthD.wf x) (ff : ∀ x ∈ fl, ShipD.wf x) : ∀ (k : Nat) (vd : Value) (done : List StayD) (base : Nat) (w : World), SlBerth w vb bs → SlShip w vf fl → SlStay w va asks → OwnStay w base vd done → base ≤ w.heap.size → done.length + k = asks.length → (k = 0 → staysB bs fl done = true ∨ done = []) →
    Calls Try.prog 78 #[vb, vf, va, vd] w (Allots (allotR bs fl asks k done) base w) := by
  intro k
  induction k with
  | zero =>
    intro vd done base w rb rf ra od hbase hlen hz
    have RB := Lib.hid rb
    have RF := Lib.hid rf
    have RD := Lib.hid (OwnStay.sl od (by omega))
    have OD := Lib.hid od
    have FB := Lib.hid fb
    have FF := Lib.hid ff
    have HZ := Lib.hid (hz rfl)
    obtain ⟨A0, c0, rfl⟩ := rb.at
    obtain ⟨A1, c1, rfl⟩ := rf.at
    obtain ⟨A2, c2, rfl⟩ := ra.at
    obtain ⟨A3, c3, rfl⟩ := own_form od
    obtain ⟨n, hn⟩ : ∃ n, asks.length = n := ⟨_, rfl⟩
    have hd : done.length = n := by omega
    rw [hd] at RD OD
    rw [hn, hd]
    have hn6 : n ≤ 6 := by omega
    obtain ⟨b, hb⟩ : ∃ b, staysB bs fl done = b := ⟨_, rfl⟩
    have HB := Lib.hid hb
    clear rb rf ra od fb ff hz hlen hn hd hb h6
    go_enter Try.func78, Try.ntmps78
    go_wp2_with fail
    refine (specStaysOk _ bs _ fl _ done _ RB.out RF.out RD.out FB.out FF.out).mono ?_
    rw [HB.out]
    rintro e w1 ⟨rfl, hb1⟩
    have B1 := Lib.hid hb1
    clear hb1
    cases b with
    | true =>
      have E := Lib.hid (show allotR bs fl asks 0 done = some done from if_pos HB.out)
      go_wp2
      refine bodyPost_ret (v := .tuple #[.slice A3 n c3, .bool true]) (by simp [results, Try.results78, go_sem]) rfl ⟨.slice A3 n c3, by rw [E.out]; rfl, by rw [E.out]; exact own_below OD.out B1.out, B1.out⟩
    | false =>
      have E := Lib.hid (show allotR bs fl asks 0 done = none from if_neg (by rw [HB.out]; simp))
      have E2 := Lib.hid (show done = [] from HZ.out.resolve_left (by rw [HB.out]; simp))
      go_wp2
      refine bodyPost_ret (v := .tuple #[.slice A3 n c3, .bool false]) (by simp [results, Try.results78, go_sem]) rfl ⟨.slice A3 n c3, by rw [E.out]; rfl, ?_, B1.out⟩
      rw [E.out]
      have h := own_below OD.out B1.out
      rw [E2.out] at h
      exact h
  | succ k ih =>
    intro vd done base w rb rf ra od hbase hlen hz
    have IH := Lib.hid ih
    have RB := Lib.hid rb
    have RF := Lib.hid rf
    have RA := Lib.hid ra
    have RD := Lib.hid (OwnStay.sl od (by omega))
    have OD := Lib.hid od
    have FB := Lib.hid fb
    have FF := Lib.hid ff
    have hlb := rb.1
    obtain ⟨a, ha⟩ : ∃ a, asks[done.length]? = some a := ⟨_, List.getElem?_eq_getElem (by omega)⟩
    have E0 := Lib.hid (allotR_succ (bs := bs) (fl := fl) (k := k) ha)
    obtain ⟨A0, c0, rfl⟩ := rb.at
    obtain ⟨A1, c1, rfl⟩ := rf.at
    obtain ⟨A2, c2, rfl⟩ := ra.at
    obtain ⟨A3, c3, rfl⟩ := own_form od
    obtain ⟨m, hm⟩ : ∃ n, done.length = n := ⟨_, rfl⟩
    have HM := Lib.hid hm
    obtain ⟨n, hn⟩ : ∃ n, asks.length = n := ⟨_, rfl⟩
    have HN := Lib.hid hn
    obtain ⟨nb, hnb⟩ : ∃ n, bs.length = n := ⟨_, rfl⟩
    have HNB := Lib.hid hnb
    have hmn : m < n := by omega
    have hn6 : n ≤ 6 := by omega
    have HMN := Lib.hid (show m + (k + 1) = n by omega)
    rw [hm] at ha RD OD
    rw [hn] at RA IH
    rw [hnb] at RB hlb IH
    try rw [hm]
    try rw [hn]
    try rw [hnb]
    rcases ra.2 with ⟨he, _⟩ | ⟨g, o, c', e, lpos, lcap, lc⟩
    · rw [he] at ha; simp at ha
    injection e with ea e2 e3
    subst ea
    clear e2 e3 lpos lcap
    obtain ⟨y0, y1, y2, y3⟩ := SlStay.cells lc m a ha
    have dn : decide ((m : Int) = (n : Int)) = false := decide_eq_false (by omega)
    have dn2 : ((m : Int) == (n : Int)) = false := by simp; omega
    have BL := Joins.below_alloc1 w (.cells #[.int .i64 a.ship, .int .i64 a.berth, .int .i64 a.fr, .int .i64 a.tt] 33)
    have KN := Blk.new w #[.int .i64 a.ship, .int .i64 a.berth, .int .i64 a.fr, .int .i64 a.tt] 33
    obtain ⟨w2, hw2⟩ : ∃ W, W = w.alloc (.cells #[.int .i64 a.ship, .int .i64 a.berth, .int .i64 a.fr, .int .i64 a.tt] 33) := ⟨_, rfl⟩
    rw [← hw2] at BL KN
    have HW2 := Lib.hid hw2
    have B2 := Lib.hid BL
    have K2 := Lib.hid KN
    clear rb rf ra od fb ff hz hlen hm hn hnb ih ha lc BL KN hw2 h6
    go_enter Try.func78, Try.ntmps78
    go_upto_region 4 with fail
    rw [← HW2.out]
    clear y0 y1 y2 y3 dn dn2
    go_wp2
    go_loopw [32] (fun t wr => ∃ (j : Nat) (z : Int), j ≤ nb ∧ t = .int .i64 (j : Int) ∧ Hid (((List.range nb).take j).findSome? (allotF bs fl asks k done a) = none) ∧ Hid (Blk wr w.heap.size #[.int .i64 a.ship, .int .i64 z, .int .i64 a.fr, .int .i64 a.tt] 33) ∧ Hid (Below w.heap.size w wr)) (fun t _ => nb - (intOf t).toNat)
    case atStart => exact ⟨0, _, Nat.zero_le _, rfl, Lib.hid rfl, K2, B2⟩
    case round =>
      obtain ⟨j, z, hj, rfl, hF, hK, hb⟩ := hrel
      have hzs := hb.out.size
      have hgl := hK.out.lt
      by_cases hlt : j < nb
      rotate_left
      · obtain rfl : j = nb := by omega
        have E := Lib.hid (E0.out.trans (show _ = none by have h := hF.out; rw [List.take_of_length_le (by simp)] at h; rw [HNB.out]; exact h))
        go_wp2
        refine bodyPost_ret (v := .tuple #[.slice none 0 0, .bool false]) (by simp [results, Try.results78, go_sem]) rfl ⟨.slice none 0 0, by rw [E.out]; rfl, by rw [E.out]; exact World.ownsRow_nil _ _ _ _, hb.out⟩
      have HR := Lib.hid (show (List.range nb)[j]? = some j from List.getElem?_range hlt)
      have KS := (hK.out).set 1 (.int .i64 (j : Int))
      simp only [List.setIfInBounds_toArray, List.set_cons_zero, List.set_cons_succ] at KS
      have bs1 := hb.out.setCell (p := ⟨w.heap.size, 1, none⟩) (Nat.le_refl _) (.int .i64 (j : Int))
      have f1 : wr.frozen? ⟨w.heap.size, 1, none⟩ = false := hK.out.free 1
      have s1 : wr.cell? ⟨w.heap.size, 1, none⟩ = some (.int .i64 z) := hK.out.cell 1
      obtain ⟨w3, hw3⟩ : ∃ W, W = wr.setCell ⟨w.heap.size, 1, none⟩ (.int .i64 (j : Int)) := ⟨_, rfl⟩
      rw [← hw3] at KS bs1
      have HW3 := Lib.hid hw3
      have K3 := Lib.hid KS
      have B3 := Lib.hid bs1
      obtain ⟨t, ht⟩ : ∃ t, staysB bs fl (done ++ [⟨a.ship, (j : Int), a.fr, a.tt⟩]) = t := ⟨_, rfl⟩
      have HT := Lib.hid ht
      clear KS bs1 hw3 ht hgl hzs
      go_upto_region 8 with fail
      rw [← HW3.out]
      clear f1 s1
      have z0 : w3.cell? ⟨w.heap.size, 0, none⟩ = some (.int .i64 a.ship) := K3.out.cell 0
      have z1 : w3.cell? ⟨w.heap.size, 1, none⟩ = some (.int .i64 (j : Int)) := K3.out.cell 1
      have z2 : w3.cell? ⟨w.heap.size, 2, none⟩ = some (.int .i64 a.fr) := K3.out.cell 2
      have z3 : w3.cell? ⟨w.heap.size, 3, none⟩ = some (.int .i64 a.tt) := K3.out.cell 3
      go_wp2_with fail
      clear z0 z1 z2 z3
      refine (specWith _ done ⟨a.ship, (j : Int), a.fr, a.tt⟩ _ (RD.out.below B3.out) (by rw [HM.out]; omega)).mono ?_
      rintro e w4 ⟨v4, rfl, ho4, hb4⟩
      have B4 := Lib.hid (B3.out.trans (hb4.mono B3.out.size))
      have K4 := Lib.hid (K3.out.below hb4)
      have O4 := Lib.hid (own_lo ho4 (show base ≤ w3.heap.size from Nat.le_trans hbase B3.out.size))
      have S4 := Lib.hid (OwnStay.sl ho4 (by rw [List.length_append, HM.out]; simp; omega))
      obtain ⟨A4, c4, rfl⟩ := own_form ho4
      obtain ⟨nx, hnx⟩ : ∃ x, done ++ [(⟨a.ship, (j : Int), a.fr, a.tt⟩ : StayD)] = x := ⟨_, rfl⟩
      have HNX := Lib.hid hnx
      have hnl : nx.length = m + 1 := by rw [← hnx, List.length_append, HM.out]; rfl
      rw [hnx] at O4 S4 HT ⊢
      rw [hnl] at O4 S4 ⊢
      have HNL := Lib.hid hnl
      clear ho4 hb4 hnx hnl
      go_wp2_with fail
      refine (specStaysOk _ bs _ fl _ nx _ (RB.out.below B4.out) (RF.out.below B4.out) S4.out FB.out FF.out).mono ?_
      rw [HT.out]
      rintro e w5 ⟨rfl, hb5⟩
      have B5 := Lib.hid (B4.out.trans (hb5.mono B4.out.size))
      have K5 := Lib.hid (K4.out.below hb5)
      have O5 := Lib.hid (own_below O4.out hb5)
      clear hb5
      cases t with
      | false =>
        have F2 := Lib.hid (some_next hF.out HR.out (show allotF bs fl asks k done a j = none by unfold allotF; rw [HNX.out]; exact if_neg (by rw [HT.out]; simp)))
        go_wp2
        go_roundw
        case rel => exact ⟨j + 1, _, by omega, by go_num, F2, K5, B5⟩
        case measure => simp [intOf]; omega
      | true =>
        have EF := Lib.hid (show allotF bs fl asks k done a j = allotR bs fl asks k nx by unfold allotF; rw [HNX.out]; exact if_pos HT.out)
        obtain ⟨R, hR⟩ : ∃ R, allotR bs fl asks k nx = R := ⟨_, rfl⟩
        have HRR := Lib.hid hR
        have CI := Lib.hid (IH.out (.slice A4 (m + 1) c4) nx base w5 (RB.out.below B5.out) (RF.out.below B5.out) (RA.out.below B5.out) O5.out (Nat.le_trans hbase B5.out.size) (by have := HNL.out; have := HMN.out; omega) (fun _ => .inl HT.out))
        rw [hR] at CI
        clear hR
        obtain ⟨r, hr⟩ : ∃ r, R.isSome = r := ⟨_, rfl⟩
        have HRS := Lib.hid hr
        clear hr
        go_wp2_with fail
        refine CI.out.mono ?_
        rintro e w6 ⟨v6, rfl, ho6, hb6⟩
        rw [HRS.out]
        have B6 := Lib.hid (B5.out.trans (hb6.mono B5.out.size))
        have K6 := Lib.hid (K5.out.below hb6)
        have O6 := Lib.hid ho6
        obtain ⟨A6, c6, hv6⟩ := own_form ho6
        obtain ⟨n6, hn6'⟩ : ∃ n, (R.getD []).length = n := ⟨_, rfl⟩
        rw [hn6'] at hv6
        subst hv6
        clear ho6 hb6 hn6' CI
        cases r with
        | false =>
          have F2 := Lib.hid (some_next hF.out HR.out (EF.out.trans (HRR.out.trans (by have := HRS.out; simpa using this))))
          go_wp2
          go_roundw
          case rel => exact ⟨j + 1, _, by omega, by go_num, F2, K6, B6⟩
          case measure => simp [intOf]; omega
        | true =>
          obtain ⟨out, hout⟩ := Option.isSome_iff_exists.1 HRS.out
          have E := Lib.hid (show allotR bs fl asks (k + 1) done = some out from E0.out.trans (by rw [HNB.out]; exact some_at hF.out HR.out (EF.out.trans (HRR.out.trans hout))))
          have O7 := Lib.hid (show OwnStay w6 base (.slice A6 n6 c6) out by have h := O6.out; rw [hout] at h; exact h)
          clear hout
          go_wp2
          refine bodyPost_ret (v := .tuple #[.slice A6 n6 c6, .bool true]) (by simp [results, Try.results78, go_sem]) rfl ⟨.slice A6 n6 c6, by rw [E.out]; rfl, by rw [E.out]; exact O7.out, B6.out⟩
/-- What AllotBerths leaves. -/
def NewAllot (R : Option (List StayD)) (w : World) (e : Ending) (w' : World) : Prop := ∃ v, e = .returned (.tuple #[v, .bool R.isSome]) ∧ OwnStay w' w.heap.size v (R.getD []) ∧ Below w.heap.size w w'
theorem allotO_len (bs : List BerthD) (fl : List ShipD) (asks : List StayD) : ((allotO bs fl asks).getD []).length ≤ 6 := by
  cases h : allotO bs fl asks with
  | none => exact Nat.zero_le _
  | some out =>
    have h2 := (allotO_some h).2.1
    unfold allotO at h
    split at h
    · show out.length ≤ 6; omega
    · cases h
set_option maxHeartbeats 4000000 in
theorem specAllotBerths (vb : Value) (bs : List BerthD) (vf : Value) (fl : List ShipD) (va : Value) (asks : List StayD) (w : World) (rb : SlBerth w vb bs) (rf : SlShip w vf fl) (ra : SlStay w va asks) (fb : ∀ x ∈ bs, BerthD.wf x) (ff : ∀ x ∈ fl, ShipD.wf x) :
    Calls Try.prog 43 #[vb, vf, va] w (NewAllot (allotO bs fl asks) w) := by
  have hl := ra.1
  have hb1 := Joins.below_alloc1 w (.cells #[] 33)
  have OM := (LivO.build (LivO.nil (k := 4) (cs := StayD.cells) (t := 33) w) stayLen 0 [] (by simp)).own _ List.mem_cons_self
  have B1 := Lib.hid hb1
  have CA := Lib.hid (fun (h6 : asks.length ≤ 6) => specAllot vb bs vf fl va asks h6 fb ff asks.length (.slice (some ⟨w.heap.size, 0, none⟩) 0 0) [] w.heap.size (w.alloc (.cells #[] 33)) (rb.below hb1) (rf.below hb1) (ra.below hb1) OM (by simp) (by simp) (fun _ => .inr rfl))
  obtain ⟨A0, c0, rfl⟩ := rb.at
  obtain ⟨A1, c1, rfl⟩ := rf.at
  obtain ⟨A2, c2, rfl⟩ := ra.at
  obtain ⟨n, hn⟩ : ∃ n, asks.length = n := ⟨_, rfl⟩
  have HN := Lib.hid hn
  rw [hn] at hl CA ⊢
  clear rb rf ra fb ff hb1 OM hn
  by_cases h6 : 6 < n
  · have g6 : decide ((6 : Int) < (n : Int)) = true := decide_eq_true (by omega)
    have E := Lib.hid (show allotO bs fl asks = none from if_neg (by rw [HN.out]; omega))
    go_enter Try.func43, Try.ntmps43
    go_wp2
    refine bodyPost_ret (v := .tuple #[.slice none 0 0, .bool false]) (by simp [results, Try.results43, go_sem]) rfl ⟨.slice none 0 0, by rw [E.out]; rfl, by rw [E.out]; exact World.ownsRow_nil _ _ _ _, Below.refl _ _⟩
  · have g6 : decide ((6 : Int) < (n : Int)) = false := decide_eq_false (by omega)
    have E := Lib.hid (show allotO bs fl asks = allotR bs fl asks n [] by unfold allotO; rw [HN.out]; exact if_pos (by omega))
    have C := Lib.hid (CA.out (by omega))
    rw [E.out]
    clear CA
    obtain ⟨R, hR⟩ : ∃ R, allotR bs fl asks n [] = R := ⟨_, rfl⟩
    rw [hR] at C ⊢
    clear hR E
    go_enter Try.func43, Try.ntmps43
    go_wp2_with fail
    refine C.out.mono ?_
    rintro e w2 ⟨v2, rfl, ho2, hb2⟩
    have O2 := Lib.hid ho2
    have B2 := Lib.hid (B1.out.trans (hb2.mono B1.out.size))
    obtain ⟨r, hr⟩ : ∃ r, R.isSome = r := ⟨_, rfl⟩
    have HR := Lib.hid hr
    rw [hr]
    obtain ⟨A6, c6, hv6⟩ := own_form ho2
    obtain ⟨n6, hn6'⟩ : ∃ n, (R.getD []).length = n := ⟨_, rfl⟩
    rw [hn6'] at hv6
    subst hv6
    clear ho2 hb2 hr hn6' C
    go_wp2
    refine bodyPost_ret (v := .tuple #[.slice A6 n6 c6, .bool r]) (by simp [results, Try.results43, go_sem]) rfl ⟨.slice A6 n6 c6, by rw [HR.out], O2.out, B2.out⟩
end Go.Proofs.Ytghjfcnboocmjaa
