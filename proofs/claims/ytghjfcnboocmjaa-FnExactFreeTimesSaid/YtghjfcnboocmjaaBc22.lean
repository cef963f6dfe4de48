
/- What ExactFreeTimes and BerthsLaw rests on, part 22: contracts and mathematics. -/
import Derived.Test.YtghjfcnboocmjaaBc12
import Derived.Test.YtghjfcnboocmjaaBc19
import Derived.Test.YtghjfcnboocmjaaBc13
import Derived.Test.YtghjfcnboocmjaaBc11
import Derived.Deep.RegionHeld3
import Derived.Test.YtghjfcnboocmjaaBc15
import Derived.Test.YtghjfcnboocmjaaBc18
namespace Go.Proofs.Ytghjfcnboocmjaa
open Go.RowKit
set_option maxRecDepth 100000
theorem some_at {α β : Type} {f : α → Option β} {l : List α} {k : Nat} {x : α} {y : β} (h : (l.take k).findSome? f = none) (hx : l[k]? = some x) (hy : f x = some y) : l.findSome? f = some y := by
  have e : l = l.take k ++ (x :: l.drop (k + 1)) := by
    rw [← (List.getElem?_eq_some_iff.1 hx).2, List.getElem_cons_drop, List.take_append_drop]
  rw [e, List.findSome?_append, h, List.findSome?_cons, hy]
  rfl
theorem some_next {α β : Type} {f : α → Option β} {l : List α} {k : Nat} {x : α} (h : (l.take k).findSome? f = none) (hx : l[k]? = some x) (hy : f x = none) : (l.take (k + 1)).findSome? f = none := by
  rw [take_snoc' l k x hx, List.findSome?_append, h, List.findSome?_cons, hy]
  rfl
/-- What one more berth gives. -/
def allotF (bs : List BerthD) (fl : List ShipD) (asks : List StayD) (k : Nat) (done : List StayD) (a : StayD) (b : Nat) : Option (List StayD) := if staysB bs fl (done ++ [⟨a.ship, (b : Int), a.fr, a.tt⟩]) = true then allotR bs fl asks k (done ++ [⟨a.ship, (b : Int), a.fr, a.tt⟩]) else none
theorem allotR_succ {bs : List BerthD} {fl : List ShipD} {asks : List StayD} {k : Nat} {done : List StayD} {a : StayD} (h : asks[done.length]? = some a) : allotR bs fl asks (k + 1) done = (List.range bs.length).findSome? (allotF bs fl asks k done a) := by
  rw [allotR, h]
  rfl
/-- What AllotBerths leaves. -/
def NewAllot (R : Option (List StayD)) (w : World) (e : Ending) (w' : World) : Prop := ∃ v, e = .returned (.tuple #[v, .bool R.isSome]) ∧ OwnStay w' w.heap.size v (R.getD []) ∧ Below w.heap.size w w'
end Go.Proofs.Ytghjfcnboocmjaa
namespace Go.Proofs.Ytghjfcnboocmjaa
open Go.RowKit
set_option maxRecDepth 100000
theorem berthB_len {b : BerthD} (h : berthB b = true) : 10 ≤ b.length := by
  unfold berthB inB at h
  simp only [Bool.and_eq_true, decide_eq_true_iff] at h
  exact h.1.2.1
set_option maxHeartbeats 8000000 in
theorem implFreeTimes (vb : Value) (bs : List BerthD) (v : Value) (l : List StayD) (b : Int) (w : World) (rb : SlBerth w vb bs) (h : SlStay w v l) (fb : ∀ x ∈ bs, BerthD.wf x) (fs : ∀ x ∈ l, StayD.wf x) (hn : l.length ≤ 4000000) :
    Calls Try.prog 16 #[vb, v, .int .i64 b] w (NewWindow (freeL bs l b) w) := by
  have RB := Lib.hid rb
  have FB := Lib.hid fb
  have FS := Lib.hid fs
  have HS := Lib.hid h
  have hlb := rb.1
  obtain ⟨A0, c0, rfl⟩ := rb.at
  obtain ⟨A1, c1, rfl⟩ := h.at
  clear h rb fb fs
  obtain ⟨m, hm⟩ : ∃ m, l.length = m := ⟨_, rfl⟩
  have HM := Lib.hid hm
  obtain ⟨nb, hnb⟩ : ∃ m, bs.length = m := ⟨_, rfl⟩
  have HNB := Lib.hid hnb
  rw [hm] at hn HS
  rw [hnb] at hlb RB
  try rw [hm]
  try rw [hnb]
  clear hm hnb
  obtain ⟨b1, hb1⟩ : ∃ t, berthsB bs = t := ⟨_, rfl⟩
  have H1 := Lib.hid hb1
  obtain ⟨b2, hb2⟩ : ∃ t, inB b 0 ((nb : Int) - 1) = t := ⟨_, rfl⟩
  have H2 := Lib.hid hb2
  clear hb1 hb2
  have ws : IntKind.i64.wrap ((nb : Int) - 1) = (nb : Int) - 1 := by rw [IntKind.wrap_i64]; omega
  go_enter Try.func16, Try.ntmps16
  go_wp2_with fail
  refine (implBerthsOk _ bs _ RB.out FB.out).mono ?_
  rw [H1.out]
  rintro e wb ⟨rfl, hb1⟩
  have BB := Lib.hid hb1
  clear hb1
  cases b1 with
  | false =>
    have E := Lib.hid (freeL_bad (l := l) (b := b) (show ¬ (berthsB bs = true ∧ _) by rw [H1.out]; simp))
    go_wp2
    go_ret
    exact ⟨_, rfl, by rw [E.out]; exact World.ownsRow_nil _ _ _ _, BB.out⟩
  | true =>
  clear ws
  cases b2 with
  | false =>
    have HBB := Lib.hid (bAt_no (bs := bs) (i := b) (by rw [HNB.out]; intro hh; have := of_decide_eq_false H2.out; omega))
    have E := Lib.hid (freeL_bad (bs := bs) (l := l) (b := b) (by rw [HNB.out, H2.out]; simp))
    go_wp2_with fail
    refine (berthAt_any _ bs b _ (RB.out.below BB.out)).mono ?_
    rw [HBB.out]
    unfold noBerth
    rintro e w1 ⟨rfl, hb1⟩
    have B1 := Lib.hid (BB.out.trans (hb1.mono BB.out.size))
    clear hb1
    go_wp2
    go_ret
    exact ⟨_, rfl, by rw [E.out]; exact World.ownsRow_nil _ _ _ _, B1.out⟩
  | true =>
  have hin := of_decide_eq_true (show decide (0 ≤ b ∧ b ≤ (nb : Int) - 1) = true from H2.out)
  obtain ⟨bb, hbb⟩ : ∃ x, bs[b.toNat]? = some x := ⟨_, List.getElem?_eq_getElem (by have := HNB.out; omega)⟩
  have HBB := Lib.hid (show bAt bs b = bb by have h := bAt_at hbb; rwa [Int.toNat_of_nonneg hin.1] at h)
  have hl10 : 10 ≤ bb.length := berthB_len (berthsB_at H1.out hbb)
  have gl : (bb.length == 0) = false := by simp; omega
  clear hbb hin hl10
  go_wp2_with fail
  refine (berthAt_any _ bs b _ (RB.out.below BB.out)).mono ?_
  rw [HBB.out]
  rintro e w1 ⟨rfl, hb1⟩
  have B1 := Lib.hid (BB.out.trans (hb1.mono BB.out.size))
  clear hb1
  have E0 := Lib.hid (freeL_ok (l := l) H1.out (by rw [HNB.out]; exact H2.out))
  have L0 := Lib.hid (show LivW w1 w1 [(0, .slice none 0 0, [])] from LivO.mk (fun p hp => by obtain rfl := List.mem_singleton.1 hp; exact World.ownsRow_nil _ _ _ _) (fun p hp q hq hne => by obtain rfl := List.mem_singleton.1 hp; obtain rfl := List.mem_singleton.1 hq; exact absurd rfl hne) (Below.refl _ _))
  go_wp2
  go_loopw [7, 22] (fun q t wr => ∃ (k : Nat) (u : Value), k ≤ m ∧ t = .int .i64 (k : Int) ∧ q = u ∧ Hid (LivW w1 wr [(0, u, usedL (l.take k) b)])) (fun _ t _ => m - (intOf t).toNat)
  case atStart => exact ⟨0, _, Nat.zero_le _, rfl, rfl, L0⟩
  case round =>
    obtain ⟨k, u, hk, rfl, rfl, hL⟩ := hrel
    have BR := Lib.hid (B1.out.trans (hL.out.low.mono B1.out.size))
    have hzs := BR.out.size
    by_cases hlt : k < m
    rotate_left
    · obtain rfl : k = m := by omega
      have HO := hL.out.own _ List.mem_cons_self
      have hul := usedL_len (l.take k) b
      rw [List.length_take, HM.out] at hul
      have HSU := Lib.hid (own_sl windowLen HO (by show (usedL (l.take k) b).length ≤ _; omega))
      have E1 := Lib.hid (show usedL (l.take k) b = usedL l b by rw [List.take_of_length_le (by rw [HM.out]; omega)])
      obtain ⟨Au, cu, hu⟩ := own_form HO
      simp only at hu
      subst hu
      clear HO
      go_wp2_with fail
      refine (implGatherWindows _ (usedL (l.take k) b) _ HSU.out).mono ?_
      rintro e w3 ⟨v3, rfl, ho3, hb3⟩
      have S3 := Lib.hid (own_sl windowLen ho3 (by have := gathL_len (usedL (l.take k) b); omega))
      have B3 := Lib.hid (BR.out.trans (hb3.mono BR.out.size))
      obtain ⟨A3, c3, rfl⟩ := own_form ho3
      clear ho3 hb3
      go_wp2_with fail
      refine (implOtherWindows _ _ _ S3.out).mono ?_
      rintro e w4 ⟨v4, rfl, ho4, hb4⟩
      have O4 := Lib.hid ho4
      have B4 := Lib.hid (B3.out.trans (hb4.mono B3.out.size))
      obtain ⟨A4, c4, rfl⟩ := own_form ho4
      clear ho4 hb4
      go_wp2
      go_ret
      exact ⟨_, rfl, by rw [E0.out, ← E1.out]; exact own_lo O4.out B3.out.size, B4.out⟩
    obtain ⟨x, hx⟩ : ∃ x, l[k]? = some x := ⟨_, List.getElem?_eq_getElem (by have := HM.out; omega)⟩
    have XW := Lib.hid (FS.out x (List.mem_of_getElem? hx))
    have HN := Lib.hid (usedL_next (b := b) hx)
    have hul := usedL_len (l.take k) b
    rw [List.length_take, HM.out] at hul
    have HUL := Lib.hid hul
    rcases HS.out.2 with ⟨he, _⟩ | ⟨g, o, c', e, lpos, lcap, lc⟩
    · rw [he] at hx; simp at hx
    injection e with ea e2 e3
    subst ea
    clear e2 e3 lpos lcap hul
    obtain ⟨q0, q1, q2, q3⟩ := SlStay.cells lc k x hx
    have y0 := cell_onV q0 BR.out
    have y1 := cell_onV q1 BR.out
    have y2 := cell_onV q2 BR.out
    have y3 := cell_onV q3 BR.out
    have LB := Lib.hid (show LivW w1 (wr.alloc (.cells #[.int .i64 x.ship, .int .i64 x.berth, .int .i64 x.fr, .int .i64 x.tt] 33)) _ from LivO.mk (fun p hp => own_below (hL.out.own p hp) (Joins.below_alloc1 wr _)) hL.out.ap (hL.out.low.trans ((Joins.below_alloc1 wr _).mono hL.out.low.size)))
    clear q0 q1 q2 q3 hx lc
    cases he1 : (x.berth == b) with
    | false =>
      have E2 := Lib.hid (HN.out.trans (by rw [if_neg (by unfold atBerth; rw [he1]; simp), List.append_nil]))
      go_wp2
      go_roundw
      case rel => exact ⟨k + 1, _, by omega, by go_num, rfl, by rw [E2.out]; exact LB⟩
      case measure => simp [intOf]; omega
    | true =>
      by_cases hft : x.fr < x.tt
      · have d1 : decide (x.fr < x.tt) = true := decide_eq_true hft
        have hwt := XW.out.2.2.1
        have hwt2 := XW.out.2.2.2
        have E2 := Lib.hid (HN.out.trans (by rw [if_pos (by unfold atBerth; rw [he1, d1]; rfl)] : _ = usedL (l.take k) b ++ [winOf x]))
        have w1' : IntKind.i64.wrap (x.tt - 1) = x.tt - 1 := by
          simp [Lit.wf, IntKind.min, IntKind.max, IntKind.signed, IntKind.bits] at hwt hwt2
          rw [IntKind.wrap_i64]; omega
        have L2 := Lib.hid (show LivW w1 ((wr.alloc (.cells #[.int .i64 x.ship, .int .i64 x.berth, .int .i64 x.fr, .int .i64 x.tt] 33)).alloc (.cells #[.int .i64 x.fr, .int .i64 (x.tt - 1)] 86)) ((1, .slice (some ⟨(wr.alloc (.cells #[.int .i64 x.ship, .int .i64 x.berth, .int .i64 x.fr, .int .i64 x.tt] 33)).heap.size, 0, none⟩) 1 1, [winOf x]) :: [(0, u7, usedL (l.take k) b)]) from LivO.build LB.out windowLen 1 [winOf x] (by simp))
        have HNW := Lib.hid (own_sl windowLen (L2.out.own _ List.mem_cons_self) (by simp))
        clear hwt hwt2
        go_wp2_with (at_builtin; refine wpList_plain rfl fun K hK => wp_of_stepO (ops := #[]) rfl (step_livW L2.out (L' := []) (τ := 0) (v := u7) (u := .slice (some ⟨wr.heap.size + 1, 0, none⟩) 1 1) (l := usedL (l.take k) b) (m := [winOf x]) 0 rfl (.tmp 37) (.tmp 44) rfl rfl rfl (List.mem_cons_of_mem _ List.mem_cons_self) (by have h := HNW.out; rw [World.size_alloc] at h; exact h) (by have := HUL.out; simp; omega) (fun q hq => by cases hq) ?_); intro v5 x5 hl5; refine hK _ _ ?_; have L5 := Lib.hid hl5; clear hl5)
        go_roundw
        case rel => exact ⟨k + 1, _, by omega, by go_num, rfl, by rw [E2.out]; exact L5⟩
        case measure => simp [intOf]; omega
      · have d1 : decide (x.fr < x.tt) = false := decide_eq_false hft
        have E2 := Lib.hid (HN.out.trans (by rw [if_neg (by unfold atBerth; rw [d1]; simp), List.append_nil]))
        go_wp2
        go_roundw
        case rel => exact ⟨k + 1, _, by omega, by go_num, rfl, by rw [E2.out]; exact LB⟩
        case measure => simp [intOf]; omega
end Go.Proofs.Ytghjfcnboocmjaa
