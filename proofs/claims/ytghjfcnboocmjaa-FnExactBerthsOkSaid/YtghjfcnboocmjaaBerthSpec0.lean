
/- Berths, the model's side: BerthsOk, FitsBerth, l12Time, BerthLoad: contracts. -/
import Derived.Test.YtghjfcnboocmjaaBerthMath
import Derived.Test.YtghjfcnboocmjaaNames
import Derived.Test.YtghjfcnboocmjaaShipOk
import Derived.Test.YtghjfcnboocmjaaSlPart
import Derived.Test.YtghjfcnboocmjaaBlk
import Derived.Test.YtghjfcnboocmjaaBox
import Derived.Deep.DeepCutAuto
namespace Go.Proofs.Ytghjfcnboocmjaa
open Go.RowKit
set_option maxRecDepth 100000

set_option maxHeartbeats 8000000 in
theorem specBerthsOk (v : Value) (l : List BerthD) (w : World) (h : SlBerth w v l) (hw : ∀ x ∈ l, BerthD.wf x) :
    Calls Try.prog 21 #[v] w fun e w' => e = .returned (.bool (berthsB l)) ∧ Below w.heap.size w w' := by
  have HS := Lib.hid h
  have HWF := Lib.hid hw
  have hl := h.1
  obtain ⟨A1, c1, rfl⟩ := h.at
  have hcap : 0 < l.length → l.length ≤ c1 := fun h0 => by
    rcases h.2 with ⟨he, _⟩ | ⟨g, o, c, e, _, hc, _⟩
    · rw [he] at h0; simp at h0
    · injection e with _ _ e3; omega
  have HCAP := Lib.hid hcap
  clear h hw hcap
  obtain ⟨m, hm⟩ : ∃ m, l.length = m := ⟨_, rfl⟩
  have HM := Lib.hid hm
  rw [hm] at hl HCAP HS ⊢
  clear hm
  by_cases hlen : 4 < m
  · have E := Lib.hid (berthsB_long (l := l) (by rw [HM.out]; omega))
    have g4 : decide ((4 : Int) < (m : Int)) = true := decide_eq_true (by omega)
    go_enter Try.func21, Try.ntmps21
    go_wp2
    go_ret
    exact ⟨ret_bool E.out.symm, Below.refl _ _⟩
  have g4 : decide ((4 : Int) < (m : Int)) = false := decide_eq_false (by omega)
  go_enter Try.func21, Try.ntmps21
  go_wp2
  go_loopw [12] (fun i wr => ∃ k : Nat, k ≤ m ∧ i = .int .i64 (k : Int) ∧ Hid (RunTo pBerth l k) ∧ Hid (Below w.heap.size w wr)) (fun i _ => m - (intOf i).toNat)
  case atStart => exact ⟨0, Nat.zero_le _, rfl, Lib.hid (RunTo.zero _ _), Lib.hid (Below.refl _ _)⟩
  case round =>
    obtain ⟨k, hk, rfl, hR, hb⟩ := hrel
    have hzs := hb.out.size
    by_cases hlt : k < m
    rotate_left
    · obtain rfl : k = m := by omega
      have E := Lib.hid (berthsB_yes (l := l) (by rw [HM.out]; omega) (by rw [HM.out]; exact hR.out))
      go_wp2
      go_ret
      exact ⟨ret_bool E.out.symm, hb.out⟩
    have hcap := HCAP.out (by omega)
    obtain ⟨x, hx⟩ : ∃ x, l[k]? = some x := ⟨_, List.getElem?_eq_getElem (by have := HM.out; omega)⟩
    have XW := Lib.hid (HWF.out x (List.mem_of_getElem? hx))
    have HX := Lib.hid hx
    have TK := Lib.hid (SlOf.takeP (k := k) (show SlOf 3 BerthD.cells w (.slice A1 l.length c1) l by rw [HM.out]; exact HS.out) (by have := HM.out; omega))
    rcases HS.out.2 with ⟨he, _⟩ | ⟨g, o, c', e, lpos, lcap, lc⟩
    · rw [he] at hx; simp at hx
    injection e with ea e2 e3
    subst ea
    clear e2 e3 lpos lcap
    obtain ⟨q0, q1, q2⟩ := SlBerth.cells lc k x hx
    have y0 := cell_onV q0 hb.out
    have y1 := cell_onV q1 hb.out
    have y2 := cell_onV q2 hb.out
    have HLC := Lib.hid lc
    clear q0 q1 q2 hx lc
    go_upto_region 6 with fail
    have BL := Joins.below_alloc1 wr (.cells #[.string x.name, .int .i64 x.length, .int .i64 x.depth] 41)
    have KN := Blk.new wr #[.string x.name, .int .i64 x.length, .int .i64 x.depth] 41
    obtain ⟨wo, hwo⟩ : ∃ W, W = wr := ⟨_, rfl⟩
    obtain ⟨w2, hw2⟩ : ∃ W, W = wr.alloc (.cells #[.string x.name, .int .i64 x.length, .int .i64 x.depth] 41) := ⟨_, rfl⟩
    rw [← hw2] at BL KN ⊢
    have B2 := Lib.hid (hb.out.trans (BL.mono hb.out.size))
    have KP := Lib.hid KN
    have z0 : w2.cell? ⟨wr.heap.size, 0, none⟩ = some (.string x.name) := KN.cell 0
    have z1 : w2.cell? ⟨wr.heap.size, 1, none⟩ = some (.int .i64 x.length) := KN.cell 1
    have z2 : w2.cell? ⟨wr.heap.size, 2, none⟩ = some (.int .i64 x.depth) := KN.cell 2
    rw [← hwo] at z0 z1 z2 KP hb hzs ⊢
    clear BL KN hw2 hwo y0 y1 y2
    obtain ⟨b1, hb1⟩ : ∃ b, nameB x.name = b := ⟨_, rfl⟩
    obtain ⟨b2, hb2⟩ : ∃ b, inB x.length 10 400 = b := ⟨_, rfl⟩
    obtain ⟨b3, hb3⟩ : ∃ b, inB x.depth 0 3000 = b := ⟨_, rfl⟩
    have EB := Lib.hid (show berthB x = (b1 && b2 && b3) by unfold berthB; rw [hb1, hb2, hb3])
    have H1 := Lib.hid hb1
    have H2 := Lib.hid hb2
    have H3 := Lib.hid hb3
    clear hb1 hb2 hb3
    go_wp2_with fail
    refine (specIsName x.name _ XW.out.1).mono ?_
    rw [H1.out]
    rintro e w3 ⟨rfl, rfl⟩
    cases b1 with
    | false =>
      have E := Lib.hid (berthsB_no HX.out (by unfold pBerth; rw [EB.out]; rfl))
      go_wp2
      go_ret
      exact ⟨ret_bool E.out.symm, B2.out⟩
    | true =>
    go_wp2_with fail
    refine (l01In_any _ _ _ _).mono ?_
    rw [H2.out]
    rintro e w3 ⟨rfl, rfl⟩
    cases b2 with
    | false =>
      have E := Lib.hid (berthsB_no HX.out (by unfold pBerth; rw [EB.out]; rfl))
      go_wp2
      go_ret
      exact ⟨ret_bool E.out.symm, B2.out⟩
    | true =>
    go_wp2_with fail
    refine (l01In_any _ _ _ _).mono ?_
    rw [H3.out]
    rintro e w3 ⟨rfl, rfl⟩
    cases b3 with
    | false =>
      have E := Lib.hid (berthsB_no HX.out (by unfold pBerth; rw [EB.out]; rfl))
      go_wp2
      go_ret
      exact ⟨ret_bool E.out.symm, B2.out⟩
    | true =>
    have hkc : (0 : Int) ≤ (k : Int) ∧ (k : Int) ≤ (c1 : Int) := by omega
    clear z1 z2 z0
    go_wp2
    go_loopw [37] (fun t wx => ∃ j : Nat, j ≤ k ∧ t = .int .i64 (j : Int) ∧ Hid (NoneTo (sameName x) l j) ∧ Hid (Below w2.heap.size w2 wx)) (fun t _ => k - (intOf t).toNat)
    case atStart => exact ⟨0, Nat.zero_le _, rfl, Lib.hid (NoneTo.zero _ _), Lib.hid (Below.refl _ _)⟩
    case round =>
      obtain ⟨j, hj, rfl, hN, hbx⟩ := hrel
      have B3 := Lib.hid (B2.out.trans (hbx.out.mono B2.out.size))
      have hzx := B3.out.size
      by_cases hjk : j < k
      · obtain ⟨y, hy⟩ : ∃ y, l[j]? = some y := ⟨_, List.getElem?_eq_getElem (by have := HM.out; omega)⟩
        obtain ⟨q0, q1, q2⟩ := SlBerth.cells HLC.out j y hy
        have y0 := cell_onV q0 B3.out
        have y1 := cell_onV q1 B3.out
        have y2 := cell_onV q2 B3.out
        have HY := Lib.hid hy
        have z0 : wr.cell? ⟨wo.heap.size, 0, none⟩ = some (.string x.name) := (KP.out.below hbx.out).cell 0
        have BY := Lib.hid (hbx.out.alloc hbx.out.size (.cells #[.string y.name, .int .i64 y.length, .int .i64 y.depth] 41))
        have hwz : wo.heap.size < wr.heap.size := (KP.out.below hbx.out).lt
        clear q0 q1 q2 hy
        cases hn : (y.name.toList == x.name.toList) with
        | true =>
          have E := Lib.hid (berthsB_no HX.out (by unfold pBerth; rw [any_at HY.out hjk hn]; simp))
          go_wp2
          go_ret
          exact ⟨ret_bool E.out.symm, B2.out.trans (BY.out.mono B2.out.size)⟩
        | false =>
          have N2 := Lib.hid (hN.out.next HY.out hn)
          go_wp2
          go_roundw
          case rel => exact ⟨j + 1, by omega, by go_num, N2, BY⟩
          case measure => simp [intOf]; omega
      · obtain rfl : j = k := by omega
        have R2 := Lib.hid (hR.out.next HX.out (by unfold pBerth; rw [EB.out, hN.out]; rfl))
        go_wp2
        go_roundw
        case rel => exact ⟨j + 1, by omega, by go_num, R2, B3⟩
        case measure => simp [intOf]; omega

set_option maxHeartbeats 4000000 in
theorem specFitsBerth (b : BerthD) (s : ShipD) (w : World) (_ : b.wf) (hs : s.wf) :
    Calls Try.prog 26 #[b.val, s.val] w fun e w' => e = .returned (.bool (fitB b s)) ∧ Below w.heap.size w w' := by
  have NS := Lib.hid hs
  clear hs
  have bl1 := Joins.below_alloc1 w (.cells #[.string b.name, .int .i64 b.length, .int .i64 b.depth] 41)
  have K1 := Blk.new w #[.string b.name, .int .i64 b.length, .int .i64 b.depth] 41
  obtain ⟨W1, hW1⟩ : ∃ W, W = w.alloc (.cells #[.string b.name, .int .i64 b.length, .int .i64 b.depth] 41) := ⟨_, rfl⟩
  have hz1 : W1.heap.size = w.heap.size + 1 := by rw [hW1]; simp
  rw [← hW1] at bl1 K1
  have bl2 := Joins.below_alloc1 W1 (.cells #[.string s.name, .int .i64 s.length, .int .i64 s.draught, .int .i64 s.line, .int .i64 s.tugs, .bool s.slow] 43)
  have K2 := Blk.new W1 #[.string s.name, .int .i64 s.length, .int .i64 s.draught, .int .i64 s.line, .int .i64 s.tugs, .bool s.slow] 43
  obtain ⟨W2, hW2⟩ : ∃ W, W = W1.alloc (.cells #[.string s.name, .int .i64 s.length, .int .i64 s.draught, .int .i64 s.line, .int .i64 s.tugs, .bool s.slow] 43) := ⟨_, rfl⟩
  rw [← hW2] at bl2 K2
  rw [hz1] at K2
  have HW := Lib.hid (show W2 = (w.alloc (.cells #[.string b.name, .int .i64 b.length, .int .i64 b.depth] 41)).alloc (.cells #[.string s.name, .int .i64 s.length, .int .i64 s.draught, .int .i64 s.line, .int .i64 s.tugs, .bool s.slow] 43) by rw [hW2, hW1])
  have KB := Lib.hid (K1.below bl2)
  have KS := Lib.hid K2
  have B2 := Lib.hid (bl1.trans (bl2.mono bl1.size))
  obtain ⟨b1, hb1⟩ : ∃ b, shipB s = b := ⟨_, rfl⟩
  obtain ⟨b2, hb2⟩ : ∃ x, decide (s.length ≤ b.length) = x := ⟨_, rfl⟩
  obtain ⟨b3, hb3⟩ : ∃ x, decide (s.draught ≤ b.depth) = x := ⟨_, rfl⟩
  have EF := Lib.hid (show fitB b s = (b1 && b2 && b3) by unfold fitB; rw [hb1, hb2, hb3])
  have H1 := Lib.hid hb1
  have g2 := hb2
  have g3 := hb3
  clear bl1 bl2 K1 K2 hW1 hW2 hb1 hb2 hb3
  go_enter Try.func26, Try.ntmps26
  go_wp2_with fail
  rw [← HW.out]
  refine (specShipOk s _ NS.out).mono ?_
  rw [H1.out]
  rintro e w3 ⟨rfl, hb3⟩
  have B3 := Lib.hid (B2.out.trans (hb3.mono B2.out.size))
  have c1 : w3.cell? ⟨w.heap.size, 1, none⟩ = some (.int .i64 b.length) := (KB.out.below hb3).cell 1
  have c2 : w3.cell? ⟨w.heap.size, 2, none⟩ = some (.int .i64 b.depth) := (KB.out.below hb3).cell 2
  have d1 : w3.cell? ⟨w.heap.size + 1, 1, none⟩ = some (.int .i64 s.length) := (KS.out.below hb3).cell 1
  have d2 : w3.cell? ⟨w.heap.size + 1, 2, none⟩ = some (.int .i64 s.draught) := (KS.out.below hb3).cell 2
  clear hb3
  cases b1 with
  | false =>
    go_wp2
    go_ret
    exact ⟨ret_bool (by rw [EF.out]; rfl), B3.out⟩
  | true =>
    cases b2 with
    | false =>
      go_wp2
      go_ret
      exact ⟨ret_bool (by rw [EF.out]; rfl), B3.out⟩
    | true =>
      cases b3 with
      | false =>
        go_wp2
        go_ret
        exact ⟨ret_bool (by rw [EF.out]; rfl), B3.out⟩
      | true =>
        go_wp2
        go_ret
        exact ⟨ret_bool (by rw [EF.out]; rfl), B3.out⟩

set_option maxHeartbeats 4000000 in
theorem specTime (s : StayD) (w : World) : Calls Try.prog 69 #[s.val] w fun e w' => e = .returned (.bool (timeB s)) ∧ Below w.heap.size w w' := by
  have bl := Joins.below_alloc1 w (.cells #[.int .i64 s.ship, .int .i64 s.berth, .int .i64 s.fr, .int .i64 s.tt] 33)
  have K := Blk.new w #[.int .i64 s.ship, .int .i64 s.berth, .int .i64 s.fr, .int .i64 s.tt] 33
  obtain ⟨W1, hW1⟩ : ∃ W, W = w.alloc (.cells #[.int .i64 s.ship, .int .i64 s.berth, .int .i64 s.fr, .int .i64 s.tt] 33) := ⟨_, rfl⟩
  rw [← hW1] at bl K
  have HW := Lib.hid hW1
  have B := Lib.hid bl
  have z2 : W1.cell? ⟨w.heap.size, 2, none⟩ = some (.int .i64 s.fr) := K.cell 2
  have z3 : W1.cell? ⟨w.heap.size, 3, none⟩ = some (.int .i64 s.tt) := K.cell 3
  obtain ⟨b1, hb1⟩ : ∃ b, inB s.fr 0 2880 = b := ⟨_, rfl⟩
  obtain ⟨b2, hb2⟩ : ∃ x, decide (s.fr < s.tt) = x := ⟨_, rfl⟩
  obtain ⟨b3, hb3⟩ : ∃ x, decide (s.tt ≤ 2880) = x := ⟨_, rfl⟩
  have EF := Lib.hid (show timeB s = (b1 && b2 && b3) by unfold timeB; rw [hb1, hb2, hb3])
  have H1 := Lib.hid hb1
  have g2 := hb2
  have g3 := hb3
  clear bl K hW1 hb1 hb2 hb3
  go_enter Try.func69, Try.ntmps69
  go_wp2_with fail
  rw [← HW.out]
  refine (l01In_any _ _ _ _).mono ?_
  rw [H1.out]
  rintro e w3 ⟨rfl, rfl⟩
  cases b1 with
  | false =>
    go_wp2
    go_ret
    exact ⟨ret_bool (by rw [EF.out]; rfl), B.out⟩
  | true =>
    cases b2 with
    | false =>
      go_wp2
      go_ret
      exact ⟨ret_bool (by rw [EF.out]; rfl), B.out⟩
    | true =>
      cases b3 with
      | false =>
        go_wp2
        go_ret
        exact ⟨ret_bool (by rw [EF.out]; rfl), B.out⟩
      | true =>
        go_wp2
        go_ret
        exact ⟨ret_bool (by rw [EF.out]; rfl), B.out⟩
end Go.Proofs.Ytghjfcnboocmjaa
