
/- What ExactFreeTimes and BerthsLaw rests on, part 14: contracts and mathematics. -/
import Derived.Test.YtghjfcnboocmjaaBc10
import Derived.Test.YtghjfcnboocmjaaBc3
import Derived.Test.YtghjfcnboocmjaaBc8
import Derived.Test.YtghjfcnboocmjaaBc4
import Derived.Test.YtghjfcnboocmjaaBc6
import Derived.Deep.DeepCutAuto
import Derived.Test.YtghjfcnboocmjaaBc11
import Derived.Test.YtghjfcnboocmjaaBc9
namespace Go.Proofs.Ytghjfcnboocmjaa
open Go.RowKit
set_option maxRecDepth 100000
theorem first_same {l : List BerthD} {i : Nat} {b : BerthD} (h : l[i]? = some b) : (firstI (sameName b) l == (i : Int)) = !(l.take i).any (sameName b) := by
  cases ha : (l.take i).any (sameName b) with
  | false =>
    rw [firstI_at (k := i) (fun j hj y hy => ?_) h (by simp [sameName])]
    · simp
    · rw [List.any_eq_false] at ha
      have := ha y (List.mem_of_getElem? (i := j) (by rw [List.getElem?_take_of_lt hj]; exact hy))
      simpa using this
  | true =>
    rw [List.any_eq_true] at ha
    obtain ⟨y, hy, hp⟩ := ha
    obtain ⟨j, hj⟩ := List.getElem?_of_mem hy
    have hji : j < i := by
      have := (List.getElem?_eq_some_iff.1 hj).1
      rw [List.length_take] at this
      omega
    rw [List.getElem?_take_of_lt hji] at hj
    unfold firstI
    cases hf : l.findIdx? (sameName b) with
    | none =>
      rw [List.findIdx?_eq_none_iff] at hf
      exact absurd (hf y (List.mem_of_getElem? hj)) (by rw [hp]; simp)
    | some n =>
      rw [List.findIdx?_eq_some_iff_getElem] at hf
      obtain ⟨hn, h1, h2⟩ := hf
      have : n ≤ j := by
        by_cases hc : n ≤ j
        · exact hc
        · have h3 := h2 j (by omega)
          obtain ⟨hjl, rfl⟩ := List.getElem?_eq_some_iff.1 hj
          exact absurd hp h3
      simp
      omega
def spanB (fr tt : Int) : Bool := decide (0 ≤ fr) && decide (fr < tt) && decide (tt ≤ 2880)
theorem timeB_span (s : StayD) : timeB s = spanB s.fr s.tt := by
  unfold timeB spanB inB
  by_cases h1 : 0 ≤ s.fr
  · by_cases h2 : s.fr < s.tt
    · by_cases h3 : s.tt ≤ 2880
      · simp [h1, h2, h3]; omega
      · simp [h3]
    · simp [h2]
  · simp [h1]
set_option maxHeartbeats 2000000 in
theorem isSpan_any (fr tt : Int) (w : World) : Calls Try.prog 62 #[.int .i64 fr, .int .i64 tt] w fun e w' => e = .returned (.bool (spanB fr tt)) ∧ w = w' := by
  obtain ⟨b1, h1⟩ : ∃ b, decide (0 ≤ fr) = b := ⟨_, rfl⟩
  obtain ⟨b2, h2⟩ : ∃ b, decide (fr < tt) = b := ⟨_, rfl⟩
  obtain ⟨b3, h3⟩ : ∃ b, decide (tt ≤ 2880) = b := ⟨_, rfl⟩
  have E := Lib.hid (show spanB fr tt = (b1 && b2 && b3) by unfold spanB; rw [h1, h2, h3])
  cases b1 <;> cases b2 <;> cases b3
  all_goals
    go_enter Try.func62, Try.ntmps62
    go_wp2
    go_ret
    exact ⟨ret_bool (by rw [E.out]; rfl), rfl⟩
theorem berthB_parts (b : BerthD) : berthB b = (nameB b.name && decide (10 ≤ b.length) && decide (b.length ≤ 400) && decide (0 ≤ b.depth) && decide (b.depth ≤ 3000)) := by
  unfold berthB inB
  cases nameB b.name <;> simp [Bool.and_assoc]
set_option maxHeartbeats 4000000 in
theorem berthOk_any (b : BerthD) (w : World) (hw : b.wf) : Calls Try.prog 53 #[b.val] w fun e w' => e = .returned (.bool (berthB b)) ∧ Below w.heap.size w w' := by
  replace hw : b.name.size ≤ maxLen := hw.1
  have E := Lib.hid (berthB_parts b)
  obtain ⟨b0, h0⟩ : ∃ x, nameB b.name = x := ⟨_, rfl⟩
  obtain ⟨b1, h1⟩ : ∃ x, decide (10 ≤ b.length) = x := ⟨_, rfl⟩
  obtain ⟨b2, h2⟩ : ∃ x, decide (b.length ≤ 400) = x := ⟨_, rfl⟩
  obtain ⟨b3, h3⟩ : ∃ x, decide (0 ≤ b.depth) = x := ⟨_, rfl⟩
  obtain ⟨b4, h4⟩ : ∃ x, decide (b.depth ≤ 3000) = x := ⟨_, rfl⟩
  have E := Lib.hid (show berthB b = (b0 && b1 && b2 && b3 && b4) by rw [E.out, h0, h1, h2, h3, h4])
  have H0 := Lib.hid h0
  clear h0
  have B := Lib.hid (Joins.below_alloc1 w (.cells #[.string b.name, .int .i64 b.length, .int .i64 b.depth] 41))
  have KB := Lib.hid (Blk.new w #[.string b.name, .int .i64 b.length, .int .i64 b.depth] 41)
  cases b0 with
  | false =>
    go_enter Try.func53, Try.ntmps53
    go_wp2_with fail
    refine (implIsName b.name _ hw).mono ?_
    rw [H0.out]
    rintro e w1 ⟨rfl, hb1⟩
    have B1 := Lib.hid (B.out.trans (hb1.mono B.out.size))
    clear hb1
    go_wp2
    go_ret
    exact ⟨ret_bool (by rw [E.out]; rfl), B1.out⟩
  | true =>
    cases b1 <;> cases b2 <;> cases b3 <;> cases b4
    all_goals
      go_enter Try.func53, Try.ntmps53
      go_wp2_with fail
      refine (implIsName b.name _ hw).mono ?_
      rw [H0.out]
      rintro e w1 ⟨rfl, hb1⟩
      have B1 := Lib.hid (B.out.trans (hb1.mono B.out.size))
      have z1 : w1.cell? ⟨w.heap.size, 1, none⟩ = some (.int .i64 b.length) := (KB.out.below hb1).cell 1
      have z2 : w1.cell? ⟨w.heap.size, 2, none⟩ = some (.int .i64 b.depth) := (KB.out.below hb1).cell 2
      clear hb1
      go_wp2
      go_ret
      exact ⟨ret_bool (by rw [E.out]; rfl), B1.out⟩
/-- The closure of BerthsOk. -/
theorem berths1 (x : BerthD) (b : BerthD) (Ba : Nat) (w : World) (ha : w.cell? ⟨Ba, 0, none⟩ = some (.string b.name)) :
    Calls Try.prog 55 #[x.val, .pointer (some ⟨Ba, 0, none⟩)] w fun e w' => e = .returned (.bool (sameName b x)) ∧ Below w.heap.size w w' := by
  obtain ⟨na, le, dp⟩ := x
  have B := Lib.hid (Joins.below_alloc1 w (.cells #[.string na, .int .i64 le, .int .i64 dp] 41))
  have ya := (B.out.cell (p := ⟨Ba, 0, none⟩) (World.block_lt_of_cell? w _ ha)).trans ha
  clear ha
  cases h1 : (na.toList == b.name.toList)
  all_goals
    have E := Lib.hid (show sameName b ⟨na, le, dp⟩ = _ from h1)
    go_enter Try.func55, Try.ntmps55
    go_wp2
    go_ret
    exact ⟨ret_bool E.out.symm, B.out⟩
set_option maxHeartbeats 2000000 in
theorem berthIndex_any (v : Value) (l : List BerthD) (b : BerthD) (Ba : Nat) (w : World) (h : SlBerth w v l) (ha : w.cell? ⟨Ba, 0, none⟩ = some (.string b.name)) :
    Calls Try.prog 54 #[v, .func (.func 55) #[] #[.pointer (some ⟨Ba, 0, none⟩)]] w fun e w' => e = .returned (.int .i64 (firstI (sameName b) l)) ∧ Below w.heap.size w w' := by
  have HS := Lib.hid h
  have hl := h.1
  obtain ⟨A1, c1, rfl⟩ := h.at
  have hla : Ba < w.heap.size := World.block_lt_of_cell? w _ ha
  have HA := Lib.hid ha
  clear h ha
  go_enter Try.func54, Try.ntmps54
  go_wp2
  go_loopw [8] (fun i wr => ∃ k : Nat, k ≤ l.length ∧ i = .int .i64 k ∧ Hid (NoOne (sameName b) l k) ∧ Hid (Below w.heap.size w wr)) (fun i _ => l.length - (intOf i).toNat)
  case atStart => exact ⟨0, Nat.zero_le _, rfl, Lib.hid (NoOne.zero _ _), Lib.hid (Below.refl _ _)⟩
  case round =>
    obtain ⟨k, hk, rfl, hN, hb⟩ := hrel
    by_cases hlt : k < l.length
    · obtain ⟨x, hx⟩ : ∃ x, l[k]? = some x := ⟨_, List.getElem?_eq_getElem hlt⟩
      rcases HS.out.2 with ⟨he, _⟩ | ⟨g, o, c, e, hpos, hcap, hc⟩
      · rw [he] at hlt; simp at hlt
      · injection e with hA _ hcp
        subst hA hcp
        obtain ⟨q0, q1, q2⟩ := SlBerth.cells hc k x hx
        have y0 := cell_onV q0 hb.out
        have y1 := cell_onV q1 hb.out
        have y2 := cell_onV q2 hb.out
        have YA := Lib.hid ((hb.out.cell (p := ⟨Ba, 0, none⟩) hla).trans HA.out)
        have HX := Lib.hid hx
        clear q0 q1 q2 hx hc
        obtain ⟨t, ht⟩ : ∃ t, sameName b x = t := ⟨_, rfl⟩
        have HT := Lib.hid ht
        clear ht
        go_wp2_with fail
        refine (berths1 x b Ba _ YA.out).mono ?_
        rw [HT.out]
        rintro e w5 ⟨rfl, hb5⟩
        have hb6 := Lib.hid (hb.out.trans (hb5.mono hb.out.size))
        clear hb5 y0 y1 y2
        cases t with
        | true =>
          have E := Lib.hid (firstI_at hN.out HX.out HT.out)
          go_wp2
          go_ret
          exact ⟨ret_int E.out.symm, hb6.out⟩
        | false =>
          have N2 := Lib.hid (hN.out.next HX.out HT.out)
          go_wp2
          go_roundw
          case rel => exact ⟨k + 1, by omega, by go_num, N2, hb6⟩
          case measure => simp [intOf]; omega
    · obtain rfl : k = l.length := by omega
      have E := Lib.hid (firstI_none hN.out)
      go_wp2
      go_ret
      exact ⟨ret_int E.out.symm, hb.out⟩
set_option maxHeartbeats 8000000 in
theorem implBerthsOk (v : Value) (l : List BerthD) (w : World) (h : SlBerth w v l) (hw : ∀ x ∈ l, BerthD.wf x) :
    Calls Try.prog 13 #[v] w fun e w' => e = .returned (.bool (berthsB l)) ∧ Below w.heap.size w w' := by
  have HS := Lib.hid h
  have HWF := Lib.hid hw
  have hl := h.1
  obtain ⟨A1, c1, rfl⟩ := h.at
  clear h hw
  by_cases hlen : 4 < l.length
  · have E := Lib.hid (berthsB_long (l := l) (by omega))
    go_enter Try.func13, Try.ntmps13
    go_wp2
    go_ret
    exact ⟨ret_bool E.out.symm, Below.refl _ _⟩
  go_enter Try.func13, Try.ntmps13
  go_wp2
  go_loopw [10] (fun i wr => ∃ k : Nat, k ≤ l.length ∧ i = .int .i64 k ∧ Hid (RunTo pBerth l k) ∧ Hid (Below w.heap.size w wr)) (fun i _ => l.length - (intOf i).toNat)
  case atStart => exact ⟨0, Nat.zero_le _, rfl, Lib.hid (RunTo.zero _ _), Lib.hid (Below.refl _ _)⟩
  case round =>
    obtain ⟨k, hk, rfl, hR, hb⟩ := hrel
    have hzs := hb.out.size
    by_cases hlt : k < l.length
    · obtain ⟨x, hx⟩ : ∃ x, l[k]? = some x := ⟨_, List.getElem?_eq_getElem hlt⟩
      rcases HS.out.2 with ⟨he, _⟩ | ⟨g, o, c, e, hpos, hcap, hc⟩
      · rw [he] at hlt; simp at hlt
      · injection e with hA _ hcp
        subst hA hcp
        obtain ⟨q0, q1, q2⟩ := SlBerth.cells hc k x hx
        have y0 := cell_onV q0 hb.out
        have y1 := cell_onV q1 hb.out
        have y2 := cell_onV q2 hb.out
        have HX := Lib.hid hx
        have XW := Lib.hid (HWF.out x (List.mem_of_getElem? hx))
        clear q0 q1 q2 hx hc
        have hal := Joins.below_alloc1 wr (.cells #[.string x.name, .int .i64 x.length, .int .i64 x.depth] 41)
        have hb2 := Lib.hid (hb.out.trans (hal.mono hzs))
        have SB := Lib.hid (Blk.new wr #[.string x.name, .int .i64 x.length, .int .i64 x.depth] 41)
        clear hal
        obtain ⟨t, ht⟩ : ∃ t, berthB x = t := ⟨_, rfl⟩
        have HT := Lib.hid ht
        clear ht
        go_wp2_with fail
        refine (berthOk_any x _ XW.out).mono ?_
        rw [HT.out]
        rintro e w2 ⟨rfl, hb3⟩
        have Z0 := Lib.hid (show w2.cell? ⟨wr.heap.size, 0, none⟩ = some (.string x.name) from (SB.out.below hb3).cell 0)
        have hb4 := Lib.hid (hb2.out.trans (hb3.mono hb2.out.size))
        clear hb3 y0 y1 y2
        cases t with
        | false =>
          have E := Lib.hid (berthsB_no HX.out (by unfold pBerth; rw [HT.out]; rfl))
          go_wp2
          go_ret
          exact ⟨ret_bool E.out.symm, hb4.out⟩
        | true =>
          obtain ⟨nI, hnI⟩ : ∃ n, firstI (sameName x) l = n := ⟨_, rfl⟩
          have HNI := Lib.hid hnI
          have HEQ := Lib.hid (first_same HX.out)
          clear hnI
          go_wp2_with fail
          refine (berthIndex_any _ l x _ _ (HS.out.below hb4.out) Z0.out).mono ?_
          rw [HNI.out]
          rintro e w3 ⟨rfl, hb5⟩
          have hb6 := Lib.hid (hb4.out.trans (hb5.mono hb4.out.size))
          clear hb5
          cases he : (nI == (k : Int)) with
          | false =>
            have E := Lib.hid (berthsB_no HX.out (by unfold pBerth; rw [HT.out, ← HEQ.out, HNI.out, he]; rfl))
            have he' : (nI != (k : Int)) = true := by simp [bne, he]
            go_wp2
            go_ret
            exact ⟨ret_bool E.out.symm, hb6.out⟩
          | true =>
            have F2 := Lib.hid (hR.out.next HX.out (by unfold pBerth; rw [HT.out, ← HEQ.out, HNI.out, he]; rfl))
            have he' : nI = (k : Int) := by simpa using he
            subst he'
            go_wp2
            go_roundw
            case rel => exact ⟨k + 1, by omega, by go_num, F2, hb6⟩
            case measure => simp [intOf]; omega
    · obtain rfl : k = l.length := by omega
      have E := Lib.hid (berthsB_yes (by omega) hR.out)
      go_wp2
      go_ret
      exact ⟨ret_bool E.out.symm, hb.out⟩
set_option maxHeartbeats 4000000 in
theorem implFitsBerth (b : BerthD) (s : ShipD) (w : World) (_ : b.wf) (hs : s.wf) :
    Calls Try.prog 19 #[b.val, s.val] w fun e w' => e = .returned (.bool (fitB b s)) ∧ Below w.heap.size w w' := by
  have NS := Lib.hid hs
  clear hs
  have bl1 := Joins.below_alloc1 w (.cells #[.string b.name, .int .i64 b.length, .int .i64 b.depth] 41)
  have K1 := Blk.new w #[.string b.name, .int .i64 b.length, .int .i64 b.depth] 41
  obtain ⟨W1, hW1⟩ : ∃ W, W = w.alloc (.cells #[.string b.name, .int .i64 b.length, .int .i64 b.depth] 41) := ⟨_, rfl⟩
  have hz1 : W1.heap.size = w.heap.size + 1 := by rw [hW1]; simp
  rw [← hW1] at bl1 K1
  have bl2 := Joins.below_alloc1 W1 (.cells #[.string s.name, .int .i64 s.length, .int .i64 s.draught, .int .i64 s.line, .int .i64 s.tugs, .bool s.slow] 43)
  have K2 := Blk.new W1 #[.string s.name, .int .i64 s.length, .int .i64 s.draught, .int .i64 s.line, .int .i64 s.tugs, .bool s.slow] 43
  obtain ⟨W2, hW2⟩ : ∃ W, W = W1.alloc (.cells #[.string s.name, .int .i64 s.length, .int .i64 s.draught, .int .i64 s.line, .int .i64 s.tugs, .bool s.slow] 43) := ⟨_, rfl⟩
  rw [← hW2] at bl2 K2
  rw [hz1] at K2
  have HW := Lib.hid (show W2 = (w.alloc (.cells #[.string b.name, .int .i64 b.length, .int .i64 b.depth] 41)).alloc (.cells #[.string s.name, .int .i64 s.length, .int .i64 s.draught, .int .i64 s.line, .int .i64 s.tugs, .bool s.slow] 43) by rw [hW2, hW1])
  have KB := Lib.hid (K1.below bl2)
  have KS := Lib.hid K2
  have B2 := Lib.hid (bl1.trans (bl2.mono bl1.size))
  obtain ⟨b1, hb1⟩ : ∃ b, shipB s = b := ⟨_, rfl⟩
  obtain ⟨b2, hb2⟩ : ∃ x, decide (s.length ≤ b.length) = x := ⟨_, rfl⟩
  obtain ⟨b3, hb3⟩ : ∃ x, decide (s.draught ≤ b.depth) = x := ⟨_, rfl⟩
  have EF := Lib.hid (show fitB b s = (b1 && b2 && b3) by unfold fitB; rw [hb1, hb2, hb3])
  have H1 := Lib.hid hb1
  have g2 := hb2
  have g3 := hb3
  clear bl1 bl2 K1 K2 hW1 hW2 hb1 hb2 hb3
  go_enter Try.func19, Try.ntmps19
  go_wp2_with fail
  rw [← HW.out]
  refine (implShipOk s _ NS.out).mono ?_
  rw [H1.out]
  rintro e w3 ⟨rfl, hb3⟩
  have B3 := Lib.hid (B2.out.trans (hb3.mono B2.out.size))
  have c1 : w3.cell? ⟨w.heap.size, 1, none⟩ = some (.int .i64 b.length) := (KB.out.below hb3).cell 1
  have c2 : w3.cell? ⟨w.heap.size, 2, none⟩ = some (.int .i64 b.depth) := (KB.out.below hb3).cell 2
  have d1 : w3.cell? ⟨w.heap.size + 1, 1, none⟩ = some (.int .i64 s.length) := (KS.out.below hb3).cell 1
  have d2 : w3.cell? ⟨w.heap.size + 1, 2, none⟩ = some (.int .i64 s.draught) := (KS.out.below hb3).cell 2
  clear hb3
  cases b1 with
  | false =>
    go_wp2
    go_ret
    exact ⟨ret_bool (by rw [EF.out]; rfl), B3.out⟩
  | true =>
    cases b2 with
    | false =>
      go_wp2
      go_ret
      exact ⟨ret_bool (by rw [EF.out]; rfl), B3.out⟩
    | true =>
      cases b3 with
      | false =>
        go_wp2
        go_ret
        exact ⟨ret_bool (by rw [EF.out]; rfl), B3.out⟩
      | true =>
        go_wp2
        go_ret
        exact ⟨ret_bool (by rw [EF.out]; rfl), B3.out⟩
end Go.Proofs.Ytghjfcnboocmjaa
namespace Go.Proofs.Ytghjfcnboocmjaa
open Go.RowKit
set_option maxRecDepth 100000
def FleetDrawn (l : List ShipD) : Prop := l.length ≤ 6 ∧ ∀ j x, l[j]? = some x → shipGood j x
theorem drawn_ship_ok {j : Nat} {s : ShipD} (hj : j < 6) (h : shipGood j s) : shipB s = true := by
  obtain ⟨n1, n2, n3, n4, n5, n6, n7, n8, n9⟩ := h
  unfold shipB
  rw [n1, names_digit j (by omega), inB_mk (by omega) (by omega), inB_mk (by omega) (by omega), inB_mk (by omega) (by omega), inB_mk (by omega) (by omega)]
  rfl
theorem drawn_ship_wf {j : Nat} {s : ShipD} (h : shipGood j s) : s.wf := by
  obtain ⟨n1, n2, n3, n4, n5, n6, n7, n8, n9⟩ := h
  have hz : (shipName j).size = 2 := by unfold shipName; rw [ByteArray.size_append, strOfNums_size]; rfl
  refine ⟨by rw [n1, hz]; unfold maxLen; omega, ?_, ?_, ?_, ?_⟩ <;> exact WalkArith.wf_i64 (by omega)
theorem drawn_wf {l : List ShipD} (h : FleetDrawn l) : ∀ x ∈ l, ShipD.wf x := by
  intro x hx
  obtain ⟨j, hj⟩ := List.getElem?_of_mem hx
  exact drawn_ship_wf (h.2 j x hj)
theorem drawn_fleet {l : List ShipD} (h : FleetDrawn l) : fleetB l = true := by
  obtain ⟨h6, h⟩ := h
  refine fleetB_mk h6 (fun j hj => ?_)
  have hx : l[j]? = some l[j] := List.getElem?_eq_getElem hj
  have hg := h j _ hx
  have hi : shipI l l[j].name = (j : Int) := by
    refine firstI_at (k := j) (x := l[j]) (fun i hi y hy => ?_) hx (by simp [shipNm])
    have hiy := (h i y hy).1
    show (y.name.toList == l[j].name.toList) = false
    rw [hiy, hg.1]
    exact names_apart i j (by omega) (by omega) (by omega)
  rw [flAt_at hx, drawn_ship_ok (by omega) hg, hi]
  simp
end Go.Proofs.Ytghjfcnboocmjaa
