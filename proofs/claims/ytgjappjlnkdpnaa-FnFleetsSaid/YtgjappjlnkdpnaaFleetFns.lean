
/- SquatOf, MinutesOn, LengthSum, OfLine: contracts of both sides. -/
import Derived.Test.YtgjappjlnkdpnaaFleet
import Derived.Test.YtgjappjlnkdpnaaGath
import Derived.Test.YtgjappjlnkdpnaaInts
import Derived.StillTailTactics
namespace Go.Proofs.Ytgjappjlnkdpnaa
open Go.RowKit
set_option maxRecDepth 100000

set_option maxHeartbeats 2000000 in
theorem specSquatOf (s : ShipD) (w : World) (hw : s.wf) :
    Calls Try.prog 42 #[s.val] w fun e w' => e = .returned (.int .i64 (squatI s)) ∧ Below w.heap.size w w' := by
  have B := Lib.hid (Joins.below_alloc1 w (.cells #[.string s.name, .int .i64 s.length, .int .i64 s.draught, .int .i64 s.line, .int .i64 s.tugs, .bool s.slow] 61))
  have K := Lib.hid (Blk.new w #[.string s.name, .int .i64 s.length, .int .i64 s.draught, .int .i64 s.line, .int .i64 s.tugs, .bool s.slow] 61)
  obtain ⟨t, ht⟩ : ∃ t, shipB s = t := ⟨_, rfl⟩
  have HT := Lib.hid ht
  cases t with
  | false =>
    have E := Lib.hid (show squatI s = 0 from if_neg (by rw [ht]; simp))
    clear ht
    go_enter Try.func42, Try.ntmps42
    go_wp2_with fail
    refine (specShipOk s _ hw).mono ?_
    rw [HT.out]
    rintro e w1 ⟨rfl, hb1⟩
    have B1 := Lib.hid (B.out.trans (hb1.mono B.out.size))
    clear hb1
    go_wp2
    go_ret
    exact ⟨ret_int E.out.symm, B1.out⟩
  | true =>
    obtain ⟨-, -, -, d0, d1, -⟩ := shipB_true ht
    have v1 : IntKind.i64.wrap (s.draught.tdiv 50) = s.draught.tdiv 50 := by rw [IntKind.wrap_i64, Int.tdiv_eq_ediv_of_nonneg (by omega)]; omega
    have v2 : IntKind.i64.wrap (s.draught.tdiv 20) = s.draught.tdiv 20 := by rw [IntKind.wrap_i64, Int.tdiv_eq_ediv_of_nonneg (by omega)]; omega
    have E0 : squatI s = (if s.slow = true then s.draught.tdiv 50 else s.draught.tdiv 20) := if_pos ht
    clear ht
    cases hs : s.slow with
    | true =>
      have E := Lib.hid (E0.trans (if_pos hs))
      have HSL := Lib.hid hs
      clear E0 hs
      go_enter Try.func42, Try.ntmps42
      go_wp2_with fail
      refine (specShipOk s _ hw).mono ?_
      rw [HT.out]
      rintro e w1 ⟨rfl, hb1⟩
      have K1 := K.out.below hb1
      have z2 := K1.cell 2
      have z5 := K1.cell 5
      simp at z2 z5
      rw [HSL.out] at z5
      have B1 := Lib.hid (B.out.trans (hb1.mono B.out.size))
      clear hb1 K1
      go_wp2
      go_ret
      exact ⟨ret_int E.out.symm, B1.out⟩
    | false =>
      have E := Lib.hid (E0.trans (if_neg (by rw [hs]; simp)))
      have HSL := Lib.hid hs
      clear E0 hs
      go_enter Try.func42, Try.ntmps42
      go_wp2_with fail
      refine (specShipOk s _ hw).mono ?_
      rw [HT.out]
      rintro e w1 ⟨rfl, hb1⟩
      have K1 := K.out.below hb1
      have z2 := K1.cell 2
      have z5 := K1.cell 5
      simp at z2 z5
      rw [HSL.out] at z5
      have B1 := Lib.hid (B.out.trans (hb1.mono B.out.size))
      clear hb1 K1
      go_wp2
      go_ret
      exact ⟨ret_int E.out.symm, B1.out⟩

set_option maxHeartbeats 2000000 in
theorem implSquatOf (s : ShipD) (w : World) (hw : s.wf) :
    Calls Try.prog 43 #[s.val] w fun e w' => e = .returned (.int .i64 (squatI s)) ∧ Below w.heap.size w w' := by
  have B := Lib.hid (Joins.below_alloc1 w (.cells #[.string s.name, .int .i64 s.length, .int .i64 s.draught, .int .i64 s.line, .int .i64 s.tugs, .bool s.slow] 61))
  have K := Lib.hid (Blk.new w #[.string s.name, .int .i64 s.length, .int .i64 s.draught, .int .i64 s.line, .int .i64 s.tugs, .bool s.slow] 61)
  obtain ⟨t, ht⟩ : ∃ t, shipB s = t := ⟨_, rfl⟩
  have HT := Lib.hid ht
  cases t with
  | false =>
    have E := Lib.hid (show squatI s = 0 from if_neg (by rw [ht]; simp))
    clear ht
    go_enter Try.func43, Try.ntmps43
    go_wp2_with fail
    refine (implShipOk s _ hw).mono ?_
    rw [HT.out]
    rintro e w1 ⟨rfl, hb1⟩
    have B1 := Lib.hid (B.out.trans (hb1.mono B.out.size))
    clear hb1
    go_wp2
    go_ret
    exact ⟨ret_int E.out.symm, B1.out⟩
  | true =>
    obtain ⟨-, -, -, d0, d1, -⟩ := shipB_true ht
    have v1 : IntKind.i64.wrap (s.draught.tdiv 50) = s.draught.tdiv 50 := by rw [IntKind.wrap_i64, Int.tdiv_eq_ediv_of_nonneg (by omega)]; omega
    have v2 : IntKind.i64.wrap (s.draught.tdiv 20) = s.draught.tdiv 20 := by rw [IntKind.wrap_i64, Int.tdiv_eq_ediv_of_nonneg (by omega)]; omega
    have E0 : squatI s = (if s.slow = true then s.draught.tdiv 50 else s.draught.tdiv 20) := if_pos ht
    clear ht
    cases hs : s.slow with
    | true =>
      have E := Lib.hid (E0.trans (if_pos hs))
      have HSL := Lib.hid hs
      clear E0 hs
      go_enter Try.func43, Try.ntmps43
      go_wp2_with fail
      refine (implShipOk s _ hw).mono ?_
      rw [HT.out]
      rintro e w1 ⟨rfl, hb1⟩
      have K1 := K.out.below hb1
      have z2 := K1.cell 2
      have z5 := K1.cell 5
      simp at z2 z5
      rw [HSL.out] at z5
      have B1 := Lib.hid (B.out.trans (hb1.mono B.out.size))
      clear hb1 K1
      go_wp2
      go_ret
      exact ⟨ret_int E.out.symm, B1.out⟩
    | false =>
      have E := Lib.hid (E0.trans (if_neg (by rw [hs]; simp)))
      have HSL := Lib.hid hs
      clear E0 hs
      go_enter Try.func43, Try.ntmps43
      go_wp2_with fail
      refine (implShipOk s _ hw).mono ?_
      rw [HT.out]
      rintro e w1 ⟨rfl, hb1⟩
      have K1 := K.out.below hb1
      have z2 := K1.cell 2
      have z5 := K1.cell 5
      simp at z2 z5
      rw [HSL.out] at z5
      have B1 := Lib.hid (B.out.trans (hb1.mono B.out.size))
      clear hb1 K1
      go_wp2
      go_ret
      exact ⟨ret_int E.out.symm, B1.out⟩

set_option maxHeartbeats 4000000 in
theorem specLengthSum (v : Value) (l : List ShipD) (w : World) (h : SlShip w v l) (hw : ∀ x ∈ l, ShipD.wf x) :
    Calls Try.prog 44 #[v] w fun e w' => e = .returned (.int .i64 (lenI l)) ∧ Below w.heap.size w w' := by
  have HS := Lib.hid h
  have hl := h.1
  obtain ⟨A1, c1, rfl⟩ := h.at
  clear h
  obtain ⟨t, ht⟩ : ∃ t, fleetB l = t := ⟨_, rfl⟩
  have HT := Lib.hid ht
  cases t with
  | false =>
    have E := Lib.hid (lenI_bad ht)
    clear ht
    go_enter Try.func44, Try.ntmps44
    go_wp2_with fail
    refine (specFleetOk _ l _ HS.out hw).mono ?_
    rw [HT.out]
    rintro e w1 ⟨rfl, hb1⟩
    have B1 := Lib.hid hb1
    clear hb1
    go_wp2
    go_ret
    exact ⟨ret_int E.out.symm, B1.out⟩
  | true =>
    have E0 := Lib.hid (lenI_ok ht)
    obtain ⟨h6, -⟩ := fleetB_true ht
    clear ht
    go_enter Try.func44, Try.ntmps44
    go_wp2_with fail
    refine (specFleetOk _ l _ HS.out hw).mono ?_
    rw [HT.out]
    rintro e w1 ⟨rfl, hb1⟩
    have B1 := Lib.hid hb1
    clear hb1
    go_wp2
    go_loopw [3, 11] (fun q i wr => ∃ k : Nat, k ≤ l.length ∧ i = .int .i64 k ∧ q = .int .i64 (lenSum (l.take k)) ∧ 0 ≤ lenSum (l.take k) ∧ lenSum (l.take k) ≤ 400 * k ∧ Hid (Below w.heap.size w wr)) (fun _ i _ => l.length - (intOf i).toNat)
    case atStart => exact ⟨0, Nat.zero_le _, rfl, rfl, by simp [lenSum], by simp [lenSum], B1⟩
    case round =>
      obtain ⟨k, hk, rfl, rfl, s0, s1, hb⟩ := hrel
      have hzs := hb.out.size
      by_cases hlt : k < l.length
      · obtain ⟨x, hx⟩ : ∃ x, l[k]? = some x := ⟨_, List.getElem?_eq_getElem hlt⟩
        have E2 := Lib.hid (lenSum_next hx)
        obtain ⟨-, x0, x1, -⟩ := shipB_true (fleetB_ship HT.out hx).1
        have hwr : IntKind.i64.wrap (lenSum (l.take k) + x.length) = lenSum (l.take k) + x.length := by rw [IntKind.wrap_i64]; omega
        rcases HS.out.2 with ⟨he, _⟩ | ⟨g, o, c, e, hpos, hcap, hc⟩
        · rw [he] at hlt; simp at hlt
        · injection e with hA _ hcp
          subst hA hcp
          obtain ⟨q0, q1, q2, q3, q4, q5⟩ := SlShip.cells hc k x hx
          have hg : g < w.heap.size := World.block_lt_of_cell? w ⟨g, o + k * 6, none⟩ q0
          have y0 := (hb.out.cell (p := ⟨g, o + k * 6, none⟩) hg).trans q0
          have y1 := (hb.out.cell (p := ⟨g, o + k * 6 + 1, none⟩) hg).trans q1
          have y2 := (hb.out.cell (p := ⟨g, o + k * 6 + 2, none⟩) hg).trans q2
          have y3 := (hb.out.cell (p := ⟨g, o + k * 6 + 3, none⟩) hg).trans q3
          have y4 := (hb.out.cell (p := ⟨g, o + k * 6 + 4, none⟩) hg).trans q4
          have y5 := (hb.out.cell (p := ⟨g, o + k * 6 + 5, none⟩) hg).trans q5
          have HX := Lib.hid hx
          clear q0 q1 q2 q3 q4 q5 hx hc
          have B2 := Lib.hid (hb.out.alloc hzs (.cells #[.string x.name, .int .i64 x.length, .int .i64 x.draught, .int .i64 x.line, .int .i64 x.tugs, .bool x.slow] 61))
          go_wp2
          go_roundw
          case rel => exact ⟨k + 1, by omega, by go_num, by rw [E2.out], by rw [E2.out]; omega, by rw [E2.out]; push_cast; omega, B2⟩
          case measure => simp [intOf]; omega
      · obtain rfl : k = l.length := by omega
        have E := Lib.hid (show lenSum (l.take l.length) = lenI l by rw [List.take_length]; exact E0.out.symm)
        go_wp2
        go_ret
        exact ⟨ret_int E.out, hb.out⟩

set_option maxHeartbeats 4000000 in
theorem implLengthSum (v : Value) (l : List ShipD) (w : World) (h : SlShip w v l) (hw : ∀ x ∈ l, ShipD.wf x) :
    Calls Try.prog 26 #[v] w fun e w' => e = .returned (.int .i64 (lenI l)) ∧ Below w.heap.size w w' := by
  have HS := Lib.hid h
  have hl := h.1
  obtain ⟨A1, c1, rfl⟩ := h.at
  clear h
  obtain ⟨t, ht⟩ : ∃ t, fleetB l = t := ⟨_, rfl⟩
  have HT := Lib.hid ht
  cases t with
  | false =>
    have E := Lib.hid (lenI_bad ht)
    clear ht
    go_enter Try.func26, Try.ntmps26
    go_wp2_with fail
    refine (implFleetOk _ l _ HS.out hw).mono ?_
    rw [HT.out]
    rintro e w1 ⟨rfl, hb1⟩
    have B1 := Lib.hid hb1
    clear hb1
    go_wp2
    go_ret
    exact ⟨ret_int E.out.symm, B1.out⟩
  | true =>
    have E0 := Lib.hid (lenI_ok ht)
    obtain ⟨h6, -⟩ := fleetB_true ht
    clear ht
    go_enter Try.func26, Try.ntmps26
    go_wp2_with fail
    refine (implFleetOk _ l _ HS.out hw).mono ?_
    rw [HT.out]
    rintro e w1 ⟨rfl, hb1⟩
    have B1 := Lib.hid hb1
    clear hb1
    go_wp2
    go_loopw [3, 11] (fun q i wr => ∃ k : Nat, k ≤ l.length ∧ i = .int .i64 k ∧ q = .int .i64 (lenSum (l.take k)) ∧ 0 ≤ lenSum (l.take k) ∧ lenSum (l.take k) ≤ 400 * k ∧ Hid (Below w.heap.size w wr)) (fun _ i _ => l.length - (intOf i).toNat)
    case atStart => exact ⟨0, Nat.zero_le _, rfl, rfl, by simp [lenSum], by simp [lenSum], B1⟩
    case round =>
      obtain ⟨k, hk, rfl, rfl, s0, s1, hb⟩ := hrel
      have hzs := hb.out.size
      by_cases hlt : k < l.length
      · obtain ⟨x, hx⟩ : ∃ x, l[k]? = some x := ⟨_, List.getElem?_eq_getElem hlt⟩
        have E2 := Lib.hid (lenSum_next hx)
        obtain ⟨-, x0, x1, -⟩ := shipB_true (fleetB_ship HT.out hx).1
        have hwr : IntKind.i64.wrap (lenSum (l.take k) + x.length) = lenSum (l.take k) + x.length := by rw [IntKind.wrap_i64]; omega
        rcases HS.out.2 with ⟨he, _⟩ | ⟨g, o, c, e, hpos, hcap, hc⟩
        · rw [he] at hlt; simp at hlt
        · injection e with hA _ hcp
          subst hA hcp
          obtain ⟨q0, q1, q2, q3, q4, q5⟩ := SlShip.cells hc k x hx
          have hg : g < w.heap.size := World.block_lt_of_cell? w ⟨g, o + k * 6, none⟩ q0
          have y0 := (hb.out.cell (p := ⟨g, o + k * 6, none⟩) hg).trans q0
          have y1 := (hb.out.cell (p := ⟨g, o + k * 6 + 1, none⟩) hg).trans q1
          have y2 := (hb.out.cell (p := ⟨g, o + k * 6 + 2, none⟩) hg).trans q2
          have y3 := (hb.out.cell (p := ⟨g, o + k * 6 + 3, none⟩) hg).trans q3
          have y4 := (hb.out.cell (p := ⟨g, o + k * 6 + 4, none⟩) hg).trans q4
          have y5 := (hb.out.cell (p := ⟨g, o + k * 6 + 5, none⟩) hg).trans q5
          have HX := Lib.hid hx
          clear q0 q1 q2 q3 q4 q5 hx hc
          have B2 := Lib.hid (hb.out.alloc hzs (.cells #[.string x.name, .int .i64 x.length, .int .i64 x.draught, .int .i64 x.line, .int .i64 x.tugs, .bool x.slow] 61))
          go_wp2
          go_roundw
          case rel => exact ⟨k + 1, by omega, by go_num, by rw [E2.out], by rw [E2.out]; omega, by rw [E2.out]; push_cast; omega, B2⟩
          case measure => simp [intOf]; omega
      · obtain rfl : k = l.length := by omega
        have E := Lib.hid (show lenSum (l.take l.length) = lenI l by rw [List.take_length]; exact E0.out.symm)
        go_wp2
        go_ret
        exact ⟨ret_int E.out, hb.out⟩

/-- What OfLine leaves. -/
def LinePost (R : List Int) (w : World) (e : Ending) (w' : World) : Prop := ∃ v, e = .returned v ∧ OwnInt w' w.heap.size v R ∧ Below w.heap.size w w'

/-- The closure of OfLine. -/
theorem line1 (x : ShipD) (n : Int) (Ba : Nat) (w : World) (ha : w.cell? ⟨Ba, 0, none⟩ = some (.int .i64 n)) :
    Calls Try.prog 67 #[x.val, .pointer (some ⟨Ba, 0, none⟩)] w fun e w' => e = .returned (.bool (onLine n x)) ∧ Below w.heap.size w w' := by
  obtain ⟨na, le, dr, li, tu, sl⟩ := x
  have B := Lib.hid (Joins.below_alloc1 w (.cells #[.string na, .int .i64 le, .int .i64 dr, .int .i64 li, .int .i64 tu, .bool sl] 61))
  have ya := (B.out.cell (p := ⟨Ba, 0, none⟩) (World.block_lt_of_cell? w _ ha)).trans ha
  clear ha
  cases h1 : (li == n)
  all_goals
    have E := Lib.hid (show onLine n ⟨na, le, dr, li, tu, sl⟩ = _ from h1)
    go_enter Try.func67, Try.ntmps67
    go_wp2
    go_ret
    exact ⟨ret_bool E.out.symm, B.out⟩

set_option maxHeartbeats 8000000 in
theorem specOfLine (v : Value) (l : List ShipD) (n : Int) (w : World) (h : SlShip w v l) (hw : ∀ x ∈ l, ShipD.wf x) :
    Calls Try.prog 45 #[v, .int .i64 n] w (LinePost (lineL l n) w) := by
  have HS := Lib.hid h
  have hl := h.1
  obtain ⟨A1, c1, rfl⟩ := h.at
  clear h
  obtain ⟨i0, hin, hz0, hzs, hz2⟩ := info1_int
  have HI := Lib.hid hin
  clear hin
  obtain ⟨t, ht⟩ : ∃ t, fleetB l = t := ⟨_, rfl⟩
  have HT := Lib.hid ht
  cases t with
  | false =>
    have E := Lib.hid (lineL_bad (n := n) ht)
    clear ht
    go_enter Try.func45, Try.ntmps45
    go_wp2_with fail
    refine (specFleetOk _ l _ HS.out hw).mono ?_
    rw [HT.out]
    rintro e w1 ⟨rfl, hb1⟩
    have B1 := Lib.hid hb1
    clear hb1
    go_wp2
    go_ret
    exact ⟨_, rfl, by rw [E.out]; exact (GathO.empty (cs := intCells) (t := 3) (k := 1) B1.out).1, B1.out⟩
  | true =>
    have E0 := Lib.hid (lineL_ok (n := n) ht)
    obtain ⟨h6, -⟩ := fleetB_true ht
    clear ht
    go_enter Try.func45, Try.ntmps45
    go_wp2_with fail
    refine (specFleetOk _ l _ HS.out hw).mono ?_
    rw [HT.out]
    rintro e w1 ⟨rfl, hb1⟩
    have G0 := Lib.hid (GathO.made (cs := intCells) (t := 3) (k := 1) hb1)
    clear hb1
    go_wp2
    go_loopw [5, 14] (fun q i wr => ∃ (k : Nat) (acc : List Int), k ≤ l.length ∧ i = .int .i64 k ∧ Hid (idxF (onLine n) l k = acc) ∧ acc.length ≤ k ∧ Hid (GathO 1 intCells 3 w q acc wr)) (fun _ i _ => l.length - (intOf i).toNat)
    case atStart => exact ⟨0, [], Nat.zero_le _, rfl, Lib.hid rfl, Nat.le_refl _, G0⟩
    case round =>
      clear G0
      obtain ⟨k, acc, hk, rfl, hA, hal, hG⟩ := hrel
      have hb : Hid (Below w.heap.size w wr) := Lib.hid hG.out.2
      have hzs2 := hb.out.size
      by_cases hlt : k < l.length
      · obtain ⟨x, hx⟩ : ∃ x, l[k]? = some x := ⟨_, List.getElem?_eq_getElem hlt⟩
        rcases HS.out.2 with ⟨he, _⟩ | ⟨g, o, c, e, hpos, hcap, hc⟩
        · rw [he] at hlt; simp at hlt
        · injection e with hA1 _ hcp
          subst hA1 hcp
          obtain ⟨q0, q1, q2, q3, q4, q5⟩ := SlShip.cells hc k x hx
          have hg : g < w.heap.size := World.block_lt_of_cell? w ⟨g, o + k * 6, none⟩ q0
          have y0 := (hb.out.cell (p := ⟨g, o + k * 6, none⟩) hg).trans q0
          have y1 := (hb.out.cell (p := ⟨g, o + k * 6 + 1, none⟩) hg).trans q1
          have y2 := (hb.out.cell (p := ⟨g, o + k * 6 + 2, none⟩) hg).trans q2
          have y3 := (hb.out.cell (p := ⟨g, o + k * 6 + 3, none⟩) hg).trans q3
          have y4 := (hb.out.cell (p := ⟨g, o + k * 6 + 4, none⟩) hg).trans q4
          have y5 := (hb.out.cell (p := ⟨g, o + k * 6 + 5, none⟩) hg).trans q5
          have HX := Lib.hid hx
          clear q0 q1 q2 q3 q4 q5 hx hc
          obtain ⟨t, ht⟩ : ∃ t, onLine n x = t := ⟨_, rfl⟩
          have HTT := Lib.hid ht
          clear ht
          have G2 := Lib.hid (hG.out.below (Joins.below_alloc1 wr (.cells #[.string x.name, .int .i64 x.length, .int .i64 x.draught, .int .i64 x.line, .int .i64 x.tugs, .bool x.slow] 61)))
          cases t with
          | true =>
            have E2 := Lib.hid (show idxF (onLine n) l (k + 1) = acc ++ [(k : Int)] by rw [idxF_yes HX.out HTT.out, hA.out])
            obtain ⟨Q, cq, hQ⟩ := G2.out.form
            subst hQ
            have tt : (x.line == n) = true := HTT.out
            have GW := Lib.hid (G2.out.below (Joins.below_alloc1 (wr.alloc (.cells #[.string x.name, .int .i64 x.length, .int .i64 x.draught, .int .i64 x.line, .int .i64 x.tugs, .bool x.slow] 61)) (.cells #[.int .i64 (k : Int)] 3)))
            have HN := Lib.hid (World.news_of_block (heap_alloc_new (wr.alloc (.cells #[.string x.name, .int .i64 x.length, .int .i64 x.draught, .int .i64 x.line, .int .i64 x.tugs, .bool x.slow] 61)) (.cells #[.int .i64 (k : Int)] 3)))
            have HN' := Lib.hid (show ∀ j u, (intCells (k : Int))[j]? = some u → ((wr.alloc (.cells #[.string x.name, .int .i64 x.length, .int .i64 x.draught, .int .i64 x.line, .int .i64 x.tugs, .bool x.slow] 61)).alloc (.cells #[.int .i64 (k : Int)] 3)).cell? ((⟨wr.heap.size + 1, 0, none⟩ : Addr).add j) = some u from fun j u hu => by have hh := HN.out j u (by simpa [intCells] using hu); rw [World.size_alloc] at hh; exact hh)
            have hzs3 : w.heap.size ≤ (wr.alloc (.cells #[.string x.name, .int .i64 x.length, .int .i64 x.draught, .int .i64 x.line, .int .i64 x.tugs, .bool x.slow] 61)).heap.size := G2.out.size
            clear hG
            go_wp2_with (at_builtin; refine wpList_append_lies _ rfl _ _ _ rfl w.heap.size 3 i0 _ 1 8 Try.underlying31 HI.out hz0 (by assumption) hz2 rfl (by omega) (.slice Q acc.length cq) acc.length (acc.flatMap intCells) rfl GW.out.1 ⟨wr.heap.size + 1, 0, none⟩ 1 1 (intCells (k : Int)) (by first | rfl | simp) rfl HN'.out (int_one _) (by omega) (by unfold maxLen; omega) (by omega) (by first | omega | (simp; done) | (simp; omega)) _ rfl ?_; intro g4 cap4 w4 hown4 hgrow4 hor4 hlt4; have GX := Lib.hid (GW.out.next hown4 hgrow4); clear hown4 hgrow4 hor4 hlt4)
            go_roundw
            case rel => exact ⟨k + 1, acc ++ [(k : Int)], by omega, by go_num, E2, by simp; omega, GX⟩
            case measure => simp [intOf]; omega
          | false =>
            have E2 := Lib.hid (show idxF (onLine n) l (k + 1) = acc by rw [idxF_no HX.out HTT.out, hA.out])
            have tt : (x.line == n) = false := HTT.out
            clear hG
            go_wp2
            go_roundw
            case rel => exact ⟨k + 1, acc, by omega, by go_num, E2, by omega, G2⟩
            case measure => simp [intOf]; omega
      · obtain rfl : k = l.length := by omega
        have E := Lib.hid (hA.out.symm.trans E0.out.symm)
        obtain ⟨Q, cq, rfl⟩ := hG.out.form
        go_wp2
        go_ret
        exact ⟨_, rfl, by rw [← E.out]; exact hG.out.1, hb.out⟩

set_option maxHeartbeats 8000000 in
theorem indicesOf_any (v : Value) (l : List ShipD) (n : Int) (Ba : Nat) (w : World) (h : SlShip w v l) (h6 : l.length ≤ 6) (ha : w.cell? ⟨Ba, 0, none⟩ = some (.int .i64 n)) :
    Calls Try.prog 66 #[v, .func (.func 67) #[] #[.pointer (some ⟨Ba, 0, none⟩)]] w (LinePost (idxF (onLine n) l l.length) w) := by
  have HS := Lib.hid h
  have hl := h.1
  obtain ⟨A1, c1, rfl⟩ := h.at
  have hla : Ba < w.heap.size := World.block_lt_of_cell? w _ ha
  have HA := Lib.hid ha
  clear h ha
  obtain ⟨i0, hin, hz0, hzs, hz2⟩ := info1_int
  have HI := Lib.hid hin
  clear hin
  have G0 := Lib.hid (GathO.empty (cs := intCells) (t := 3) (k := 1) (Below.refl w.heap.size w))
  go_enter Try.func66, Try.ntmps66
  go_wp2
  go_loopw [5, 10] (fun q i wr => ∃ (k : Nat) (acc : List Int), k ≤ l.length ∧ i = .int .i64 k ∧ Hid (idxF (onLine n) l k = acc) ∧ acc.length ≤ k ∧ Hid (GathO 1 intCells 3 w q acc wr)) (fun _ i _ => l.length - (intOf i).toNat)
  case atStart => exact ⟨0, [], Nat.zero_le _, rfl, Lib.hid rfl, Nat.le_refl _, G0⟩
  case round =>
    clear G0
    obtain ⟨k, acc, hk, rfl, hA, hal, hG⟩ := hrel
    have hb : Hid (Below w.heap.size w wr) := Lib.hid hG.out.2
    have hzs2 := hb.out.size
    by_cases hlt : k < l.length
    · obtain ⟨x, hx⟩ : ∃ x, l[k]? = some x := ⟨_, List.getElem?_eq_getElem hlt⟩
      rcases HS.out.2 with ⟨he, _⟩ | ⟨g, o, c, e, hpos, hcap, hc⟩
      · rw [he] at hlt; simp at hlt
      · injection e with hA1 _ hcp
        subst hA1 hcp
        obtain ⟨q0, q1, q2, q3, q4, q5⟩ := SlShip.cells hc k x hx
        have hg : g < w.heap.size := World.block_lt_of_cell? w ⟨g, o + k * 6, none⟩ q0
        have y0 := (hb.out.cell (p := ⟨g, o + k * 6, none⟩) hg).trans q0
        have y1 := (hb.out.cell (p := ⟨g, o + k * 6 + 1, none⟩) hg).trans q1
        have y2 := (hb.out.cell (p := ⟨g, o + k * 6 + 2, none⟩) hg).trans q2
        have y3 := (hb.out.cell (p := ⟨g, o + k * 6 + 3, none⟩) hg).trans q3
        have y4 := (hb.out.cell (p := ⟨g, o + k * 6 + 4, none⟩) hg).trans q4
        have y5 := (hb.out.cell (p := ⟨g, o + k * 6 + 5, none⟩) hg).trans q5
        have HX := Lib.hid hx
        clear q0 q1 q2 q3 q4 q5 hx hc
        obtain ⟨t, ht⟩ : ∃ t, onLine n x = t := ⟨_, rfl⟩
        have HTT := Lib.hid ht
        clear ht
        have G2 := Lib.hid (hG.out.below (Joins.below_alloc1 wr (.cells #[.string x.name, .int .i64 x.length, .int .i64 x.draught, .int .i64 x.line, .int .i64 x.tugs, .bool x.slow] 61)))
        have YA := Lib.hid ((G2.out.2.cell (p := ⟨Ba, 0, none⟩) hla).trans HA.out)
        go_wp2_with fail
        refine (line1 x n Ba _ YA.out).mono ?_
        rw [HTT.out]
        rintro e w5 ⟨rfl, hb5⟩
        have G3 := Lib.hid (G2.out.below hb5)
        clear hb5 y0 y1 y2 y3 y4 y5 G2
        cases t with
        | true =>
          have E2 := Lib.hid (show idxF (onLine n) l (k + 1) = acc ++ [(k : Int)] by rw [idxF_yes HX.out HTT.out, hA.out])
          obtain ⟨Q, cq, hQ⟩ := G3.out.form
          subst hQ
          have GW := Lib.hid (G3.out.below (Joins.below_alloc1 w5 (.cells #[.int .i64 (k : Int)] 3)))
          have HN := Lib.hid (World.news_of_block (heap_alloc_new w5 (.cells #[.int .i64 (k : Int)] 3)))
          have HN' := Lib.hid (show ∀ j u, (intCells (k : Int))[j]? = some u → (w5.alloc (.cells #[.int .i64 (k : Int)] 3)).cell? ((⟨w5.heap.size, 0, none⟩ : Addr).add j) = some u from fun j u hu => by have hh := HN.out j u (by simpa [intCells] using hu); exact hh)
          have hzs3 : w.heap.size ≤ w5.heap.size := G3.out.size
          clear hG
          go_wp2_with (at_builtin; refine wpList_append_lies _ rfl _ _ _ rfl w.heap.size 3 i0 _ 1 8 Try.underlying31 HI.out hz0 (by assumption) hz2 rfl (by omega) (.slice Q acc.length cq) acc.length (acc.flatMap intCells) rfl GW.out.1 ⟨w5.heap.size, 0, none⟩ 1 1 (intCells (k : Int)) (by first | rfl | simp) rfl HN'.out (int_one _) (by omega) (by unfold maxLen; omega) (by omega) (by first | omega | (simp; done) | (simp; omega)) _ rfl ?_; intro g4 cap4 w4 hown4 hgrow4 hor4 hlt4; have GX := Lib.hid (GW.out.next hown4 hgrow4); clear hown4 hgrow4 hor4 hlt4)
          go_roundw
          case rel => exact ⟨k + 1, acc ++ [(k : Int)], by omega, by go_num, E2, by simp; omega, GX⟩
          case measure => simp [intOf]; omega
        | false =>
          have E2 := Lib.hid (show idxF (onLine n) l (k + 1) = acc by rw [idxF_no HX.out HTT.out, hA.out])
          clear hG
          go_wp2
          go_roundw
          case rel => exact ⟨k + 1, acc, by omega, by go_num, E2, by omega, G3⟩
          case measure => simp [intOf]; omega
    · obtain rfl : k = l.length := by omega
      have E := Lib.hid (hA.out.symm)
      obtain ⟨Q, cq, rfl⟩ := hG.out.form
      go_wp2
      go_ret
      exact ⟨_, rfl, by rw [← E.out]; exact hG.out.1, hb.out⟩

set_option maxHeartbeats 2000000 in
theorem implOfLine (v : Value) (l : List ShipD) (n : Int) (w : World) (h : SlShip w v l) (hw : ∀ x ∈ l, ShipD.wf x) :
    Calls Try.prog 24 #[v, .int .i64 n] w (LinePost (lineL l n) w) := by
  have B := Lib.hid (Joins.below_alloc1 w (.cells #[.int .i64 n] 3))
  have HS := Lib.hid (SlShip.below h B.out)
  obtain ⟨A1, c1, rfl⟩ := h.at
  have C0 := Lib.hid (show (w.alloc (.cells #[.int .i64 n] 3)).cell? ⟨w.heap.size, 0, none⟩ = some (.int .i64 n) from (Blk.new w #[.int .i64 n] 3).cell 0)
  clear h
  obtain ⟨t, ht⟩ : ∃ t, fleetB l = t := ⟨_, rfl⟩
  have HT := Lib.hid ht
  cases t with
  | false =>
    have E := Lib.hid (lineL_bad (n := n) ht)
    clear ht
    go_enter Try.func24, Try.ntmps24
    go_wp2_with fail
    refine (implFleetOk _ l _ HS.out hw).mono ?_
    rw [HT.out]
    rintro e w1 ⟨rfl, hb1⟩
    have B1 := Lib.hid (B.out.trans (hb1.mono B.out.size))
    clear hb1
    go_wp2
    go_ret
    exact ⟨_, rfl, by rw [E.out]; exact (GathO.empty (cs := intCells) (t := 3) (k := 1) B1.out).1, B1.out⟩
  | true =>
    have E0 := Lib.hid (lineL_ok (n := n) ht)
    obtain ⟨h6, -⟩ := fleetB_true ht
    clear ht
    go_enter Try.func24, Try.ntmps24
    go_wp2_with fail
    refine (implFleetOk _ l _ HS.out hw).mono ?_
    rw [HT.out]
    rintro e w1 ⟨rfl, hb1⟩
    have B1 := Lib.hid (B.out.trans (hb1.mono B.out.size))
    have HS1 := Lib.hid (HS.out.below hb1)
    have C1 := Lib.hid ((hb1.cell (p := ⟨w.heap.size, 0, none⟩) (by simp)).trans C0.out)
    have hzs := B1.out.size
    clear hb1
    go_wp2_with fail
    refine (indicesOf_any _ l n _ _ HS1.out h6 C1.out).mono ?_
    rintro e w2 ⟨v, rfl, ho, hb2⟩
    have OW := Lib.hid (own_lo ho (base' := w.heap.size) hzs)
    have B2 := Lib.hid (B1.out.trans (hb2.mono hzs))
    obtain ⟨Q, cq, rfl⟩ := own_form ho
    clear ho hb2
    go_wp2
    go_ret
    exact ⟨_, rfl, by rw [E0.out]; exact OW.out, B2.out⟩

end Go.Proofs.Ytgjappjlnkdpnaa
