/- The highest and the lowest level of a span: impl.extremeLevel and spec.l02Best, for the signs 1 and -1: contracts. -/
import Derived.Test.YtbcbbolakjjglaaLevel
import Derived.Test.YtbcbbolakjjglaaTideBox
namespace Go.Proofs.Ytbcbbolakjjglaa
open Go.RowKit
set_option maxRecDepth 100000

/-- The first minute from a on, of the n + 1 first, at which s * f is greatest. -/
def pickI (f : Int → Int) (s a : Int) : Nat → Int
  | 0 => a
  | n + 1 => if s * f (pickI f s a n) < s * f (a + (n : Int) + 1) then a + (n : Int) + 1 else pickI f s a n
theorem pickI_in (f : Int → Int) (s a : Int) (n : Nat) : a ≤ pickI f s a n ∧ pickI f s a n ≤ a + (n : Int) := by
  induction n with
  | zero => simp [pickI]
  | succ n ih =>
    unfold pickI
    split <;> omega
theorem pickI_yes {f : Int → Int} {s a : Int} {n : Nat} (h : s * f (pickI f s a n) < s * f (a + (n : Int) + 1)) : pickI f s a (n + 1) = a + (n : Int) + 1 := if_pos h
theorem pickI_no {f : Int → Int} {s a : Int} {n : Nat} (h : ¬ s * f (pickI f s a n) < s * f (a + (n : Int) + 1)) : pickI f s a (n + 1) = pickI f s a n := if_neg h

def spanOk (m : Int) (l : List PartD) (a b : Int) : Prop := tideB m l = true ∧ 0 ≤ a ∧ a ≤ b ∧ b ≤ 2880
instance (m : Int) (l : List PartD) (a b : Int) : Decidable (spanOk m l a b) := by unfold spanOk; infer_instance
def extP (m : Int) (l : List PartD) (s a b : Int) : Int := pickI (levI m l) s a (b - a).toNat
/-- The answer: the level, its minute, whether there is one. -/
def extV (m : Int) (l : List PartD) (s a b : Int) : Value := if spanOk m l a b then .tuple #[.int .i64 (levI m l (extP m l s a b)), .int .i64 (extP m l s a b), .bool true] else .tuple #[.int .i64 0, .int .i64 0, .bool false]
theorem extV_yes {m : Int} {l : List PartD} {s a b : Int} (h : spanOk m l a b) : extV m l s a b = .tuple #[.int .i64 (levI m l (extP m l s a b)), .int .i64 (extP m l s a b), .bool true] := if_pos h
theorem extV_no {m : Int} {l : List PartD} {s a b : Int} (h : ¬ spanOk m l a b) : extV m l s a b = .tuple #[.int .i64 0, .int .i64 0, .bool false] := if_neg h

theorem ret_val {u v : Value} (h : u = v) : Ending.returned u = .returned v := by rw [h]

theorem lev_bounds {m : Int} {l : List PartD} (h : tideB m l = true) (t : Int) : -5000 ≤ levI m l t ∧ levI m l t ≤ 5000 := by
  obtain ⟨m0, m1, hlen, hall⟩ := tideB_true h
  have := levI_le m t l hall
  omega

set_option maxHeartbeats 2000000 in
theorem extreme_high (m : Int) (v : Value) (l : List PartD) (a b : Int) (w : World) (h : SlP w v l) :
    Calls Try.prog 77 #[.agg #[.int .i64 m, v], .int .i64 a, .int .i64 b, .int .i64 1] w fun e w' => e = .returned (extV m l 1 a b) ∧ Below w.heap.size w w' := by
  have H := Lib.hid h
  obtain ⟨A, c, rfl⟩ := h.at
  have hb0 := Joins.below_alloc1 w (.cells #[.int .i64 m, .slice A l.length c] 25)
  have B0 := Lib.hid hb0
  have T0 := Lib.hid (TBox.new 25 (m := m) H.out)
  have C := Lib.hid (implTideOk m _ l _ (H.out.below hb0))
  clear h hb0
  by_cases hok : spanOk m l a b
  · have E := Lib.hid (extV_yes (s := 1) hok)
    obtain ⟨hv, a0, ab, b1⟩ := hok
    have HV := Lib.hid hv
    rw [hv] at C
    clear hv
    go_enter Try.func77, Try.ntmps77
    go_wp2_with fail
    refine C.out.mono ?_
    rintro e w1 ⟨rfl, hb1⟩
    have T1 := Lib.hid (T0.out.below hb1)
    have B1 := Lib.hid (B0.out.trans (hb1.mono (by simp)))
    obtain ⟨c0, c1, _⟩ := T1.out
    clear hb1 C
    go_wp2_with fail
    refine (levelOf_any m _ l a w1 T1.out.2.2 HV.out a0 (by omega)).mono ?_
    rintro e w2 ⟨rfl, hb2⟩
    have T2 := Lib.hid (T1.out.below hb2)
    have B2 := Lib.hid (B1.out.trans (hb2.mono B1.out.size))
    clear hb2 c0 c1
    go_wp2
    go_loopw [11, 12, 13] (fun q f i wr => ∃ k : Nat, a + (k : Int) ≤ b ∧ i = .int .i64 (a + (k : Int) + 1) ∧ q = .int .i64 (levI m l (pickI (levI m l) 1 a k)) ∧ f = .int .i64 (pickI (levI m l) 1 a k) ∧ Hid (TBox wr w.heap.size m (.slice A l.length c) l) ∧ Hid (Below w.heap.size w wr)) (fun _ _ i _ => (b + 1 - intOf i).toNat)
    case atStart => exact ⟨0, by omega, by go_num, rfl, rfl, T2, B2⟩
    case round =>
      obtain ⟨k, hk, rfl, rfl, rfl, hT, hB⟩ := hrel
      by_cases hlt : a + (k : Int) + 1 ≤ b
      · obtain ⟨c0, c1, _⟩ := hT.out
        obtain ⟨u0, u1⟩ := lev_bounds HV.out (a + (k : Int) + 1)
        obtain ⟨v0, v1⟩ := lev_bounds HV.out (pickI (levI m l) 1 a k)
        by_cases hup : levI m l (pickI (levI m l) 1 a k) < levI m l (a + (k : Int) + 1)
        · have N := Lib.hid (pickI_yes (f := levI m l) (s := 1) (a := a) (n := k) (by simpa using hup))
          go_wp2_with fail
          refine (levelOf_any m _ l (a + (k : Int) + 1) wr hT.out.2.2 HV.out (by omega) (by omega)).mono ?_
          rintro e w3 ⟨rfl, hb3⟩
          have T3 := Lib.hid (hT.out.below hb3)
          have B3 := Lib.hid (hB.out.trans (hb3.mono hB.out.size))
          clear hb3 c0 c1
          go_wp2
          go_roundw
          case rel => exact ⟨k + 1, by omega, by go_num, by rw [N.out], by rw [N.out], T3, B3⟩
          case measure => simp [intOf]; omega
        · have N := Lib.hid (pickI_no (f := levI m l) (s := 1) (a := a) (n := k) (by simpa using hup))
          go_wp2_with fail
          refine (levelOf_any m _ l (a + (k : Int) + 1) wr hT.out.2.2 HV.out (by omega) (by omega)).mono ?_
          rintro e w3 ⟨rfl, hb3⟩
          have T3 := Lib.hid (hT.out.below hb3)
          have B3 := Lib.hid (hB.out.trans (hb3.mono hB.out.size))
          clear hb3 c0 c1
          go_wp2
          go_roundw
          case rel => exact ⟨k + 1, by omega, by go_num, by rw [N.out], by rw [N.out], T3, B3⟩
          case measure => simp [intOf]; omega
      · have hkk : Hid ((b - a).toNat = k) := Lib.hid (by omega)
        have EQ := Lib.hid (show extV m l 1 a b = .tuple #[.int .i64 (levI m l (pickI (levI m l) 1 a k)), .int .i64 (pickI (levI m l) 1 a k), .bool true] by rw [E.out]; unfold extP; rw [hkk.out])
        go_wp2
        go_ret3
        exact ⟨ret_val EQ.out.symm, hB.out⟩
  · have E := Lib.hid (extV_no (s := 1) hok)
    cases hv : tideB m l with
    | false =>
      rw [hv] at C
      clear hv hok
      go_enter Try.func77, Try.ntmps77
      go_wp2_with fail
      refine C.out.mono ?_
      rintro e w1 ⟨rfl, hb1⟩
      have B1 := Lib.hid (B0.out.trans (hb1.mono (by simp)))
      clear hb1 C
      go_wp2
      go_ret3
      exact ⟨ret_val E.out.symm, B1.out⟩
    | true =>
      have hno : a < 0 ∨ (0 ≤ a ∧ b < a) ∨ (0 ≤ a ∧ a ≤ b ∧ 2880 < b) := by
        unfold spanOk at hok
        rw [hv] at hok
        simp only [true_and] at hok
        omega
      rw [hv] at C
      clear hv hok
      rcases hno with h1 | ⟨h1, h2⟩ | ⟨h1, h2, h3⟩
      all_goals
        go_enter Try.func77, Try.ntmps77
        go_wp2_with fail
        refine C.out.mono ?_
        rintro e w1 ⟨rfl, hb1⟩
        have B1 := Lib.hid (B0.out.trans (hb1.mono (by simp)))
        clear hb1
        go_wp2
        go_ret3
        exact ⟨ret_val E.out.symm, B1.out⟩

set_option maxHeartbeats 2000000 in
theorem extreme_low (m : Int) (v : Value) (l : List PartD) (a b : Int) (w : World) (h : SlP w v l) :
    Calls Try.prog 77 #[.agg #[.int .i64 m, v], .int .i64 a, .int .i64 b, .int .i64 (-1)] w fun e w' => e = .returned (extV m l (-1) a b) ∧ Below w.heap.size w w' := by
  have H := Lib.hid h
  obtain ⟨A, c, rfl⟩ := h.at
  have hb0 := Joins.below_alloc1 w (.cells #[.int .i64 m, .slice A l.length c] 25)
  have B0 := Lib.hid hb0
  have T0 := Lib.hid (TBox.new 25 (m := m) H.out)
  have C := Lib.hid (implTideOk m _ l _ (H.out.below hb0))
  clear h hb0
  by_cases hok : spanOk m l a b
  · have E := Lib.hid (extV_yes (s := -1) hok)
    obtain ⟨hv, a0, ab, b1⟩ := hok
    have HV := Lib.hid hv
    rw [hv] at C
    clear hv
    go_enter Try.func77, Try.ntmps77
    go_wp2_with fail
    refine C.out.mono ?_
    rintro e w1 ⟨rfl, hb1⟩
    have T1 := Lib.hid (T0.out.below hb1)
    have B1 := Lib.hid (B0.out.trans (hb1.mono (by simp)))
    obtain ⟨c0, c1, _⟩ := T1.out
    clear hb1 C
    go_wp2_with fail
    refine (levelOf_any m _ l a w1 T1.out.2.2 HV.out a0 (by omega)).mono ?_
    rintro e w2 ⟨rfl, hb2⟩
    have T2 := Lib.hid (T1.out.below hb2)
    have B2 := Lib.hid (B1.out.trans (hb2.mono B1.out.size))
    clear hb2 c0 c1
    go_wp2
    go_loopw [11, 12, 13] (fun q f i wr => ∃ k : Nat, a + (k : Int) ≤ b ∧ i = .int .i64 (a + (k : Int) + 1) ∧ q = .int .i64 (levI m l (pickI (levI m l) (-1) a k)) ∧ f = .int .i64 (pickI (levI m l) (-1) a k) ∧ Hid (TBox wr w.heap.size m (.slice A l.length c) l) ∧ Hid (Below w.heap.size w wr)) (fun _ _ i _ => (b + 1 - intOf i).toNat)
    case atStart => exact ⟨0, by omega, by go_num, rfl, rfl, T2, B2⟩
    case round =>
      obtain ⟨k, hk, rfl, rfl, rfl, hT, hB⟩ := hrel
      by_cases hlt : a + (k : Int) + 1 ≤ b
      · obtain ⟨c0, c1, _⟩ := hT.out
        obtain ⟨u0, u1⟩ := lev_bounds HV.out (a + (k : Int) + 1)
        obtain ⟨v0, v1⟩ := lev_bounds HV.out (pickI (levI m l) (-1) a k)
        by_cases hup : levI m l (a + (k : Int) + 1) < levI m l (pickI (levI m l) (-1) a k)
        · have N := Lib.hid (pickI_yes (f := levI m l) (s := -1) (a := a) (n := k) (by omega))
          go_wp2_with fail
          refine (levelOf_any m _ l (a + (k : Int) + 1) wr hT.out.2.2 HV.out (by omega) (by omega)).mono ?_
          rintro e w3 ⟨rfl, hb3⟩
          have T3 := Lib.hid (hT.out.below hb3)
          have B3 := Lib.hid (hB.out.trans (hb3.mono hB.out.size))
          clear hb3 c0 c1
          go_wp2
          go_roundw
          case rel => exact ⟨k + 1, by omega, by go_num, by rw [N.out], by rw [N.out], T3, B3⟩
          case measure => simp [intOf]; omega
        · have N := Lib.hid (pickI_no (f := levI m l) (s := -1) (a := a) (n := k) (by omega))
          go_wp2_with fail
          refine (levelOf_any m _ l (a + (k : Int) + 1) wr hT.out.2.2 HV.out (by omega) (by omega)).mono ?_
          rintro e w3 ⟨rfl, hb3⟩
          have T3 := Lib.hid (hT.out.below hb3)
          have B3 := Lib.hid (hB.out.trans (hb3.mono hB.out.size))
          clear hb3 c0 c1
          go_wp2
          go_roundw
          case rel => exact ⟨k + 1, by omega, by go_num, by rw [N.out], by rw [N.out], T3, B3⟩
          case measure => simp [intOf]; omega
      · have hkk : Hid ((b - a).toNat = k) := Lib.hid (by omega)
        have EQ := Lib.hid (show extV m l (-1) a b = .tuple #[.int .i64 (levI m l (pickI (levI m l) (-1) a k)), .int .i64 (pickI (levI m l) (-1) a k), .bool true] by rw [E.out]; unfold extP; rw [hkk.out])
        go_wp2
        go_ret3
        exact ⟨ret_val EQ.out.symm, hB.out⟩
  · have E := Lib.hid (extV_no (s := -1) hok)
    cases hv : tideB m l with
    | false =>
      rw [hv] at C
      clear hv hok
      go_enter Try.func77, Try.ntmps77
      go_wp2_with fail
      refine C.out.mono ?_
      rintro e w1 ⟨rfl, hb1⟩
      have B1 := Lib.hid (B0.out.trans (hb1.mono (by simp)))
      clear hb1 C
      go_wp2
      go_ret3
      exact ⟨ret_val E.out.symm, B1.out⟩
    | true =>
      have hno : a < 0 ∨ (0 ≤ a ∧ b < a) ∨ (0 ≤ a ∧ a ≤ b ∧ 2880 < b) := by
        unfold spanOk at hok
        rw [hv] at hok
        simp only [true_and] at hok
        omega
      rw [hv] at C
      clear hv hok
      rcases hno with h1 | ⟨h1, h2⟩ | ⟨h1, h2, h3⟩
      all_goals
        go_enter Try.func77, Try.ntmps77
        go_wp2_with fail
        refine C.out.mono ?_
        rintro e w1 ⟨rfl, hb1⟩
        have B1 := Lib.hid (B0.out.trans (hb1.mono (by simp)))
        clear hb1
        go_wp2
        go_ret3
        exact ⟨ret_val E.out.symm, B1.out⟩

end Go.Proofs.Ytbcbbolakjjglaa
