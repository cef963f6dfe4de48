/- The highest and the lowest level of a span, in the model: spec.l02Best for the signs 1 and -1; HighestLevel and LowestLevel of both: contracts. -/
import Derived.Test.YtflomhldeecojaaExtreme
namespace Go.Proofs.Ytflomhldeecojaa
open Go.RowKit

theorem l02Level_keep {W : World} {b : Nat} {m : Int} {v : Value} {l : List PartD} (hT : TBox W b m v l) (hv : tideB m l = true) (t : Int) (w0 : World) (t0 : 0 ≤ t) (t1 : t ≤ 2880) (hb : Hid (Below W.heap.size W w0)) :
    Calls Try.prog 49 #[.agg #[.int .i64 m, v], .int .i64 t] w0 fun e w1 => e = .returned (.int .i64 (levI m l t)) ∧ w1.cell? ⟨b, 0, none⟩ = some (.int .i64 m) ∧ w1.cell? ⟨b, 1, none⟩ = some v ∧ Hid (Below W.heap.size W w1) := by
  refine (l02Level_any m v l t w0 (hT.below hb.out).2.2 hv t0 t1).mono ?_
  rintro e w1 ⟨rfl, hb1⟩
  have B := hb.out.trans (hb1.mono hb.out.size)
  exact ⟨rfl, (hT.below B).1, (hT.below B).2.1, Lib.hid B⟩

set_option maxHeartbeats 2000000 in
theorem best_high (m : Int) (v : Value) (l : List PartD) (a b : Int) (w : World) (h : SlP w v l) :
    Calls Try.prog 50 #[.agg #[.int .i64 m, v], .int .i64 a, .int .i64 b, .int .i64 1] w fun e w' => e = .returned (extV m l 1 a b) ∧ Below w.heap.size w w' := by
  have H := Lib.hid h
  obtain ⟨A, c, rfl⟩ := h.at
  have hb0 := Joins.below_alloc1 w (.cells #[.int .i64 m, .slice A l.length c] 28)
  have B0 := Lib.hid hb0
  have T0 := Lib.hid (TBox.new 28 (m := m) H.out)
  have C := Lib.hid (specTideOk m _ l _ (H.out.below hb0))
  clear h hb0
  by_cases hok : spanOk m l a b
  · have E := Lib.hid (extV_yes (s := 1) hok)
    obtain ⟨hv, a0, ab, b1⟩ := hok
    have HV := Lib.hid hv
    have E1 := Lib.hid (inB_mk (x := a) (lo := 0) (hi := 2880) a0 (by omega))
    have E2 := Lib.hid (inB_mk (x := b) (lo := a) (hi := 2880) ab b1)
    rw [hv] at C
    clear hv
    go_enter Try.func50, Try.ntmps50
    go_wp2_with fail
    refine C.out.mono ?_
    rintro e w1 ⟨rfl, hb1⟩
    have T1 := Lib.hid (T0.out.below hb1)
    have B1 := Lib.hid (B0.out.trans (hb1.mono (by simp)))
    clear hb1 C
    go_wp2_with fail
    refine (l01In_any _ _ _ _).mono ?_
    rintro e w2 ⟨rfl, rfl⟩
    rw [E1.out]
    go_wp2_with fail
    refine (l01In_any _ _ _ _).mono ?_
    rintro e w2 ⟨rfl, rfl⟩
    rw [E2.out]
    go_wp2
    go_loopw [11, 12] (fun f i wr => ∃ k : Nat, a + (k : Int) ≤ b ∧ i = .int .i64 (a + (k : Int) + 1) ∧ f = .int .i64 (pickI (levI m l) 1 a k) ∧ Hid (TBox wr w.heap.size m (.slice A l.length c) l) ∧ Hid (Below w.heap.size w wr)) (fun _ i _ => (b + 1 - intOf i).toNat)
    case atStart => exact ⟨0, by omega, by go_num, rfl, T1, B1⟩
    case round =>
      obtain ⟨k, hk, rfl, rfl, hT, hB⟩ := hrel
      obtain ⟨k0, k1⟩ := pickI_in (levI m l) 1 a k
      by_cases hlt : a + (k : Int) + 1 ≤ b
      · obtain ⟨c0, c1, _⟩ := hT.out
        obtain ⟨u0, u1⟩ := lev_bounds HV.out (a + (k : Int) + 1)
        obtain ⟨v0, v1⟩ := lev_bounds HV.out (pickI (levI m l) 1 a k)
        have hD := Lib.hid ((Below.refl wr.heap.size wr).drew)
        have W1 := Lib.hid (IntWalk.i64_in (levI m l (a + (k : Int) + 1)) (by omega))
        have W2 := Lib.hid (IntWalk.i64_in (levI m l (pickI (levI m l) 1 a k)) (by omega))
        by_cases hup : levI m l (pickI (levI m l) 1 a k) < levI m l (a + (k : Int) + 1)
        · have N := Lib.hid (pickI_yes (f := levI m l) (s := 1) (a := a) (n := k) (by simpa using hup))
          have hw : IntKind.i64.wrap (levI m l (pickI (levI m l) 1 a k)) < IntKind.i64.wrap (levI m l (a + (k : Int) + 1)) := by rw [W1.out, W2.out]; omega
          go_wp2
          go_region_held3 (fun w' => w'.cell? ⟨w.heap.size, 0, none⟩ = some (.int .i64 m) ∧ w'.cell? ⟨w.heap.size, 1, none⟩ = some (.slice A l.length c) ∧ Hid (Below wr.heap.size wr w')) (go_keep)
            (first | (go_at_call 49; refine (l02Level_keep hT.out HV.out _ _ ?_ ?_ ?_).mono ?_; omega; omega; (simp [*]); rintro e w7 ⟨rfl, y0, y1, y2⟩))
          all_goals
            have T7 := Lib.hid (hT.out.below y2.out)
            have B7 := Lib.hid (hB.out.trans (y2.out.mono hB.out.size))
            clear y0 y1 y2 c0 c1
            go_wp2
            go_roundw
            case rel => exact ⟨k + 1, by omega, by go_num, by rw [N.out], T7, B7⟩
            case measure => simp [intOf]; omega
        · have N := Lib.hid (pickI_no (f := levI m l) (s := 1) (a := a) (n := k) (by simpa using hup))
          have hw : ¬ IntKind.i64.wrap (levI m l (pickI (levI m l) 1 a k)) < IntKind.i64.wrap (levI m l (a + (k : Int) + 1)) := by rw [W1.out, W2.out]; omega
          go_wp2
          go_region_held3 (fun w' => w'.cell? ⟨w.heap.size, 0, none⟩ = some (.int .i64 m) ∧ w'.cell? ⟨w.heap.size, 1, none⟩ = some (.slice A l.length c) ∧ Hid (Below wr.heap.size wr w')) (go_keep)
            (first | (go_at_call 49; refine (l02Level_keep hT.out HV.out _ _ ?_ ?_ ?_).mono ?_; omega; omega; (simp [*]); rintro e w7 ⟨rfl, y0, y1, y2⟩))
          all_goals
            have T7 := Lib.hid (hT.out.below y2.out)
            have B7 := Lib.hid (hB.out.trans (y2.out.mono hB.out.size))
            clear y0 y1 y2 c0 c1
            go_wp2
            go_roundw
            case rel => exact ⟨k + 1, by omega, by go_num, by rw [N.out], T7, B7⟩
            case measure => simp [intOf]; omega
      · have hkk : Hid ((b - a).toNat = k) := Lib.hid (by omega)
        have EQ := Lib.hid (show extV m l 1 a b = .tuple #[.int .i64 (levI m l (pickI (levI m l) 1 a k)), .int .i64 (pickI (levI m l) 1 a k), .bool true] by rw [E.out]; unfold extP; rw [hkk.out])
        obtain ⟨c0, c1, _⟩ := hT.out
        go_wp2_with fail
        refine (l02Level_any m _ l _ wr hT.out.2.2 HV.out (by omega) (by omega)).mono ?_
        rintro e w3 ⟨rfl, hb3⟩
        have B3 := Lib.hid (hB.out.trans (hb3.mono hB.out.size))
        clear hb3 c0 c1
        go_wp2
        go_ret3
        exact ⟨ret_val EQ.out.symm, B3.out⟩
  · have E := Lib.hid (extV_no (s := 1) hok)
    cases hv : tideB m l with
    | false =>
      rw [hv] at C
      clear hv hok
      go_enter Try.func50, Try.ntmps50
      go_wp2_with fail
      refine C.out.mono ?_
      rintro e w1 ⟨rfl, hb1⟩
      have B1 := Lib.hid (B0.out.trans (hb1.mono (by simp)))
      clear hb1 C
      go_wp2
      go_ret3
      exact ⟨ret_val E.out.symm, B1.out⟩
    | true =>
      by_cases h1 : 0 ≤ a ∧ a ≤ 2880
      · have E1 := Lib.hid (inB_mk (x := a) (lo := 0) (hi := 2880) h1.1 h1.2)
        have E2 := Lib.hid (inB_no (x := b) (lo := a) (hi := 2880) (by
          unfold spanOk at hok
          rw [hv] at hok
          simp only [true_and] at hok
          omega))
        rw [hv] at C
        clear hv hok h1
        go_enter Try.func50, Try.ntmps50
        go_wp2_with fail
        refine C.out.mono ?_
        rintro e w1 ⟨rfl, hb1⟩
        have B1 := Lib.hid (B0.out.trans (hb1.mono (by simp)))
        clear hb1
        go_wp2_with fail
        refine (l01In_any _ _ _ _).mono ?_
        rintro e w2 ⟨rfl, rfl⟩
        rw [E1.out]
        go_wp2_with fail
        refine (l01In_any _ _ _ _).mono ?_
        rintro e w2 ⟨rfl, rfl⟩
        rw [E2.out]
        go_wp2
        go_ret3
        exact ⟨ret_val E.out.symm, B1.out⟩
      · have E1 := Lib.hid (inB_no (x := a) (lo := 0) (hi := 2880) (by omega))
        rw [hv] at C
        clear hv hok h1
        go_enter Try.func50, Try.ntmps50
        go_wp2_with fail
        refine C.out.mono ?_
        rintro e w1 ⟨rfl, hb1⟩
        have B1 := Lib.hid (B0.out.trans (hb1.mono (by simp)))
        clear hb1
        go_wp2_with fail
        refine (l01In_any _ _ _ _).mono ?_
        rintro e w2 ⟨rfl, rfl⟩
        rw [E1.out]
        go_wp2
        go_ret3
        exact ⟨ret_val E.out.symm, B1.out⟩

set_option maxHeartbeats 2000000 in
theorem best_low (m : Int) (v : Value) (l : List PartD) (a b : Int) (w : World) (h : SlP w v l) :
    Calls Try.prog 50 #[.agg #[.int .i64 m, v], .int .i64 a, .int .i64 b, .int .i64 (-1)] w fun e w' => e = .returned (extV m l (-1) a b) ∧ Below w.heap.size w w' := by
  have H := Lib.hid h
  obtain ⟨A, c, rfl⟩ := h.at
  have hb0 := Joins.below_alloc1 w (.cells #[.int .i64 m, .slice A l.length c] 28)
  have B0 := Lib.hid hb0
  have T0 := Lib.hid (TBox.new 28 (m := m) H.out)
  have C := Lib.hid (specTideOk m _ l _ (H.out.below hb0))
  clear h hb0
  by_cases hok : spanOk m l a b
  · have E := Lib.hid (extV_yes (s := -1) hok)
    obtain ⟨hv, a0, ab, b1⟩ := hok
    have HV := Lib.hid hv
    have E1 := Lib.hid (inB_mk (x := a) (lo := 0) (hi := 2880) a0 (by omega))
    have E2 := Lib.hid (inB_mk (x := b) (lo := a) (hi := 2880) ab b1)
    rw [hv] at C
    clear hv
    go_enter Try.func50, Try.ntmps50
    go_wp2_with fail
    refine C.out.mono ?_
    rintro e w1 ⟨rfl, hb1⟩
    have T1 := Lib.hid (T0.out.below hb1)
    have B1 := Lib.hid (B0.out.trans (hb1.mono (by simp)))
    clear hb1 C
    go_wp2_with fail
    refine (l01In_any _ _ _ _).mono ?_
    rintro e w2 ⟨rfl, rfl⟩
    rw [E1.out]
    go_wp2_with fail
    refine (l01In_any _ _ _ _).mono ?_
    rintro e w2 ⟨rfl, rfl⟩
    rw [E2.out]
    go_wp2
    go_loopw [11, 12] (fun f i wr => ∃ k : Nat, a + (k : Int) ≤ b ∧ i = .int .i64 (a + (k : Int) + 1) ∧ f = .int .i64 (pickI (levI m l) (-1) a k) ∧ Hid (TBox wr w.heap.size m (.slice A l.length c) l) ∧ Hid (Below w.heap.size w wr)) (fun _ i _ => (b + 1 - intOf i).toNat)
    case atStart => exact ⟨0, by omega, by go_num, rfl, T1, B1⟩
    case round =>
      obtain ⟨k, hk, rfl, rfl, hT, hB⟩ := hrel
      obtain ⟨k0, k1⟩ := pickI_in (levI m l) (-1) a k
      by_cases hlt : a + (k : Int) + 1 ≤ b
      · obtain ⟨c0, c1, _⟩ := hT.out
        obtain ⟨u0, u1⟩ := lev_bounds HV.out (a + (k : Int) + 1)
        obtain ⟨v0, v1⟩ := lev_bounds HV.out (pickI (levI m l) (-1) a k)
        have hD := Lib.hid ((Below.refl wr.heap.size wr).drew)
        have W1 := Lib.hid (IntWalk.i64_in (-levI m l (a + (k : Int) + 1)) (by omega))
        have W2 := Lib.hid (IntWalk.i64_in (-levI m l (pickI (levI m l) (-1) a k)) (by omega))
        by_cases hup : levI m l (a + (k : Int) + 1) < levI m l (pickI (levI m l) (-1) a k)
        · have N := Lib.hid (pickI_yes (f := levI m l) (s := -1) (a := a) (n := k) (by omega))
          have hw : IntKind.i64.wrap (-levI m l (pickI (levI m l) (-1) a k)) < IntKind.i64.wrap (-levI m l (a + (k : Int) + 1)) := by rw [W1.out, W2.out]; omega
          go_wp2
          go_region_held3 (fun w' => w'.cell? ⟨w.heap.size, 0, none⟩ = some (.int .i64 m) ∧ w'.cell? ⟨w.heap.size, 1, none⟩ = some (.slice A l.length c) ∧ Hid (Below wr.heap.size wr w')) (go_keep)
            (first | (go_at_call 49; refine (l02Level_keep hT.out HV.out _ _ ?_ ?_ ?_).mono ?_; omega; omega; (simp [*]); rintro e w7 ⟨rfl, y0, y1, y2⟩))
          all_goals
            have T7 := Lib.hid (hT.out.below y2.out)
            have B7 := Lib.hid (hB.out.trans (y2.out.mono hB.out.size))
            clear y0 y1 y2 c0 c1
            go_wp2
            go_roundw
            case rel => exact ⟨k + 1, by omega, by go_num, by rw [N.out], T7, B7⟩
            case measure => simp [intOf]; omega
        · have N := Lib.hid (pickI_no (f := levI m l) (s := -1) (a := a) (n := k) (by omega))
          have hw : ¬ IntKind.i64.wrap (-levI m l (pickI (levI m l) (-1) a k)) < IntKind.i64.wrap (-levI m l (a + (k : Int) + 1)) := by rw [W1.out, W2.out]; omega
          go_wp2
          go_region_held3 (fun w' => w'.cell? ⟨w.heap.size, 0, none⟩ = some (.int .i64 m) ∧ w'.cell? ⟨w.heap.size, 1, none⟩ = some (.slice A l.length c) ∧ Hid (Below wr.heap.size wr w')) (go_keep)
            (first | (go_at_call 49; refine (l02Level_keep hT.out HV.out _ _ ?_ ?_ ?_).mono ?_; omega; omega; (simp [*]); rintro e w7 ⟨rfl, y0, y1, y2⟩))
          all_goals
            have T7 := Lib.hid (hT.out.below y2.out)
            have B7 := Lib.hid (hB.out.trans (y2.out.mono hB.out.size))
            clear y0 y1 y2 c0 c1
            go_wp2
            go_roundw
            case rel => exact ⟨k + 1, by omega, by go_num, by rw [N.out], T7, B7⟩
            case measure => simp [intOf]; omega
      · have hkk : Hid ((b - a).toNat = k) := Lib.hid (by omega)
        have EQ := Lib.hid (show extV m l (-1) a b = .tuple #[.int .i64 (levI m l (pickI (levI m l) (-1) a k)), .int .i64 (pickI (levI m l) (-1) a k), .bool true] by rw [E.out]; unfold extP; rw [hkk.out])
        obtain ⟨c0, c1, _⟩ := hT.out
        go_wp2_with fail
        refine (l02Level_any m _ l _ wr hT.out.2.2 HV.out (by omega) (by omega)).mono ?_
        rintro e w3 ⟨rfl, hb3⟩
        have B3 := Lib.hid (hB.out.trans (hb3.mono hB.out.size))
        clear hb3 c0 c1
        go_wp2
        go_ret3
        exact ⟨ret_val EQ.out.symm, B3.out⟩
  · have E := Lib.hid (extV_no (s := -1) hok)
    cases hv : tideB m l with
    | false =>
      rw [hv] at C
      clear hv hok
      go_enter Try.func50, Try.ntmps50
      go_wp2_with fail
      refine C.out.mono ?_
      rintro e w1 ⟨rfl, hb1⟩
      have B1 := Lib.hid (B0.out.trans (hb1.mono (by simp)))
      clear hb1 C
      go_wp2
      go_ret3
      exact ⟨ret_val E.out.symm, B1.out⟩
    | true =>
      by_cases h1 : 0 ≤ a ∧ a ≤ 2880
      · have E1 := Lib.hid (inB_mk (x := a) (lo := 0) (hi := 2880) h1.1 h1.2)
        have E2 := Lib.hid (inB_no (x := b) (lo := a) (hi := 2880) (by
          unfold spanOk at hok
          rw [hv] at hok
          simp only [true_and] at hok
          omega))
        rw [hv] at C
        clear hv hok h1
        go_enter Try.func50, Try.ntmps50
        go_wp2_with fail
        refine C.out.mono ?_
        rintro e w1 ⟨rfl, hb1⟩
        have B1 := Lib.hid (B0.out.trans (hb1.mono (by simp)))
        clear hb1
        go_wp2_with fail
        refine (l01In_any _ _ _ _).mono ?_
        rintro e w2 ⟨rfl, rfl⟩
        rw [E1.out]
        go_wp2_with fail
        refine (l01In_any _ _ _ _).mono ?_
        rintro e w2 ⟨rfl, rfl⟩
        rw [E2.out]
        go_wp2
        go_ret3
        exact ⟨ret_val E.out.symm, B1.out⟩
      · have E1 := Lib.hid (inB_no (x := a) (lo := 0) (hi := 2880) (by omega))
        rw [hv] at C
        clear hv hok h1
        go_enter Try.func50, Try.ntmps50
        go_wp2_with fail
        refine C.out.mono ?_
        rintro e w1 ⟨rfl, hb1⟩
        have B1 := Lib.hid (B0.out.trans (hb1.mono (by simp)))
        clear hb1
        go_wp2_with fail
        refine (l01In_any _ _ _ _).mono ?_
        rintro e w2 ⟨rfl, rfl⟩
        rw [E1.out]
        go_wp2
        go_ret3
        exact ⟨ret_val E.out.symm, B1.out⟩

theorem extV_form (m : Int) (l : List PartD) (s a b : Int) : ∃ x y z, extV m l s a b = .tuple #[.int .i64 x, .int .i64 y, .bool z] := by
  unfold extV
  split <;> exact ⟨_, _, _, rfl⟩

theorem implHighestLevel (m : Int) (v : Value) (l : List PartD) (a b : Int) (w : World) (h : SlP w v l) :
    Calls Try.prog 16 #[.agg #[.int .i64 m, v], .int .i64 a, .int .i64 b] w fun e w' => e = .returned (extV m l (1) a b) ∧ Below w.heap.size w w' := by
  have H := Lib.hid h
  obtain ⟨A, c, rfl⟩ := h.at
  have hb0 := Joins.below_alloc1 w (.cells #[.int .i64 m, .slice A l.length c] 28)
  have B0 := Lib.hid hb0
  have C := Lib.hid (extreme_high m _ l a b _ (H.out.below hb0))
  clear h hb0
  obtain ⟨x, y, z, hxyz⟩ := extV_form m l (1) a b
  rw [hxyz] at C ⊢
  clear hxyz
  go_enter Try.func16, Try.ntmps16
  go_wp2_with fail
  refine C.out.mono ?_
  rintro e w1 ⟨rfl, hb1⟩
  have B1 := Lib.hid (B0.out.trans (hb1.mono (by simp)))
  clear hb1 C
  go_wp2
  go_ret3
  exact ⟨rfl, B1.out⟩

theorem implLowestLevel (m : Int) (v : Value) (l : List PartD) (a b : Int) (w : World) (h : SlP w v l) :
    Calls Try.prog 17 #[.agg #[.int .i64 m, v], .int .i64 a, .int .i64 b] w fun e w' => e = .returned (extV m l (-1) a b) ∧ Below w.heap.size w w' := by
  have H := Lib.hid h
  obtain ⟨A, c, rfl⟩ := h.at
  have hb0 := Joins.below_alloc1 w (.cells #[.int .i64 m, .slice A l.length c] 28)
  have B0 := Lib.hid hb0
  have C := Lib.hid (extreme_low m _ l a b _ (H.out.below hb0))
  clear h hb0
  obtain ⟨x, y, z, hxyz⟩ := extV_form m l (-1) a b
  rw [hxyz] at C ⊢
  clear hxyz
  go_enter Try.func17, Try.ntmps17
  go_wp2_with fail
  refine C.out.mono ?_
  rintro e w1 ⟨rfl, hb1⟩
  have B1 := Lib.hid (B0.out.trans (hb1.mono (by simp)))
  clear hb1 C
  go_wp2
  go_ret3
  exact ⟨rfl, B1.out⟩

theorem specHighestLevel (m : Int) (v : Value) (l : List PartD) (a b : Int) (w : World) (h : SlP w v l) :
    Calls Try.prog 31 #[.agg #[.int .i64 m, v], .int .i64 a, .int .i64 b] w fun e w' => e = .returned (extV m l (1) a b) ∧ Below w.heap.size w w' := by
  have H := Lib.hid h
  obtain ⟨A, c, rfl⟩ := h.at
  have hb0 := Joins.below_alloc1 w (.cells #[.int .i64 m, .slice A l.length c] 28)
  have B0 := Lib.hid hb0
  have C := Lib.hid (best_high m _ l a b _ (H.out.below hb0))
  clear h hb0
  obtain ⟨x, y, z, hxyz⟩ := extV_form m l (1) a b
  rw [hxyz] at C ⊢
  clear hxyz
  go_enter Try.func31, Try.ntmps31
  go_wp2_with fail
  refine C.out.mono ?_
  rintro e w1 ⟨rfl, hb1⟩
  have B1 := Lib.hid (B0.out.trans (hb1.mono (by simp)))
  clear hb1 C
  go_wp2
  go_ret3
  exact ⟨rfl, B1.out⟩

theorem specLowestLevel (m : Int) (v : Value) (l : List PartD) (a b : Int) (w : World) (h : SlP w v l) :
    Calls Try.prog 32 #[.agg #[.int .i64 m, v], .int .i64 a, .int .i64 b] w fun e w' => e = .returned (extV m l (-1) a b) ∧ Below w.heap.size w w' := by
  have H := Lib.hid h
  obtain ⟨A, c, rfl⟩ := h.at
  have hb0 := Joins.below_alloc1 w (.cells #[.int .i64 m, .slice A l.length c] 28)
  have B0 := Lib.hid hb0
  have C := Lib.hid (best_low m _ l a b _ (H.out.below hb0))
  clear h hb0
  obtain ⟨x, y, z, hxyz⟩ := extV_form m l (-1) a b
  rw [hxyz] at C ⊢
  clear hxyz
  go_enter Try.func32, Try.ntmps32
  go_wp2_with fail
  refine C.out.mono ?_
  rintro e w1 ⟨rfl, hb1⟩
  have B1 := Lib.hid (B0.out.trans (hb1.mono (by simp)))
  clear hb1 C
  go_wp2
  go_ret3
  exact ⟨rfl, B1.out⟩

end Go.Proofs.Ytflomhldeecojaa
