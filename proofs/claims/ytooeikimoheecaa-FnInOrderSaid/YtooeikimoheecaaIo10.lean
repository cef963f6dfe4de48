
/- What InOrderLaw rests on, part 10: contracts and mathematics. -/
import Derived.Test.YtooeikimoheecaaIo8
import Derived.IntWalk
namespace Go.Proofs.Ytooeikimoheecaa
open Go.RowKit
set_option maxRecDepth 100000
/-- What a part adds at the minute t. -/
def addI (t : Int) (x : PartD) : Int := (x.amp * waveI (t + x.pha) x.per).tdiv 10000
def levI (m : Int) (l : List PartD) (t : Int) : Int := l.foldl (fun s x => s + addI t x) m
def ampI (l : List PartD) : Int := l.foldl (fun s x => s + x.amp) 0
theorem tdiv_le {a y : Int} (h0 : -(a * 10000) ≤ y) (h1 : y ≤ a * 10000) : -a ≤ y.tdiv 10000 ∧ y.tdiv 10000 ≤ a := by
  rcases Int.le_total 0 y with h | h
  · rw [Int.tdiv_eq_ediv_of_nonneg h]; omega
  · have e : y.tdiv 10000 = -((-y).tdiv 10000) := by rw [Int.neg_tdiv, Int.neg_neg]
    rw [e, Int.tdiv_eq_ediv_of_nonneg (by omega)]; omega
theorem mul_le {a y : Int} (ha : 0 ≤ a) (h0 : -10000 ≤ y) (h1 : y ≤ 10000) : -(a * 10000) ≤ a * y ∧ a * y ≤ a * 10000 := by
  have u := Int.mul_le_mul_of_nonneg_left h1 ha
  have v := Int.mul_le_mul_of_nonneg_left h0 ha
  have e : a * -10000 = -(a * 10000) := by omega
  omega
theorem addI_num {t : Int} {x : PartD} (hx : partB x = true) : -10000000 ≤ x.amp * waveI (t + x.pha) x.per ∧ x.amp * waveI (t + x.pha) x.per ≤ 10000000 := by
  obtain ⟨a0, a1, _⟩ := partB_true hx
  obtain ⟨w0, w1⟩ := waveI_le (t + x.pha) x.per
  have := mul_le a0 w0 w1
  omega
theorem addI_le {t : Int} {x : PartD} (hx : partB x = true) : -x.amp ≤ addI t x ∧ addI t x ≤ x.amp := by
  obtain ⟨a0, a1, _⟩ := partB_true hx
  obtain ⟨w0, w1⟩ := waveI_le (t + x.pha) x.per
  obtain ⟨u, v⟩ := mul_le a0 w0 w1
  exact tdiv_le u v
theorem levI_snoc (m : Int) (l : List PartD) (t : Int) (x : PartD) : levI m (l ++ [x]) t = levI m l t + addI t x := by simp [levI]
theorem ampI_snoc (l : List PartD) (x : PartD) : ampI (l ++ [x]) = ampI l + x.amp := by simp [ampI]
theorem sum_bounds (m t : Int) (l : List PartD) (h : ∀ x ∈ l, partB x = true) (k : Nat) (hk : k ≤ l.length) : 0 ≤ ampI (l.take k) ∧ ampI (l.take k) ≤ 1000 * k ∧ m - ampI (l.take k) ≤ levI m (l.take k) t ∧ levI m (l.take k) t ≤ m + ampI (l.take k) := by
  induction k with
  | zero => simp [ampI, levI]
  | succ k ih =>
    obtain ⟨x, hx⟩ : ∃ x, l[k]? = some x := ⟨_, List.getElem?_eq_getElem (by omega)⟩
    have hp := h x (List.mem_of_getElem? hx)
    obtain ⟨a0, a1, _⟩ := partB_true hp
    have := addI_le (t := t) hp
    have := ih (by omega)
    rw [take_snoc' l k x hx, levI_snoc, ampI_snoc]
    omega
theorem levI_le (m t : Int) (l : List PartD) (h : ∀ x ∈ l, partB x = true) : 0 ≤ ampI l ∧ ampI l ≤ 1000 * l.length ∧ m - ampI l ≤ levI m l t ∧ levI m l t ≤ m + ampI l := by
  have := sum_bounds m t l h l.length (Nat.le_refl _)
  rwa [List.take_length] at this
theorem implWaveQ (n p : Int) (w : World) (k : Nat) : Calls Try.prog 157 #[.int .i64 n, .int .i64 p] (w.drewN k) fun e w' => e = .returned (.int .i64 (waveI n p)) ∧ w' = w.drewN k :=
  (implWave n p (w.drewN k)).mono fun _ _ ⟨he, hw⟩ => ⟨he, hw.symm⟩
set_option maxHeartbeats 2000000 in
theorem levelOf_any (m : Int) (v : Value) (l : List PartD) (t : Int) (w : World) (h : SlP w v l) (hv : tideB m l = true) (t0 : 0 ≤ t) (t1 : t ≤ 2880) :
    Calls Try.prog 156 #[.agg #[.int .i64 m, v], .int .i64 t] w fun e w' => e = .returned (.int .i64 (levI m l t)) ∧ Below w.heap.size w w' := by
  obtain ⟨m0, m1, hlen, hall⟩ := tideB_true hv
  have HALL := Lib.hid hall
  clear hv hall
  obtain ⟨_, h⟩ := h
  rcases h with ⟨rfl, A, c, rfl⟩ | ⟨g, o, c, rfl, hp, hcap, hc⟩
  · go_enter Try.func156, Try.ntmps156
    go_wp2
    refine wp_loop_rounds 1 ?_
    rw [rounds_succ]
    go_wp2
    go_ret
    exact ⟨rfl, Joins.below_alloc1 _ _⟩
  · have HC := Lib.hid hc
    clear hc
    have X0 : (w.alloc (.cells #[.int .i64 m, .slice (some ⟨g, o, none⟩) l.length c] 25)).cell? ⟨w.heap.size, 1, none⟩ = some (.slice (some ⟨g, o, none⟩) l.length c) := by
      rw [World.cell?_alloc_at _ _ _ _ rfl]; rfl
    have HX0 := Lib.hid X0
    clear X0
    go_enter Try.func156, Try.ntmps156
    go_wp2
    go_loopw [5, 13] (fun s i wr => ∃ k : Nat, k ≤ l.length ∧ i = .int .i64 k ∧ s = .int .i64 (levI m (l.take k) t) ∧ Hid (wr.cell? ⟨w.heap.size, 1, none⟩ = some (.slice (some ⟨g, o, none⟩) l.length c)) ∧ Hid (Below w.heap.size w wr) ∧ w.heap.size < wr.heap.size) (fun _ i _ => l.length - (intOf i).toNat)
    case atStart => exact ⟨0, Nat.zero_le _, rfl, rfl, HX0, Lib.hid (Joins.below_alloc1 _ _), by simp⟩
    case round =>
      obtain ⟨k, hk, rfl, rfl, hbox, hb, hsz⟩ := hrel
      obtain ⟨s0, s1, s2, s3⟩ := sum_bounds m t l HALL.out k hk
      by_cases hlt : k < l.length
      · obtain ⟨x, hx⟩ : ∃ x, l[k]? = some x := ⟨_, List.getElem?_eq_getElem hlt⟩
        obtain ⟨p0, p1, p2⟩ := SlP.cells HC.out k x hx
        have hg : g < w.heap.size := World.block_lt_of_cell? w ⟨g, o + k * 3, none⟩ p0
        have a0 := (hb.out.cell (p := ⟨g, o + k * 3, none⟩) hg).trans p0
        have a1 := (hb.out.cell (p := ⟨g, o + k * 3 + 1, none⟩) hg).trans p1
        have a2 := (hb.out.cell (p := ⟨g, o + k * 3 + 2, none⟩) hg).trans p2
        have bx := hbox.out
        have hpx := HALL.out x (List.mem_of_getElem? hx)
        obtain ⟨n0, n1⟩ := addI_num (t := t) hpx
        obtain ⟨d0, d1⟩ := addI_le (t := t) hpx
        obtain ⟨y0, y1, yp, y3, y4⟩ := partB_true hpx
        obtain ⟨q0, q1, _⟩ := perB_true yp
        have HN := Lib.hid ((congrArg (levI m · t) (take_snoc' l k x hx)).trans (levI_snoc m (l.take k) t x))
        unfold addI at d0 d1
        clear p0 p1 p2 hx hpx yp
        go_wp2
        go_quiet ((go_at_call 157; exact Calls.quiet_of_same (implWaveQ _ _ _ _)))
        go_wp2
        go_roundw
        case rel =>
          refine ⟨k + 1, by omega, by go_num, ?_, ?_, ?_, ?_⟩
          · rw [HN.out]; rfl
          · refine Lib.hid ((Below.cell (B := wr.heap.size) (w := wr) ?_ hsz).trans hbox.out)
            repeat (first | exact Below.refl _ _ | refine below_drewN ?_ _ | refine Below.setCell ?_ (by first | omega | (simp <;> omega)) _ | refine Below.alloc ?_ (by first | omega | (simp <;> omega)) _)
          · refine Lib.hid ?_
            repeat (first | exact hb.out | refine below_drewN ?_ _ | refine Below.setCell ?_ (by first | omega | (simp <;> omega)) _ | refine Below.alloc ?_ (by first | omega | (simp <;> omega)) _)
          · simp; omega
        case measure => simp [intOf]; omega
      · go_wp2
        go_ret
        obtain rfl : k = l.length := by omega
        rw [List.take_length]
        exact ⟨rfl, hb.out⟩
/-- LevelAt's answer. -/
def atI (m : Int) (l : List PartD) (t : Int) : Int := if tideB m l = true ∧ 0 ≤ t ∧ t ≤ 2880 then levI m l t else 0
theorem atI_yes {m : Int} {l : List PartD} {t : Int} (h : tideB m l = true) (t0 : 0 ≤ t) (t1 : t ≤ 2880) : atI m l t = levI m l t := if_pos ⟨h, t0, t1⟩
theorem atI_no {m : Int} {l : List PartD} {t : Int} (h : ¬ (tideB m l = true ∧ 0 ≤ t ∧ t ≤ 2880)) : atI m l t = 0 := if_neg h
theorem isMinute_any (t : Int) (w : World) : Calls Try.prog 56 #[.int .i64 t] w fun e w' => e = .returned (.bool (inB t 0 2880)) ∧ w = w' := by
  by_cases h1 : 0 ≤ t
  · by_cases h2 : t ≤ 2880
    · have H := Lib.hid (inB_mk h1 h2)
      go_enter Try.func56, Try.ntmps56
      go_wp2
      go_ret
      exact ⟨ret_bool H.out.symm, rfl⟩
    · have H := Lib.hid (inB_no (x := t) (lo := 0) (hi := 2880) (.inr (by omega)))
      have h3 : decide (t ≤ 2880) = false := decide_eq_false h2
      go_enter Try.func56, Try.ntmps56
      go_wp2
      go_ret
      exact ⟨ret_bool H.out.symm, rfl⟩
  · have H := Lib.hid (inB_no (x := t) (lo := 0) (hi := 2880) (.inl (by omega)))
    have h3 : decide (0 ≤ t) = false := decide_eq_false h1
    go_enter Try.func56, Try.ntmps56
    go_wp2
    go_ret
    exact ⟨ret_bool H.out.symm, rfl⟩
set_option maxHeartbeats 1000000 in
theorem implLevelAt (m : Int) (v : Value) (l : List PartD) (t : Int) (w : World) (h : SlP w v l) :
    Calls Try.prog 153 #[.agg #[.int .i64 m, v], .int .i64 t] w fun e w' => e = .returned (.int .i64 (atI m l t)) ∧ Below w.heap.size w w' := by
  have H := Lib.hid h
  obtain ⟨A, c, rfl⟩ := h.at
  have hb0 := Joins.below_alloc1 w (.cells #[.int .i64 m, .slice A l.length c] 25)
  have B0 := Lib.hid hb0
  have C := Lib.hid (implTideOk m _ l _ (H.out.below hb0))
  clear h hb0
  cases hv : tideB m l with
  | false =>
    have E := Lib.hid (atI_no (m := m) (l := l) (t := t) (by simp [hv]))
    rw [hv] at C
    clear hv
    go_enter Try.func153, Try.ntmps153
    go_wp2_with fail
    refine C.out.mono ?_
    rintro e w1 ⟨rfl, hb1⟩
    have B1 := Lib.hid (B0.out.trans (hb1.mono (by simp)))
    clear hb1
    go_wp2
    go_ret
    exact ⟨ret_int E.out.symm, B1.out⟩
  | true =>
    by_cases h1 : 0 ≤ t ∧ t ≤ 2880
    · have E := Lib.hid (atI_yes (m := m) (l := l) (t := t) hv h1.1 h1.2)
      have E1 := Lib.hid (inB_mk h1.1 h1.2)
      have HV := Lib.hid hv
      obtain ⟨t0, t1⟩ := h1
      rw [hv] at C
      clear hv
      go_enter Try.func153, Try.ntmps153
      go_wp2_with fail
      refine C.out.mono ?_
      rintro e w1 ⟨rfl, hb1⟩
      obtain ⟨hc, hf⟩ := bcell hb1
      have B1 := Lib.hid (B0.out.trans (hb1.mono (by simp)))
      clear hb1
      go_wp2_with fail
      refine (isMinute_any _ _).mono ?_
      rintro e w2 ⟨rfl, rfl⟩
      rw [E1.out]
      go_wp2_with fail
      refine (levelOf_any m _ l t w1 (H.out.below B1.out) HV.out (by omega) (by omega)).mono ?_
      rintro e w2 ⟨rfl, hb2⟩
      have B2 := Lib.hid (B1.out.trans (hb2.mono B1.out.size))
      clear hb2 hc hf
      go_wp2
      go_ret
      exact ⟨ret_int E.out.symm, B2.out⟩
    · have E := Lib.hid (atI_no (m := m) (l := l) (t := t) (by omega))
      have E1 := Lib.hid (inB_no (x := t) (lo := 0) (hi := 2880) (by omega))
      rw [hv] at C
      clear hv h1
      go_enter Try.func153, Try.ntmps153
      go_wp2_with fail
      refine C.out.mono ?_
      rintro e w1 ⟨rfl, hb1⟩
      have B1 := Lib.hid (B0.out.trans (hb1.mono (by simp)))
      clear hb1
      go_wp2_with fail
      refine (isMinute_any _ _).mono ?_
      rintro e w2 ⟨rfl, rfl⟩
      rw [E1.out]
      go_wp2
      go_ret
      exact ⟨ret_int E.out.symm, B1.out⟩
end Go.Proofs.Ytooeikimoheecaa
