
/- What ExactSureStarts and ExactOpenStarts and ExactIsSure and ExactIsOpenStart and ExactDraughtFor rests on, part 7: contracts and mathematics. -/
import Derived.Test.YtpimcbhjkednpaaGreatSt6
import Derived.IntWalk
namespace Go.Proofs.YtpimcbhjkednpaaGreat
open Go.RowKit
set_option maxRecDepth 100000
theorem take_all_parts {l : List PartD} {k : Nat} (h : ∀ j x, j < k → l[j]? = some x → partB x = true) (hk : l.length ≤ k) : ∀ x ∈ l, partB x = true := by
  intro x hx
  obtain ⟨j, hj⟩ := List.getElem?_of_mem hx
  exact h j x (Nat.lt_of_lt_of_le (List.getElem?_eq_some_iff.1 hj).1 hk) hj
/-- The first k parts are valid. -/
def FirstOk (l : List PartD) (k : Nat) : Prop := ∀ j x, j < k → l[j]? = some x → partB x = true
theorem FirstOk.next {l : List PartD} {k : Nat} {x : PartD} (h : FirstOk l k) (hx : l[k]? = some x) (hp : partB x = true) : FirstOk l (k + 1) := by
  intro j y hj hy
  by_cases e : j = k
  · subst e; rw [hx] at hy; rw [← Option.some.inj hy]; exact hp
  · exact h j y (by omega) hy
set_option maxHeartbeats 1000000 in
theorem implTideOk (m : Int) (v : Value) (l : List PartD) (w : World) (h : SlP w v l) :
    Calls Tryz.prog 123 #[.agg #[.int .i64 m, v]] w fun e w' => e = .returned (.bool (tideB m l)) ∧ Below w.heap.size w w' := by
  have H := Lib.hid h
  have hl := h.1
  by_cases h1 : m < -1000
  · obtain ⟨A, c, rfl⟩ := h.at
    have E := Lib.hid (tideB_no (m := m) (l := l) (by omega))
    clear h
    go_enter Tryz.func123, Tryz.ntmps123
    go_wp2
    go_ret
    exact ⟨ret_bool E.out.symm, Joins.below_alloc1 _ _⟩
  · by_cases h2 : 1000 < m
    · obtain ⟨A, c, rfl⟩ := h.at
      have E := Lib.hid (tideB_no (m := m) (l := l) (by omega))
      clear h
      go_enter Tryz.func123, Tryz.ntmps123
      go_wp2
      go_ret
      exact ⟨ret_bool E.out.symm, Joins.below_alloc1 _ _⟩
    · by_cases h3 : 4 < l.length
      · obtain ⟨A, c, rfl⟩ := h.at
        have E := Lib.hid (tideB_no (m := m) (l := l) (by omega))
        clear h
        go_enter Tryz.func123, Tryz.ntmps123
        go_wp2
        go_ret
        exact ⟨ret_bool E.out.symm, Joins.below_alloc1 _ _⟩
      · obtain ⟨_, h⟩ := h
        rcases h with ⟨rfl, A, c, rfl⟩ | ⟨g, o, c, rfl, hp, hcap, hc⟩
        · have E := Lib.hid (tideB_mk (m := m) (l := []) ⟨by omega, by omega, by simp, by simp⟩)
          go_enter Tryz.func123, Tryz.ntmps123
          go_wp2
          refine wp_loop_rounds 1 ?_
          rw [rounds_succ]
          go_wp2
          go_ret
          exact ⟨ret_bool E.out.symm, Joins.below_alloc1 _ _⟩
        · have HC := Lib.hid hc
          clear hc
          go_enter Tryz.func123, Tryz.ntmps123
          go_wp2
          go_loopw [22] (fun i wr => ∃ k : Nat, k ≤ l.length ∧ i = .int .i64 k ∧ Hid (FirstOk l k) ∧ Below w.heap.size w wr) (fun i _ => l.length - (intOf i).toNat)
          case atStart => exact ⟨0, Nat.zero_le _, rfl, Lib.hid (fun j x hj => absurd hj (by omega)), Joins.below_alloc1 _ _⟩
          case round =>
            obtain ⟨k, hk, rfl, hF, hb⟩ := hrel
            by_cases hlt : k < l.length
            · obtain ⟨x, hx⟩ : ∃ x, l[k]? = some x := ⟨_, List.getElem?_eq_getElem hlt⟩
              obtain ⟨p0, p1, p2⟩ := SlP.cells HC.out k x hx
              have hg : g < w.heap.size := World.block_lt_of_cell? w ⟨g, o + k * 3, none⟩ p0
              have a0 := (hb.cell (p := ⟨g, o + k * 3, none⟩) hg).trans p0
              have a1 := (hb.cell (p := ⟨g, o + k * 3 + 1, none⟩) hg).trans p1
              have a2 := (hb.cell (p := ⟨g, o + k * 3 + 2, none⟩) hg).trans p2
              have hbs := hb.size
              have HX := Lib.hid hx
              have hb' := Lib.hid hb
              clear p0 p1 p2 hx hb
              cases hpx : partB x with
              | false =>
                have E := Lib.hid (tideB_bad (m := m) x k HX.out hpx)
                have HPX := Lib.hid hpx
                clear hpx
                go_wp2_with fail
                refine (implPartOk x _).mono ?_
                rw [HPX.out]
                rintro e w1 ⟨rfl, hb1⟩
                have HB1 := Lib.hid hb1
                clear hb1
                go_wp2
                go_ret
                refine ⟨ret_bool E.out.symm, ?_⟩
                repeat (first | exact hb'.out | refine Below.setCell ?_ (by first | omega | (simp <;> omega)) _ | refine Below.alloc ?_ (by first | omega | (simp <;> omega)) _ | refine Below.trans ?_ (HB1.out.mono (by first | omega | (simp <;> omega))))
              | true =>
                have F := Lib.hid (hF.out.next HX.out hpx)
                have HPX := Lib.hid hpx
                clear hpx
                go_wp2_with fail
                refine (implPartOk x _).mono ?_
                rw [HPX.out]
                rintro e w1 ⟨rfl, hb1⟩
                have HB1 := Lib.hid hb1
                clear hb1
                go_wp2
                go_roundw
                case rel =>
                  refine ⟨k + 1, by omega, by go_num, F, ?_⟩
                  repeat (first | exact hb'.out | refine Below.setCell ?_ (by first | omega | (simp <;> omega)) _ | refine Below.alloc ?_ (by first | omega | (simp <;> omega)) _ | refine Below.trans ?_ (HB1.out.mono (by first | omega | (simp <;> omega))))
                case measure => simp [intOf]; omega
            · have E := Lib.hid (tideB_mk (m := m) (l := l) ⟨by omega, by omega, by omega, take_all_parts hF.out (by omega)⟩)
              go_wp2
              go_ret
              exact ⟨ret_bool E.out.symm, hb⟩
set_option maxHeartbeats 1000000 in
theorem specTideOk (m : Int) (v : Value) (l : List PartD) (w : World) (h : SlP w v l) :
    Calls Tryz.prog 85 #[.agg #[.int .i64 m, v]] w fun e w' => e = .returned (.bool (tideB m l)) ∧ Below w.heap.size w w' := by
  have H := Lib.hid h
  have hl := h.1
  by_cases h1 : m < -1000 ∨ 1000 < m
  · obtain ⟨A, c, rfl⟩ := h.at
    have E := Lib.hid (tideB_no (m := m) (l := l) (by omega))
    have E1 := Lib.hid (inB_no (x := m) (lo := -1000) (hi := 1000) h1)
    clear h h1
    go_enter Tryz.func85, Tryz.ntmps85
    go_wp2_with fail
    refine (l01In_any _ _ _ _).mono ?_
    rintro e w1 ⟨rfl, rfl⟩
    rw [E1.out]
    go_wp2
    go_ret
    exact ⟨ret_bool E.out.symm, Joins.below_alloc1 _ _⟩
  · have E1 := Lib.hid (inB_mk (x := m) (lo := -1000) (hi := 1000) (by omega) (by omega))
    have m0 : -1000 ≤ m := by omega
    have m1 : m ≤ 1000 := by omega
    clear h1
    by_cases h3 : 4 < l.length
    · obtain ⟨A, c, rfl⟩ := h.at
      have E := Lib.hid (tideB_no (m := m) (l := l) (by omega))
      clear h
      go_enter Tryz.func85, Tryz.ntmps85
      go_wp2_with fail
      refine (l01In_any _ _ _ _).mono ?_
      rintro e w1 ⟨rfl, rfl⟩
      rw [E1.out]
      go_wp2
      go_ret
      exact ⟨ret_bool E.out.symm, Joins.below_alloc1 _ _⟩
    · obtain ⟨_, h⟩ := h
      rcases h with ⟨rfl, A, c, rfl⟩ | ⟨g, o, c, rfl, hp, hcap, hc⟩
      · have E := Lib.hid (tideB_mk (m := m) (l := []) ⟨by omega, by omega, by simp, by simp⟩)
        go_enter Tryz.func85, Tryz.ntmps85
        go_wp2_with fail
        refine (l01In_any _ _ _ _).mono ?_
        rintro e w1 ⟨rfl, rfl⟩
        rw [E1.out]
        go_wp2
        refine wp_loop_rounds 1 ?_
        rw [rounds_succ]
        go_wp2
        go_ret
        exact ⟨ret_bool E.out.symm, Joins.below_alloc1 _ _⟩
      · have HC := Lib.hid hc
        clear hc
        go_enter Tryz.func85, Tryz.ntmps85
        go_wp2_with fail
        refine (l01In_any _ _ _ _).mono ?_
        rintro e w1 ⟨rfl, rfl⟩
        rw [E1.out]
        go_wp2
        go_loopw [18] (fun i wr => ∃ k : Nat, k ≤ l.length ∧ i = .int .i64 k ∧ Hid (FirstOk l k) ∧ Below w.heap.size w wr) (fun i _ => l.length - (intOf i).toNat)
        case atStart => exact ⟨0, Nat.zero_le _, rfl, Lib.hid (fun j x hj => absurd hj (by omega)), Joins.below_alloc1 _ _⟩
        case round =>
          obtain ⟨k, hk, rfl, hF, hb⟩ := hrel
          by_cases hlt : k < l.length
          · obtain ⟨x, hx⟩ : ∃ x, l[k]? = some x := ⟨_, List.getElem?_eq_getElem hlt⟩
            obtain ⟨p0, p1, p2⟩ := SlP.cells HC.out k x hx
            have hg : g < w.heap.size := World.block_lt_of_cell? w ⟨g, o + k * 3, none⟩ p0
            have a0 := (hb.cell (p := ⟨g, o + k * 3, none⟩) hg).trans p0
            have a1 := (hb.cell (p := ⟨g, o + k * 3 + 1, none⟩) hg).trans p1
            have a2 := (hb.cell (p := ⟨g, o + k * 3 + 2, none⟩) hg).trans p2
            have hbs := hb.size
            have HX := Lib.hid hx
            have hb' := Lib.hid hb
            clear p0 p1 p2 hx hb
            cases hpx : partB x with
            | false =>
              have E := Lib.hid (tideB_bad (m := m) x k HX.out hpx)
              have HPX := Lib.hid hpx
              clear hpx
              go_wp2_with fail
              refine (specPartOk x _).mono ?_
              rw [HPX.out]
              rintro e w1 ⟨rfl, hb1⟩
              have HB1 := Lib.hid hb1
              clear hb1
              go_wp2
              go_ret
              refine ⟨ret_bool E.out.symm, ?_⟩
              repeat (first | exact hb'.out | refine Below.setCell ?_ (by first | omega | (simp <;> omega)) _ | refine Below.alloc ?_ (by first | omega | (simp <;> omega)) _ | refine Below.trans ?_ (HB1.out.mono (by first | omega | (simp <;> omega))))
            | true =>
              have F := Lib.hid (hF.out.next HX.out hpx)
              have HPX := Lib.hid hpx
              clear hpx
              go_wp2_with fail
              refine (specPartOk x _).mono ?_
              rw [HPX.out]
              rintro e w1 ⟨rfl, hb1⟩
              have HB1 := Lib.hid hb1
              clear hb1
              go_wp2
              go_roundw
              case rel =>
                refine ⟨k + 1, by omega, by go_num, F, ?_⟩
                repeat (first | exact hb'.out | refine Below.setCell ?_ (by first | omega | (simp <;> omega)) _ | refine Below.alloc ?_ (by first | omega | (simp <;> omega)) _ | refine Below.trans ?_ (HB1.out.mono (by first | omega | (simp <;> omega))))
              case measure => simp [intOf]; omega
          · have E := Lib.hid (tideB_mk (m := m) (l := l) ⟨by omega, by omega, by omega, take_all_parts hF.out (by omega)⟩)
            go_wp2
            go_ret
            exact ⟨ret_bool E.out.symm, hb⟩
end Go.Proofs.YtpimcbhjkednpaaGreat
namespace Go.Proofs.YtpimcbhjkednpaaGreat
open Go.RowKit
set_option maxRecDepth 100000
/-- What a part adds at the minute t. -/
def addI (t : Int) (x : PartD) : Int := (x.amp * waveI (t + x.pha) x.per).tdiv 10000
def levI (m : Int) (l : List PartD) (t : Int) : Int := l.foldl (fun s x => s + addI t x) m
def ampI (l : List PartD) : Int := l.foldl (fun s x => s + x.amp) 0
theorem tdiv_le {a y : Int} (h0 : -(a * 10000) ≤ y) (h1 : y ≤ a * 10000) : -a ≤ y.tdiv 10000 ∧ y.tdiv 10000 ≤ a := by
  rcases Int.le_total 0 y with h | h
  · rw [Int.tdiv_eq_ediv_of_nonneg h]; omega
  · have e : y.tdiv 10000 = -((-y).tdiv 10000) := by rw [Int.neg_tdiv, Int.neg_neg]
    rw [e, Int.tdiv_eq_ediv_of_nonneg (by omega)]; omega
theorem mul_le {a y : Int} (ha : 0 ≤ a) (h0 : -10000 ≤ y) (h1 : y ≤ 10000) : -(a * 10000) ≤ a * y ∧ a * y ≤ a * 10000 := by
  have u := Int.mul_le_mul_of_nonneg_left h1 ha
  have v := Int.mul_le_mul_of_nonneg_left h0 ha
  have e : a * -10000 = -(a * 10000) := by omega
  omega
theorem addI_num {t : Int} {x : PartD} (hx : partB x = true) : -10000000 ≤ x.amp * waveI (t + x.pha) x.per ∧ x.amp * waveI (t + x.pha) x.per ≤ 10000000 := by
  obtain ⟨a0, a1, _⟩ := partB_true hx
  obtain ⟨w0, w1⟩ := waveI_le (t + x.pha) x.per
  have := mul_le a0 w0 w1
  omega
theorem addI_le {t : Int} {x : PartD} (hx : partB x = true) : -x.amp ≤ addI t x ∧ addI t x ≤ x.amp := by
  obtain ⟨a0, a1, _⟩ := partB_true hx
  obtain ⟨w0, w1⟩ := waveI_le (t + x.pha) x.per
  obtain ⟨u, v⟩ := mul_le a0 w0 w1
  exact tdiv_le u v
theorem levI_snoc (m : Int) (l : List PartD) (t : Int) (x : PartD) : levI m (l ++ [x]) t = levI m l t + addI t x := by simp [levI]
theorem ampI_snoc (l : List PartD) (x : PartD) : ampI (l ++ [x]) = ampI l + x.amp := by simp [ampI]
theorem sum_bounds (m t : Int) (l : List PartD) (h : ∀ x ∈ l, partB x = true) (k : Nat) (hk : k ≤ l.length) : 0 ≤ ampI (l.take k) ∧ ampI (l.take k) ≤ 1000 * k ∧ m - ampI (l.take k) ≤ levI m (l.take k) t ∧ levI m (l.take k) t ≤ m + ampI (l.take k) := by
  induction k with
  | zero => simp [ampI, levI]
  | succ k ih =>
    obtain ⟨x, hx⟩ : ∃ x, l[k]? = some x := ⟨_, List.getElem?_eq_getElem (by omega)⟩
    have hp := h x (List.mem_of_getElem? hx)
    obtain ⟨a0, a1, _⟩ := partB_true hp
    have := addI_le (t := t) hp
    have := ih (by omega)
    rw [take_snoc' l k x hx, levI_snoc, ampI_snoc]
    omega
theorem levI_le (m t : Int) (l : List PartD) (h : ∀ x ∈ l, partB x = true) : 0 ≤ ampI l ∧ ampI l ≤ 1000 * l.length ∧ m - ampI l ≤ levI m l t ∧ levI m l t ≤ m + ampI l := by
  have := sum_bounds m t l h l.length (Nat.le_refl _)
  rwa [List.take_length] at this
theorem implWaveQ (n p : Int) (w : World) (k : Nat) : Calls Tryz.prog 137 #[.int .i64 n, .int .i64 p] (w.drewN k) fun e w' => e = .returned (.int .i64 (waveI n p)) ∧ w' = w.drewN k :=
  (implWave n p (w.drewN k)).mono fun _ _ ⟨he, hw⟩ => ⟨he, hw.symm⟩
theorem specWaveQ (n p : Int) (w : World) (k : Nat) : Calls Tryz.prog 110 #[.int .i64 n, .int .i64 p] (w.drewN k) fun e w' => e = .returned (.int .i64 (waveI n p)) ∧ w' = w.drewN k :=
  (specWave n p (w.drewN k)).mono fun _ _ ⟨he, hw⟩ => ⟨he, hw.symm⟩
set_option maxHeartbeats 2000000 in
theorem levelOf_any (m : Int) (v : Value) (l : List PartD) (t : Int) (w : World) (h : SlP w v l) (hv : tideB m l = true) (t0 : 0 ≤ t) (t1 : t ≤ 2880) :
    Calls Tryz.prog 136 #[.agg #[.int .i64 m, v], .int .i64 t] w fun e w' => e = .returned (.int .i64 (levI m l t)) ∧ Below w.heap.size w w' := by
  obtain ⟨m0, m1, hlen, hall⟩ := tideB_true hv
  have HALL := Lib.hid hall
  clear hv hall
  obtain ⟨_, h⟩ := h
  rcases h with ⟨rfl, A, c, rfl⟩ | ⟨g, o, c, rfl, hp, hcap, hc⟩
  · go_enter Tryz.func136, Tryz.ntmps136
    go_wp2
    refine wp_loop_rounds 1 ?_
    rw [rounds_succ]
    go_wp2
    go_ret
    exact ⟨rfl, Joins.below_alloc1 _ _⟩
  · have HC := Lib.hid hc
    clear hc
    have X0 : (w.alloc (.cells #[.int .i64 m, .slice (some ⟨g, o, none⟩) l.length c] 41)).cell? ⟨w.heap.size, 1, none⟩ = some (.slice (some ⟨g, o, none⟩) l.length c) := by
      rw [World.cell?_alloc_at _ _ _ _ rfl]; rfl
    have HX0 := Lib.hid X0
    clear X0
    go_enter Tryz.func136, Tryz.ntmps136
    go_wp2
    go_loopw [5, 13] (fun s i wr => ∃ k : Nat, k ≤ l.length ∧ i = .int .i64 k ∧ s = .int .i64 (levI m (l.take k) t) ∧ Hid (wr.cell? ⟨w.heap.size, 1, none⟩ = some (.slice (some ⟨g, o, none⟩) l.length c)) ∧ Hid (Below w.heap.size w wr) ∧ w.heap.size < wr.heap.size) (fun _ i _ => l.length - (intOf i).toNat)
    case atStart => exact ⟨0, Nat.zero_le _, rfl, rfl, HX0, Lib.hid (Joins.below_alloc1 _ _), by simp⟩
    case round =>
      obtain ⟨k, hk, rfl, rfl, hbox, hb, hsz⟩ := hrel
      obtain ⟨s0, s1, s2, s3⟩ := sum_bounds m t l HALL.out k hk
      by_cases hlt : k < l.length
      · obtain ⟨x, hx⟩ : ∃ x, l[k]? = some x := ⟨_, List.getElem?_eq_getElem hlt⟩
        obtain ⟨p0, p1, p2⟩ := SlP.cells HC.out k x hx
        have hg : g < w.heap.size := World.block_lt_of_cell? w ⟨g, o + k * 3, none⟩ p0
        have a0 := (hb.out.cell (p := ⟨g, o + k * 3, none⟩) hg).trans p0
        have a1 := (hb.out.cell (p := ⟨g, o + k * 3 + 1, none⟩) hg).trans p1
        have a2 := (hb.out.cell (p := ⟨g, o + k * 3 + 2, none⟩) hg).trans p2
        have bx := hbox.out
        have hpx := HALL.out x (List.mem_of_getElem? hx)
        obtain ⟨n0, n1⟩ := addI_num (t := t) hpx
        obtain ⟨d0, d1⟩ := addI_le (t := t) hpx
        obtain ⟨y0, y1, yp, y3, y4⟩ := partB_true hpx
        obtain ⟨q0, q1, _⟩ := perB_true yp
        have HN := Lib.hid ((congrArg (levI m · t) (take_snoc' l k x hx)).trans (levI_snoc m (l.take k) t x))
        unfold addI at d0 d1
        clear p0 p1 p2 hx hpx yp
        go_wp2
        go_quiet ((go_at_call 137; exact Calls.quiet_of_same (implWaveQ _ _ _ _)))
        go_wp2
        go_roundw
        case rel =>
          refine ⟨k + 1, by omega, by go_num, ?_, ?_, ?_, ?_⟩
          · rw [HN.out]; rfl
          · refine Lib.hid ((Below.cell (B := wr.heap.size) (w := wr) ?_ hsz).trans hbox.out)
            repeat (first | exact Below.refl _ _ | refine below_drewN ?_ _ | refine Below.setCell ?_ (by first | omega | (simp <;> omega)) _ | refine Below.alloc ?_ (by first | omega | (simp <;> omega)) _)
          · refine Lib.hid ?_
            repeat (first | exact hb.out | refine below_drewN ?_ _ | refine Below.setCell ?_ (by first | omega | (simp <;> omega)) _ | refine Below.alloc ?_ (by first | omega | (simp <;> omega)) _)
          · simp; omega
        case measure => simp [intOf]; omega
      · go_wp2
        go_ret
        obtain rfl : k = l.length := by omega
        rw [List.take_length]
        exact ⟨rfl, hb.out⟩
set_option maxHeartbeats 2000000 in
theorem l02Level_any (m : Int) (v : Value) (l : List PartD) (t : Int) (w : World) (h : SlP w v l) (hv : tideB m l = true) (t0 : 0 ≤ t) (t1 : t ≤ 2880) :
    Calls Tryz.prog 91 #[.agg #[.int .i64 m, v], .int .i64 t] w fun e w' => e = .returned (.int .i64 (levI m l t)) ∧ Below w.heap.size w w' := by
  obtain ⟨m0, m1, hlen, hall⟩ := tideB_true hv
  have HALL := Lib.hid hall
  clear hv hall
  obtain ⟨_, h⟩ := h
  rcases h with ⟨rfl, A, c, rfl⟩ | ⟨g, o, c, rfl, hp, hcap, hc⟩
  · go_enter Tryz.func91, Tryz.ntmps91
    go_wp2
    refine wp_loop_rounds 1 ?_
    rw [rounds_succ]
    go_wp2
    go_ret
    exact ⟨rfl, Joins.below_alloc1 _ _⟩
  · have HC := Lib.hid hc
    clear hc
    go_enter Tryz.func91, Tryz.ntmps91
    go_wp2
    go_loopw [5, 13] (fun s i wr => ∃ k : Nat, k ≤ l.length ∧ i = .int .i64 k ∧ s = .int .i64 (levI m (l.take k) t) ∧ Hid (Below w.heap.size w wr) ∧ w.heap.size < wr.heap.size) (fun _ i _ => l.length - (intOf i).toNat)
    case atStart => exact ⟨0, Nat.zero_le _, rfl, rfl, Lib.hid (Joins.below_alloc1 _ _), by simp⟩
    case round =>
      obtain ⟨k, hk, rfl, rfl, hb, hsz⟩ := hrel
      obtain ⟨s0, s1, s2, s3⟩ := sum_bounds m t l HALL.out k hk
      by_cases hlt : k < l.length
      · obtain ⟨x, hx⟩ : ∃ x, l[k]? = some x := ⟨_, List.getElem?_eq_getElem hlt⟩
        obtain ⟨p0, p1, p2⟩ := SlP.cells HC.out k x hx
        have hg : g < w.heap.size := World.block_lt_of_cell? w ⟨g, o + k * 3, none⟩ p0
        have a0 := (hb.out.cell (p := ⟨g, o + k * 3, none⟩) hg).trans p0
        have a1 := (hb.out.cell (p := ⟨g, o + k * 3 + 1, none⟩) hg).trans p1
        have a2 := (hb.out.cell (p := ⟨g, o + k * 3 + 2, none⟩) hg).trans p2
        have hpx := HALL.out x (List.mem_of_getElem? hx)
        obtain ⟨n0, n1⟩ := addI_num (t := t) hpx
        obtain ⟨d0, d1⟩ := addI_le (t := t) hpx
        obtain ⟨y0, y1, yp, y3, y4⟩ := partB_true hpx
        obtain ⟨q0, q1, _⟩ := perB_true yp
        have HN := Lib.hid ((congrArg (levI m · t) (take_snoc' l k x hx)).trans (levI_snoc m (l.take k) t x))
        unfold addI at d0 d1
        clear p0 p1 p2 hx hpx yp
        go_wp2
        go_quiet ((go_at_call 110; exact Calls.quiet_of_same (specWaveQ _ _ _ _)))
        go_wp2
        go_roundw
        case rel =>
          refine ⟨k + 1, by omega, by go_num, ?_, ?_, ?_⟩
          · rw [HN.out]; rfl
          · refine Lib.hid ?_
            repeat (first | exact hb.out | refine below_drewN ?_ _ | refine Below.setCell ?_ (by first | omega | (simp <;> omega)) _ | refine Below.alloc ?_ (by first | omega | (simp <;> omega)) _)
          · simp; omega
        case measure => simp [intOf]; omega
      · go_wp2
        go_ret
        obtain rfl : k = l.length := by omega
        rw [List.take_length]
        exact ⟨rfl, hb.out⟩
/-- LevelAt's answer. -/
def atI (m : Int) (l : List PartD) (t : Int) : Int := if tideB m l = true ∧ 0 ≤ t ∧ t ≤ 2880 then levI m l t else 0
theorem atI_yes {m : Int} {l : List PartD} {t : Int} (h : tideB m l = true) (t0 : 0 ≤ t) (t1 : t ≤ 2880) : atI m l t = levI m l t := if_pos ⟨h, t0, t1⟩
theorem atI_no {m : Int} {l : List PartD} {t : Int} (h : ¬ (tideB m l = true ∧ 0 ≤ t ∧ t ≤ 2880)) : atI m l t = 0 := if_neg h
theorem isMinute_any (t : Int) (w : World) : Calls Tryz.prog 101 #[.int .i64 t] w fun e w' => e = .returned (.bool (inB t 0 2880)) ∧ w = w' := by
  by_cases h1 : 0 ≤ t
  · by_cases h2 : t ≤ 2880
    · have H := Lib.hid (inB_mk h1 h2)
      go_enter Tryz.func101, Tryz.ntmps101
      go_wp2
      go_ret
      exact ⟨ret_bool H.out.symm, rfl⟩
    · have H := Lib.hid (inB_no (x := t) (lo := 0) (hi := 2880) (.inr (by omega)))
      have h3 : decide (t ≤ 2880) = false := decide_eq_false h2
      go_enter Tryz.func101, Tryz.ntmps101
      go_wp2
      go_ret
      exact ⟨ret_bool H.out.symm, rfl⟩
  · have H := Lib.hid (inB_no (x := t) (lo := 0) (hi := 2880) (.inl (by omega)))
    have h3 : decide (0 ≤ t) = false := decide_eq_false h1
    go_enter Tryz.func101, Tryz.ntmps101
    go_wp2
    go_ret
    exact ⟨ret_bool H.out.symm, rfl⟩
set_option maxHeartbeats 1000000 in
theorem implLevelAt (m : Int) (v : Value) (l : List PartD) (t : Int) (w : World) (h : SlP w v l) :
    Calls Tryz.prog 132 #[.agg #[.int .i64 m, v], .int .i64 t] w fun e w' => e = .returned (.int .i64 (atI m l t)) ∧ Below w.heap.size w w' := by
  have H := Lib.hid h
  obtain ⟨A, c, rfl⟩ := h.at
  have hb0 := Joins.below_alloc1 w (.cells #[.int .i64 m, .slice A l.length c] 41)
  have B0 := Lib.hid hb0
  have C := Lib.hid (implTideOk m _ l _ (H.out.below hb0))
  clear h hb0
  cases hv : tideB m l with
  | false =>
    have E := Lib.hid (atI_no (m := m) (l := l) (t := t) (by simp [hv]))
    rw [hv] at C
    clear hv
    go_enter Tryz.func132, Tryz.ntmps132
    go_wp2_with fail
    refine C.out.mono ?_
    rintro e w1 ⟨rfl, hb1⟩
    have B1 := Lib.hid (B0.out.trans (hb1.mono (by simp)))
    clear hb1
    go_wp2
    go_ret
    exact ⟨ret_int E.out.symm, B1.out⟩
  | true =>
    by_cases h1 : 0 ≤ t ∧ t ≤ 2880
    · have E := Lib.hid (atI_yes (m := m) (l := l) (t := t) hv h1.1 h1.2)
      have E1 := Lib.hid (inB_mk h1.1 h1.2)
      have HV := Lib.hid hv
      obtain ⟨t0, t1⟩ := h1
      rw [hv] at C
      clear hv
      go_enter Tryz.func132, Tryz.ntmps132
      go_wp2_with fail
      refine C.out.mono ?_
      rintro e w1 ⟨rfl, hb1⟩
      obtain ⟨hc, hf⟩ := bcell hb1
      have B1 := Lib.hid (B0.out.trans (hb1.mono (by simp)))
      clear hb1
      go_wp2_with fail
      refine (isMinute_any _ _).mono ?_
      rintro e w2 ⟨rfl, rfl⟩
      rw [E1.out]
      go_wp2_with fail
      refine (levelOf_any m _ l t w1 (H.out.below B1.out) HV.out (by omega) (by omega)).mono ?_
      rintro e w2 ⟨rfl, hb2⟩
      have B2 := Lib.hid (B1.out.trans (hb2.mono B1.out.size))
      clear hb2 hc hf
      go_wp2
      go_ret
      exact ⟨ret_int E.out.symm, B2.out⟩
    · have E := Lib.hid (atI_no (m := m) (l := l) (t := t) (by omega))
      have E1 := Lib.hid (inB_no (x := t) (lo := 0) (hi := 2880) (by omega))
      rw [hv] at C
      clear hv h1
      go_enter Tryz.func132, Tryz.ntmps132
      go_wp2_with fail
      refine C.out.mono ?_
      rintro e w1 ⟨rfl, hb1⟩
      have B1 := Lib.hid (B0.out.trans (hb1.mono (by simp)))
      clear hb1
      go_wp2_with fail
      refine (isMinute_any _ _).mono ?_
      rintro e w2 ⟨rfl, rfl⟩
      rw [E1.out]
      go_wp2
      go_ret
      exact ⟨ret_int E.out.symm, B1.out⟩
end Go.Proofs.YtpimcbhjkednpaaGreat
namespace Go.Proofs.YtpimcbhjkednpaaGreat
open Go.RowKit
set_option maxRecDepth 100000
/-- A window whose minutes lie in time. -/
def wB (x : WindowD) : Bool := decide (0 ≤ x.fr ∧ x.fr ≤ x.tt ∧ x.tt ≤ 2880)
/-- The window at a place lies in time and, behind another one, at least one minute later. -/
def wokB (l : List WindowD) (k : Nat) : Bool :=
  match l[k]? with
  | none => true
  | some x => wB x && (match k with | 0 => true | j + 1 => match l[j]? with | none => true | some y => decide (y.tt + 1 < x.fr))
def winB (l : List WindowD) : Bool := (List.range l.length).all (wokB l)
/-- The first k windows are valid. -/
def FirstW (l : List WindowD) (k : Nat) : Prop := ∀ j, j < k → wokB l j = true
theorem FirstW.zero (l : List WindowD) : FirstW l 0 := fun j hj => absurd hj (by omega)
theorem FirstW.next {l : List WindowD} {k : Nat} (h : FirstW l k) (hk : wokB l k = true) : FirstW l (k + 1) := fun j hj => by
  by_cases e : j = k
  · rw [e]; exact hk
  · exact h j (by omega)
theorem winB_mk {l : List WindowD} (h : FirstW l l.length) : winB l = true := List.all_eq_true.2 fun j hj => h j (List.mem_range.1 hj)
theorem winB_true {l : List WindowD} (h : winB l = true) : FirstW l l.length := fun j hj => List.all_eq_true.1 h j (List.mem_range.2 hj)
theorem winB_bad {l : List WindowD} (k : Nat) (hk : k < l.length) (h : wokB l k = false) : winB l = false := by
  rw [Bool.eq_false_iff]
  intro e
  rw [winB_true e k hk] at h
  cases h
theorem wokB_bad {l : List WindowD} {k : Nat} {x : WindowD} (hx : l[k]? = some x) (h : ¬ (0 ≤ x.fr ∧ x.fr ≤ x.tt ∧ x.tt ≤ 2880)) : wokB l k = false := by
  unfold wokB wB; rw [hx]; simp only [decide_eq_false h, Bool.false_and]
theorem wokB_zero {l : List WindowD} {k : Nat} {x : WindowD} (hk : k = 0) (hx : l[k]? = some x) (h : 0 ≤ x.fr ∧ x.fr ≤ x.tt ∧ x.tt ≤ 2880) : wokB l k = true := by
  subst hk; unfold wokB wB; rw [hx]; simp only [decide_eq_true h, Bool.and_self]
theorem wokB_succ {l : List WindowD} {k j : Nat} {x y : WindowD} (hk : k = j + 1) (hx : l[k]? = some x) (hy : l[j]? = some y) (h : 0 ≤ x.fr ∧ x.fr ≤ x.tt ∧ x.tt ≤ 2880) : wokB l k = decide (y.tt + 1 < x.fr) := by
  subst hk; unfold wokB wB; rw [hx]; simp only [decide_eq_true h, hy, Bool.true_and]
theorem wokB_time {l : List WindowD} {k : Nat} {x : WindowD} (hx : l[k]? = some x) (h : wokB l k = true) : 0 ≤ x.fr ∧ x.fr ≤ x.tt ∧ x.tt ≤ 2880 := by
  by_cases hx2 : 0 ≤ x.fr ∧ x.fr ≤ x.tt ∧ x.tt ≤ 2880
  · exact hx2
  · rw [wokB_bad hx hx2] at h; cases h
theorem FirstW.time {l : List WindowD} {k j : Nat} {x : WindowD} (h : FirstW l k) (hj : j < k) (hx : l[j]? = some x) : 0 ≤ x.fr ∧ x.fr ≤ x.tt ∧ x.tt ≤ 2880 := wokB_time hx (h j hj)
theorem l01InQ (x lo hi : Int) (b : Bool) (hb : inB x lo hi = b) (w : World) : Calls Tryz.prog 56 #[.int .i64 x, .int .i64 lo, .int .i64 hi] w fun e w' => e = .returned (.bool b) ∧ w' = w :=
  (l01In_any x lo hi w).mono fun _ _ ⟨h1, h2⟩ => ⟨hb ▸ h1, h2.symm⟩
set_option maxHeartbeats 10000000 in
theorem implWindowsOk (v : Value) (l : List WindowD) (w : World) (h : SlWindow w v l) :
    Calls Tryz.prog 100 #[v] w fun e w' => e = .returned (.bool (winB l)) ∧ Below w.heap.size w w' := by
  obtain ⟨hl, h⟩ := h
  rcases h with ⟨rfl, A, c, rfl⟩ | ⟨g, o, c, rfl, hp, hcap, hc⟩
  · have E := Lib.hid (winB_mk (l := []) (FirstW.zero _))
    go_enter Tryz.func100, Tryz.ntmps100
    go_wp2
    refine wp_loop_rounds 1 ?_
    rw [rounds_succ]
    go_wp2
    go_ret
    exact ⟨ret_bool E.out.symm, Below.refl _ _⟩
  · have HC := Lib.hid hc
    clear hc
    go_enter Tryz.func100, Tryz.ntmps100
    go_wp2
    go_loopw [7] (fun i wr => ∃ k : Nat, k ≤ l.length ∧ i = .int .i64 k ∧ Hid (FirstW l k) ∧ Hid (Below w.heap.size w wr) ∧ w.heap.size ≤ wr.heap.size) (fun i _ => l.length - (intOf i).toNat)
    case atStart => exact ⟨0, Nat.zero_le _, rfl, Lib.hid (FirstW.zero _), Lib.hid (Below.refl _ _), Nat.le_refl _⟩
    case round =>
      obtain ⟨k, hk, rfl, hF, hb', hsz⟩ := hrel
      by_cases hlt : k < l.length
      rotate_left
      · obtain rfl : k = l.length := by omega
        have E := Lib.hid (winB_mk hF.out)
        go_wp2
        go_ret
        exact ⟨ret_bool E.out.symm, hb'.out⟩
      · obtain ⟨x, hx⟩ : ∃ x, l[k]? = some x := ⟨_, List.getElem?_eq_getElem hlt⟩
        obtain ⟨p0, p1⟩ := SlWindow.cells HC.out k x hx
        have hg : g < w.heap.size := World.block_lt_of_cell? w ⟨g, o + k * 2, none⟩ p0
        have a0 := (hb'.out.cell (p := ⟨g, o + k * 2, none⟩) hg).trans p0
        have a1 := (hb'.out.cell (p := ⟨g, o + k * 2 + 1, none⟩) hg).trans p1
        have HX := Lib.hid hx
        have hgr : g < wr.heap.size := by omega
        clear p0 p1 hx
        by_cases h1 : x.fr < 0
        · have E := Lib.hid (winB_bad k hlt (wokB_bad HX.out (by omega)))
          go_wp2
          go_quiet (fail)
          go_wp2
          go_ret
          refine ⟨ret_bool E.out.symm, ?_⟩
          repeat (first | exact hb'.out | refine below_drewN ?_ _ | refine Below.drew ?_ | refine Below.setCell ?_ (by first | omega | (simp <;> omega)) _ | refine Below.alloc ?_ (by first | omega | (simp <;> omega)) _)
        have d1 : decide (x.fr < 0) = false := decide_eq_false h1
        by_cases h2 : x.tt < x.fr
        · have E := Lib.hid (winB_bad k hlt (wokB_bad HX.out (by omega)))
          go_wp2
          go_quiet (fail)
          go_wp2
          go_ret
          refine ⟨ret_bool E.out.symm, ?_⟩
          repeat (first | exact hb'.out | refine below_drewN ?_ _ | refine Below.drew ?_ | refine Below.setCell ?_ (by first | omega | (simp <;> omega)) _ | refine Below.alloc ?_ (by first | omega | (simp <;> omega)) _)
        have d2 : decide (x.tt < x.fr) = false := decide_eq_false h2
        by_cases h3 : 2880 < x.tt
        · have E := Lib.hid (winB_bad k hlt (wokB_bad HX.out (by omega)))
          go_wp2
          go_quiet (fail)
          go_wp2
          go_ret
          refine ⟨ret_bool E.out.symm, ?_⟩
          repeat (first | exact hb'.out | refine below_drewN ?_ _ | refine Below.drew ?_ | refine Below.setCell ?_ (by first | omega | (simp <;> omega)) _ | refine Below.alloc ?_ (by first | omega | (simp <;> omega)) _)
        have d3 : decide (2880 < x.tt) = false := decide_eq_false h3
        have ok : 0 ≤ x.fr ∧ x.fr ≤ x.tt ∧ x.tt ≤ 2880 := by omega
        have OK := Lib.hid ok
        clear ok h1 h2 h3
        by_cases hk0 : k = 0
        · have FF := Lib.hid (hF.out.next (wokB_zero hk0 HX.out OK.out))
          have hd : decide (0 < k) = false := decide_eq_false (by omega)
          clear hk0
          go_wp2
          go_quiet (fail)
          go_wp2
          go_roundw
          case rel =>
            refine ⟨k + 1, by omega, by go_num, FF, Lib.hid ?_, ?_⟩
            · repeat (first | exact hb'.out | refine below_drewN ?_ _ | refine Below.drew ?_ | refine Below.setCell ?_ (by first | omega | (simp <;> omega)) _ | refine Below.alloc ?_ (by first | omega | (simp <;> omega)) _)
            · simp <;> omega
          case measure => simp [intOf]; omega
        obtain ⟨j, hj⟩ : ∃ j, k = j + 1 := ⟨k - 1, by omega⟩
        obtain ⟨y, hy⟩ : ∃ y, l[j]? = some y := ⟨_, List.getElem?_eq_getElem (by omega)⟩
        obtain ⟨_, r1⟩ := SlWindow.cells HC.out j y hy
        have y1 := (hb'.out.cell (p := ⟨g, o + j * 2 + 1, none⟩) hg).trans r1
        obtain ⟨t0, t1, t2⟩ := hF.out.time (show j < k by omega) hy
        have hw1 : IntKind.i64.wrap ((k : Int) - 1) = (j : Int) := by rw [IntWalk.i64_in _ (by omega)]; omega
        have hw2 : IntKind.i64.wrap (y.tt + 1) = y.tt + 1 := IntWalk.i64_in _ (by omega)
        have HE := Lib.hid (wokB_succ hj HX.out hy OK.out)
        have hd : decide (0 < k) = true := decide_eq_true (by omega)
        have hjl : j < l.length := by omega
        have HJ := Lib.hid hj
        clear hj hy r1 hk0 t0 t1 t2
        by_cases hyx : x.fr ≤ y.tt + 1
        · have hd2 : decide (x.fr ≤ y.tt + 1) = true := decide_eq_true hyx
          have E := Lib.hid (winB_bad k hlt (HE.out.trans (decide_eq_false (by omega))))
          go_wp2
          go_quiet (fail)
          go_wp2
          go_ret
          refine ⟨ret_bool E.out.symm, ?_⟩
          repeat (first | exact hb'.out | refine below_drewN ?_ _ | refine Below.drew ?_ | refine Below.setCell ?_ (by first | omega | (simp <;> omega)) _ | refine Below.alloc ?_ (by first | omega | (simp <;> omega)) _)
        · have hd2 : decide (x.fr ≤ y.tt + 1) = false := decide_eq_false hyx
          have FF := Lib.hid (hF.out.next (HE.out.trans (decide_eq_true (by omega))))
          go_wp2
          go_quiet (fail)
          go_wp2
          go_roundw
          case rel =>
            refine ⟨k + 1, by omega, by go_num, FF, Lib.hid ?_, ?_⟩
            · repeat (first | exact hb'.out | refine below_drewN ?_ _ | refine Below.drew ?_ | refine Below.setCell ?_ (by first | omega | (simp <;> omega)) _ | refine Below.alloc ?_ (by first | omega | (simp <;> omega)) _)
            · simp <;> omega
          case measure => simp [intOf]; omega
end Go.Proofs.YtpimcbhjkednpaaGreat
namespace Go.Proofs.YtpimcbhjkednpaaGreat
open Go.RowKit
set_option maxRecDepth 100000
set_option maxHeartbeats 10000000 in
theorem specWindowsOk (v : Value) (l : List WindowD) (w : World) (h : SlWindow w v l) :
    Calls Tryz.prog 95 #[v] w fun e w' => e = .returned (.bool (winB l)) ∧ Below w.heap.size w w' := by
  obtain ⟨hl, h⟩ := h
  rcases h with ⟨rfl, A, c, rfl⟩ | ⟨g, o, c, rfl, hp, hcap, hc⟩
  · have E := Lib.hid (winB_mk (l := []) (FirstW.zero _))
    go_enter Tryz.func95, Tryz.ntmps95
    go_wp2
    refine wp_loop_rounds 1 ?_
    rw [rounds_succ]
    go_wp2
    go_ret
    exact ⟨ret_bool E.out.symm, Below.refl _ _⟩
  · have HC := Lib.hid hc
    clear hc
    go_enter Tryz.func95, Tryz.ntmps95
    go_wp2
    go_loopw [7] (fun i wr => ∃ k : Nat, k ≤ l.length ∧ i = .int .i64 k ∧ Hid (FirstW l k) ∧ Hid (Below w.heap.size w wr) ∧ w.heap.size ≤ wr.heap.size) (fun i _ => l.length - (intOf i).toNat)
    case atStart => exact ⟨0, Nat.zero_le _, rfl, Lib.hid (FirstW.zero _), Lib.hid (Below.refl _ _), Nat.le_refl _⟩
    case round =>
      obtain ⟨k, hk, rfl, hF, hb', hsz⟩ := hrel
      by_cases hlt : k < l.length
      rotate_left
      · obtain rfl : k = l.length := by omega
        have E := Lib.hid (winB_mk hF.out)
        go_wp2
        go_ret
        exact ⟨ret_bool E.out.symm, hb'.out⟩
      · obtain ⟨x, hx⟩ : ∃ x, l[k]? = some x := ⟨_, List.getElem?_eq_getElem hlt⟩
        obtain ⟨p0, p1⟩ := SlWindow.cells HC.out k x hx
        have hg : g < w.heap.size := World.block_lt_of_cell? w ⟨g, o + k * 2, none⟩ p0
        have a0 := (hb'.out.cell (p := ⟨g, o + k * 2, none⟩) hg).trans p0
        have a1 := (hb'.out.cell (p := ⟨g, o + k * 2 + 1, none⟩) hg).trans p1
        have HX := Lib.hid hx
        have hgr : g < wr.heap.size := by omega
        clear p0 p1 hx
        by_cases h1 : x.fr < 0 ∨ 2880 < x.fr
        · have E := Lib.hid (winB_bad k hlt (wokB_bad HX.out (by omega)))
          have E1 := Lib.hid (inB_no (x := x.fr) (lo := 0) (hi := 2880) h1)
          have E2 := Lib.hid (inB_no (x := x.fr) (lo := 0) (hi := 2880) h1)
          clear h1
          go_wp2
          go_quiet (first | (go_at_call 56; exact Calls.quiet_of_same (l01InQ _ _ _ _ (by first | exact E1.out | exact E2.out) _)) | fail)
          go_wp2
          go_ret
          refine ⟨ret_bool E.out.symm, ?_⟩
          repeat (first | exact hb'.out | refine below_drewN ?_ _ | refine Below.drew ?_ | refine Below.setCell ?_ (by first | omega | (simp <;> omega)) _ | refine Below.alloc ?_ (by first | omega | (simp <;> omega)) _)
        by_cases h2 : x.tt < x.fr ∨ 2880 < x.tt
        · have E := Lib.hid (winB_bad k hlt (wokB_bad HX.out (by omega)))
          have E1 := Lib.hid (inB_mk (x := x.fr) (lo := 0) (hi := 2880) (by omega) (by omega))
          have E2 := Lib.hid (inB_no (x := x.tt) (lo := x.fr) (hi := 2880) h2)
          clear h2
          go_wp2
          go_quiet (first | (go_at_call 56; exact Calls.quiet_of_same (l01InQ _ _ _ _ (by first | exact E1.out | exact E2.out) _)) | fail)
          go_wp2
          go_ret
          refine ⟨ret_bool E.out.symm, ?_⟩
          repeat (first | exact hb'.out | refine below_drewN ?_ _ | refine Below.drew ?_ | refine Below.setCell ?_ (by first | omega | (simp <;> omega)) _ | refine Below.alloc ?_ (by first | omega | (simp <;> omega)) _)
        have E1 := Lib.hid (inB_mk (x := x.fr) (lo := 0) (hi := 2880) (by omega) (by omega))
        have E2 := Lib.hid (inB_mk (x := x.tt) (lo := x.fr) (hi := 2880) (by omega) (by omega))
        have ok : 0 ≤ x.fr ∧ x.fr ≤ x.tt ∧ x.tt ≤ 2880 := by omega
        have OK := Lib.hid ok
        clear ok h1 h2
        by_cases hk0 : k = 0
        · have FF := Lib.hid (hF.out.next (wokB_zero hk0 HX.out OK.out))
          have hd : decide (0 < k) = false := decide_eq_false (by omega)
          clear hk0
          go_wp2
          go_quiet (first | (go_at_call 56; exact Calls.quiet_of_same (l01InQ _ _ _ _ (by first | exact E1.out | exact E2.out) _)) | fail)
          go_wp2
          go_roundw
          case rel =>
            refine ⟨k + 1, by omega, by go_num, FF, Lib.hid ?_, ?_⟩
            · repeat (first | exact hb'.out | refine below_drewN ?_ _ | refine Below.drew ?_ | refine Below.setCell ?_ (by first | omega | (simp <;> omega)) _ | refine Below.alloc ?_ (by first | omega | (simp <;> omega)) _)
            · simp <;> omega
          case measure => simp [intOf]; omega
        obtain ⟨j, hj⟩ : ∃ j, k = j + 1 := ⟨k - 1, by omega⟩
        obtain ⟨y, hy⟩ : ∃ y, l[j]? = some y := ⟨_, List.getElem?_eq_getElem (by omega)⟩
        obtain ⟨_, r1⟩ := SlWindow.cells HC.out j y hy
        have y1 := (hb'.out.cell (p := ⟨g, o + j * 2 + 1, none⟩) hg).trans r1
        obtain ⟨t0, t1, t2⟩ := hF.out.time (show j < k by omega) hy
        have hw1 : IntKind.i64.wrap ((k : Int) - 1) = (j : Int) := by rw [IntWalk.i64_in _ (by omega)]; omega
        have hw2 : IntKind.i64.wrap (y.tt + 1) = y.tt + 1 := IntWalk.i64_in _ (by omega)
        have HE := Lib.hid (wokB_succ hj HX.out hy OK.out)
        have hd : decide (0 < k) = true := decide_eq_true (by omega)
        have hjl : j < l.length := by omega
        have HJ := Lib.hid hj
        clear hj hy r1 hk0 t0 t1 t2
        by_cases hyx : x.fr ≤ y.tt + 1
        · have hd2 : decide (x.fr ≤ y.tt + 1) = true := decide_eq_true hyx
          have E := Lib.hid (winB_bad k hlt (HE.out.trans (decide_eq_false (by omega))))
          go_wp2
          go_quiet (first | (go_at_call 56; exact Calls.quiet_of_same (l01InQ _ _ _ _ (by first | exact E1.out | exact E2.out) _)) | fail)
          go_wp2
          go_ret
          refine ⟨ret_bool E.out.symm, ?_⟩
          repeat (first | exact hb'.out | refine below_drewN ?_ _ | refine Below.drew ?_ | refine Below.setCell ?_ (by first | omega | (simp <;> omega)) _ | refine Below.alloc ?_ (by first | omega | (simp <;> omega)) _)
        · have hd2 : decide (x.fr ≤ y.tt + 1) = false := decide_eq_false hyx
          have FF := Lib.hid (hF.out.next (HE.out.trans (decide_eq_true (by omega))))
          go_wp2
          go_quiet (first | (go_at_call 56; exact Calls.quiet_of_same (l01InQ _ _ _ _ (by first | exact E1.out | exact E2.out) _)) | fail)
          go_wp2
          go_roundw
          case rel =>
            refine ⟨k + 1, by omega, by go_num, FF, Lib.hid ?_, ?_⟩
            · repeat (first | exact hb'.out | refine below_drewN ?_ _ | refine Below.drew ?_ | refine Below.setCell ?_ (by first | omega | (simp <;> omega)) _ | refine Below.alloc ?_ (by first | omega | (simp <;> omega)) _)
            · simp <;> omega
          case measure => simp [intOf]; omega
end Go.Proofs.YtpimcbhjkednpaaGreat
namespace Go.Proofs.YtpimcbhjkednpaaGreat
open Go.RowKit
set_option maxRecDepth 100000
def atB (t : Int) (x : WindowD) : Bool := inB t x.fr x.tt
def hasB (l : List WindowD) (t : Int) : Bool := l.any (atB t)
/-- None of the first k windows holds the minute. -/
def FirstN (l : List WindowD) (t : Int) (k : Nat) : Prop := ∀ x ∈ l.take k, atB t x = false
theorem FirstN.zero {l : List WindowD} {t : Int} {z : Nat} (hz : z = 0 := by simp) : FirstN l t z := by subst hz; intro x hx; simp at hx
theorem FirstN.next {l : List WindowD} {t : Int} {k : Nat} {x : WindowD} (h : FirstN l t k) (hx : l[k]? = some x) (hp : atB t x = false) : FirstN l t (k + 1) := by
  intro y hy
  rw [take_snoc' l k x hx, List.mem_append, List.mem_singleton] at hy
  rcases hy with hy | rfl
  · exact h y hy
  · exact hp
theorem hasB_no {l : List WindowD} {t : Int} (h : FirstN l t l.length) : hasB l t = false := by
  unfold hasB
  rw [List.any_eq_false]
  intro x hx
  have := h x (by rw [List.take_length]; exact hx)
  simp [this]
theorem hasB_yes {l : List WindowD} {t : Int} {k : Nat} {x : WindowD} (hx : l[k]? = some x) (hp : atB t x = true) : hasB l t = true := by
  unfold hasB
  rw [List.any_eq_true]
  exact ⟨x, List.mem_of_getElem? hx, hp⟩
set_option maxHeartbeats 2000000 in
theorem hasClosure (x : WindowD) (t : Int) (B : Nat) (w : World) (hB : B < w.heap.size) (hc : w.cell? ⟨B, 0, none⟩ = some (.int .i64 t)) :
    Calls Tryz.prog 84 #[.agg #[.int .i64 x.fr, .int .i64 x.tt], .pointer (some ⟨B, 0, none⟩)] w fun e w' => e = .returned (.bool (atB t x)) ∧ Below w.heap.size w w' := by
  have hne : B ≠ w.heap.size := by omega
  have EB : Hid (atB t x = (decide (x.fr ≤ t) && decide (t ≤ x.tt))) := Lib.hid (by unfold atB inB; simp [Bool.decide_and])
  by_cases h1 : x.fr ≤ t
  · by_cases h2 : t ≤ x.tt
    · have E : Hid (atB t x = true) := Lib.hid (by rw [EB.out]; simp [h1, h2])
      go_enter Tryz.func84, Tryz.ntmps84
      go_wp2
      go_ret
      exact ⟨ret_bool E.out.symm, Joins.below_alloc1 w _⟩
    · have E : Hid (atB t x = false) := Lib.hid (by rw [EB.out]; simp [h2])
      go_enter Tryz.func84, Tryz.ntmps84
      go_wp2
      go_ret
      exact ⟨ret_bool E.out.symm, Joins.below_alloc1 w _⟩
  · have E : Hid (atB t x = false) := Lib.hid (by rw [EB.out]; simp [h1])
    go_enter Tryz.func84, Tryz.ntmps84
    go_wp2
    go_ret
    exact ⟨ret_bool E.out.symm, Joins.below_alloc1 w _⟩
/-- What the search leaves: a place, or -1. -/
def IdxPost (l : List WindowD) (t : Int) (w : World) (e : Ending) (w' : World) : Prop := ∃ r : Int, e = .returned (.int .i64 r) ∧ decide (0 ≤ r) = hasB l t ∧ Below w.heap.size w w'
set_option maxHeartbeats 4000000 in
theorem hasIndex (v : Value) (l : List WindowD) (t : Int) (B : Nat) (w : World) (h : SlWindow w v l) (hB : B < w.heap.size) (hc : w.cell? ⟨B, 0, none⟩ = some (.int .i64 t)) :
    Calls Tryz.prog 105 #[v, .func (.func 84) #[] #[.pointer (some ⟨B, 0, none⟩)]] w (IdxPost l t w) := by
  have HB := Lib.hid hc
  clear hc
  obtain ⟨hl, h⟩ := h
  rcases h with ⟨rfl, A, c, rfl⟩ | ⟨g, o, c, rfl, hp, hcap, hc⟩
  · go_enter Tryz.func105, Tryz.ntmps105
    go_wp2
    refine wp_loop_rounds 1 ?_
    rw [rounds_succ]
    go_wp2
    go_ret
    exact ⟨-1, rfl, rfl, Below.refl _ _⟩
  · have HC := Lib.hid hc
    clear hc
    go_enter Tryz.func105, Tryz.ntmps105
    go_wp2
    go_loopw [5, 8] (fun _ i wr => ∃ k : Nat, k ≤ l.length ∧ i = .int .i64 k ∧ Hid (FirstN l t k) ∧ Hid (Below w.heap.size w wr) ∧ w.heap.size ≤ wr.heap.size) (fun _ i _ => l.length - (intOf i).toNat)
    case atStart => exact ⟨0, Nat.zero_le _, rfl, Lib.hid FirstN.zero, Lib.hid (Below.refl _ _), Nat.le_refl _⟩
    case round =>
      obtain ⟨k, hk, rfl, hN, hb', hsz⟩ := hrel
      by_cases hlt : k < l.length
      rotate_left
      · obtain rfl : k = l.length := by omega
        have E := Lib.hid (hasB_no hN.out)
        go_wp2
        go_ret
        exact ⟨-1, rfl, by rw [E.out]; rfl, hb'.out⟩
      · obtain ⟨x, hx⟩ : ∃ x, l[k]? = some x := ⟨_, List.getElem?_eq_getElem hlt⟩
        obtain ⟨p0, p1⟩ := SlWindow.cells HC.out k x hx
        have hg : g < w.heap.size := World.block_lt_of_cell? w ⟨g, o + k * 2, none⟩ p0
        have a0 := (hb'.out.cell (p := ⟨g, o + k * 2, none⟩) hg).trans p0
        have a1 := (hb'.out.cell (p := ⟨g, o + k * 2 + 1, none⟩) hg).trans p1
        have HX := Lib.hid hx
        have hgr : g < wr.heap.size := by omega
        have HBW := Lib.hid ((hb'.out.cell (p := ⟨B, 0, none⟩) hB).trans HB.out)
        clear p0 p1 hx
        have HCL := fun W h1 h2 => Lib.hid (hasClosure x t B W h1 h2)
        cases hq : atB t x with
        | true =>
          have E := Lib.hid (hasB_yes HX.out hq)
          rw [hq] at HCL
          clear hq
          go_wp2_with fail
          refine (HCL _ (by omega) HBW.out).out.mono ?_
          rintro e w1 ⟨rfl, hb1⟩
          have B1 := Lib.hid (hb'.out.trans (hb1.mono hsz))
          clear hb1
          go_wp2
          go_ret
          exact ⟨k, rfl, by rw [E.out]; simp, B1.out⟩
        | false =>
          have HN2 := Lib.hid (hN.out.next HX.out hq)
          rw [hq] at HCL
          clear hq
          go_wp2_with fail
          refine (HCL _ (by omega) HBW.out).out.mono ?_
          rintro e w1 ⟨rfl, hb1⟩
          have B1 := Lib.hid (hb'.out.trans (hb1.mono hsz))
          have hz1 := hb1.size
          clear hb1
          go_wp2
          go_roundw
          case rel => exact ⟨k + 1, by omega, by go_num, HN2, B1, by omega⟩
          case measure => simp [intOf]; omega
set_option maxHeartbeats 2000000 in
theorem hasContains (v : Value) (l : List WindowD) (t : Int) (B : Nat) (w : World) (h : SlWindow w v l) (hB : B < w.heap.size) (hc : w.cell? ⟨B, 0, none⟩ = some (.int .i64 t)) :
    Calls Tryz.prog 83 #[v, .func (.func 84) #[] #[.pointer (some ⟨B, 0, none⟩)]] w fun e w' => e = .returned (.bool (hasB l t)) ∧ Below w.heap.size w w' := by
  have HI := Lib.hid (hasIndex v l t B w h hB hc)
  obtain ⟨A, c, rfl⟩ := h.at
  clear h hc
  go_enter Tryz.func83, Tryz.ntmps83
  go_wp2_with fail
  refine HI.out.mono ?_
  rintro e w1 ⟨r, rfl, hr, hb1⟩
  have B1 := Lib.hid hb1
  have HR := Lib.hid hr
  clear hb1 hr
  go_wp2
  go_ret
  exact ⟨ret_bool HR.out, B1.out⟩
set_option maxHeartbeats 2000000 in
theorem implHasMinute (v : Value) (l : List WindowD) (t : Int) (w : World) (h : SlWindow w v l) :
    Calls Tryz.prog 53 #[v, .int .i64 t] w fun e w' => e = .returned (.bool (hasB l t)) ∧ Below w.heap.size w w' := by
  have hal := Joins.below_alloc1 w (.cells #[.int .i64 t] 3)
  have HI := Lib.hid (hasContains v l t w.heap.size _ (h.below hal) (by simp) (by simp))
  have B0 := Lib.hid hal
  obtain ⟨A, c, rfl⟩ := h.at
  clear h hal
  go_enter Tryz.func53, Tryz.ntmps53
  go_wp2_with fail
  refine HI.out.mono ?_
  rintro e w1 ⟨rfl, hb1⟩
  have B1 := Lib.hid (B0.out.trans (hb1.mono B0.out.size))
  clear hb1
  go_wp2
  go_ret
  exact ⟨rfl, B1.out⟩
set_option maxHeartbeats 4000000 in
theorem specHasMinute (v : Value) (l : List WindowD) (t : Int) (w : World) (h : SlWindow w v l) :
    Calls Tryz.prog 52 #[v, .int .i64 t] w fun e w' => e = .returned (.bool (hasB l t)) ∧ Below w.heap.size w w' := by
  obtain ⟨hl, h⟩ := h
  rcases h with ⟨rfl, A, c, rfl⟩ | ⟨g, o, c, rfl, hp, hcap, hc⟩
  · go_enter Tryz.func52, Tryz.ntmps52
    go_wp2
    refine wp_loop_rounds 1 ?_
    rw [rounds_succ]
    go_wp2
    go_ret
    exact ⟨rfl, Below.refl _ _⟩
  · have HC := Lib.hid hc
    clear hc
    go_enter Tryz.func52, Tryz.ntmps52
    go_wp2
    go_loopw [9] (fun i wr => ∃ k : Nat, k ≤ l.length ∧ i = .int .i64 k ∧ Hid (FirstN l t k) ∧ Hid (Below w.heap.size w wr) ∧ w.heap.size ≤ wr.heap.size) (fun i _ => l.length - (intOf i).toNat)
    case atStart => exact ⟨0, Nat.zero_le _, rfl, Lib.hid FirstN.zero, Lib.hid (Below.refl _ _), Nat.le_refl _⟩
    case round =>
      obtain ⟨k, hk, rfl, hN, hb', hsz⟩ := hrel
      by_cases hlt : k < l.length
      rotate_left
      · obtain rfl : k = l.length := by omega
        have E := Lib.hid (hasB_no hN.out)
        go_wp2
        go_ret
        exact ⟨ret_bool E.out.symm, hb'.out⟩
      · obtain ⟨x, hx⟩ : ∃ x, l[k]? = some x := ⟨_, List.getElem?_eq_getElem hlt⟩
        obtain ⟨p0, p1⟩ := SlWindow.cells HC.out k x hx
        have hg : g < w.heap.size := World.block_lt_of_cell? w ⟨g, o + k * 2, none⟩ p0
        have a0 := (hb'.out.cell (p := ⟨g, o + k * 2, none⟩) hg).trans p0
        have a1 := (hb'.out.cell (p := ⟨g, o + k * 2 + 1, none⟩) hg).trans p1
        have HX := Lib.hid hx
        have hgr : g < wr.heap.size := by omega
        have hW1 := Lib.hid (hb'.out.alloc hsz (.cells #[.int .i64 x.fr, .int .i64 x.tt] 77))
        clear p0 p1 hx
        cases hq : atB t x with
        | true =>
          have E := Lib.hid (hasB_yes HX.out hq)
          have HQ := Lib.hid (show inB t x.fr x.tt = true from hq)
          clear hq
          go_wp2_with fail
          refine (l01In_any _ _ _ _).mono ?_
          rw [HQ.out]
          rintro e w1 ⟨rfl, rfl⟩
          go_wp2
          go_ret
          exact ⟨ret_bool E.out.symm, hW1.out⟩
        | false =>
          have HN2 := Lib.hid (hN.out.next HX.out hq)
          have HQ := Lib.hid (show inB t x.fr x.tt = false from hq)
          clear hq
          go_wp2_with fail
          refine (l01In_any _ _ _ _).mono ?_
          rw [HQ.out]
          rintro e w1 ⟨rfl, rfl⟩
          go_wp2
          go_roundw
          case rel => exact ⟨k + 1, by omega, by go_num, HN2, hW1, by simp; omega⟩
          case measure => simp [intOf]; omega
end Go.Proofs.YtpimcbhjkednpaaGreat
