
/- impl.isIndex, segmentOk, segmentJoining (slices.IndexFunc with its closure), otherEnd's test: contracts. -/
import Derived.Test.YtpglaffmmddcdaaChartOkSpec
import Derived.Test.YtpglaffmmddcdaaFirst
namespace Go.Proofs.Ytpglaffmmddcdaa
open Go.RowKit
set_option maxRecDepth 100000

theorem isIndex_any (i : Int) (n : Nat) (w : World) : Calls Try.prog 49 #[.int .i64 i, .int .i64 (n : Int)] w fun e w' => e = .returned (.bool (inB i 0 ((n : Int) - 1))) ∧ w = w' := by
  by_cases h1 : 0 ≤ i
  · by_cases h2 : i < (n : Int)
    · have H := Lib.hid (inB_mk h1 (show i ≤ (n : Int) - 1 by omega))
      go_enter Try.func49, Try.ntmps49
      go_wp2
      go_ret
      exact ⟨ret_bool H.out.symm, rfl⟩
    · have H := Lib.hid (inB_no (x := i) (lo := 0) (hi := (n : Int) - 1) (.inr (by omega)))
      have h3 : decide (i < (n : Int)) = false := decide_eq_false h2
      go_enter Try.func49, Try.ntmps49
      go_wp2
      go_ret
      exact ⟨ret_bool H.out.symm, rfl⟩
  · have H := Lib.hid (inB_no (x := i) (lo := 0) (hi := (n : Int) - 1) (.inl (by omega)))
    have h3 : decide (0 ≤ i) = false := decide_eq_false h1
    go_enter Try.func49, Try.ntmps49
    go_wp2
    go_ret
    exact ⟨ret_bool H.out.symm, rfl⟩

set_option maxHeartbeats 2000000 in
theorem implSegmentOk (s : SegmentD) (n : Nat) (w : World) :
    Calls Try.prog 85 #[s.val, .int .i64 (n : Int)] w fun e w' => e = .returned (.bool (segB n s)) ∧ Below w.heap.size w w' := by
  obtain ⟨sa, sb, sd, sm, se⟩ := s
  have B := Lib.hid (Joins.below_alloc1 w (.cells #[.int .i64 sa, .int .i64 sb, .int .i64 sd, .int .i64 sm, .bool se] 90))
  have E0 := Lib.hid (show segB n ⟨sa, sb, sd, sm, se⟩ = (inB sa 0 ((n : Int) - 1) && inB sb 0 ((n : Int) - 1) && !(sa == sb) && decide (0 ≤ sd ∧ sd ≤ 3000) && decide (1 ≤ sm ∧ sm ≤ 240)) from rfl)
  rw [E0.out]
  clear E0
  cases h1 : inB sa 0 ((n : Int) - 1) with
  | false =>
    have H1 := Lib.hid h1
    clear h1
    go_enter Try.func85, Try.ntmps85
    go_wp2_with fail
    refine (isIndex_any _ _ _).mono ?_
    rw [H1.out]
    rintro e w1 ⟨rfl, rfl⟩
    go_wp2
    go_ret
    exact ⟨rfl, B.out⟩
  | true =>
    have H1 := Lib.hid h1
    clear h1
    cases h2 : inB sb 0 ((n : Int) - 1) with
    | false =>
      have H2 := Lib.hid h2
      clear h2
      go_enter Try.func85, Try.ntmps85
      go_wp2_with fail
      refine (isIndex_any _ _ _).mono ?_
      rw [H1.out]
      rintro e w1 ⟨rfl, rfl⟩
      go_wp2_with fail
      refine (isIndex_any _ _ _).mono ?_
      rw [H2.out]
      rintro e w1 ⟨rfl, rfl⟩
      go_wp2
      go_ret
      exact ⟨rfl, B.out⟩
    | true =>
      have H2 := Lib.hid h2
      clear h2
      have go : ∀ r : Bool, r = (!(sa == sb) && decide (0 ≤ sd ∧ sd ≤ 3000) && decide (1 ≤ sm ∧ sm ≤ 240)) → Calls Try.prog 85 #[.agg #[.int .i64 sa, .int .i64 sb, .int .i64 sd, .int .i64 sm, .bool se], .int .i64 (n : Int)] w fun e w' => e = .returned (.bool r) ∧ Below w.heap.size w w' := by
        intro r hr
        have HR := Lib.hid hr
        clear hr
        cases h3 : (sa == sb) with
        | true =>
          have E := Lib.hid (show r = false by rw [HR.out, h3]; rfl)
          have h3' : (sa != sb) = false := by rw [bne, h3]; rfl
          clear HR
          go_enter Try.func85, Try.ntmps85
          go_wp2_with fail
          refine (isIndex_any _ _ _).mono ?_
          rw [H1.out]
          rintro e w1 ⟨rfl, rfl⟩
          go_wp2_with fail
          refine (isIndex_any _ _ _).mono ?_
          rw [H2.out]
          rintro e w1 ⟨rfl, rfl⟩
          go_wp2
          go_ret
          exact ⟨ret_bool E.out.symm, B.out⟩
        | false =>
          have h3' : (sa != sb) = true := by rw [bne, h3]; rfl
          by_cases h4 : 0 ≤ sd
          · by_cases h5 : sd ≤ 3000
            · by_cases h6 : 1 ≤ sm
              · by_cases h7 : sm ≤ 240
                · have E := Lib.hid (show r = true by rw [HR.out, h3, decide_eq_true ⟨h4, h5⟩, decide_eq_true ⟨h6, h7⟩]; rfl)
                  clear HR
                  go_enter Try.func85, Try.ntmps85
                  go_wp2_with fail
                  refine (isIndex_any _ _ _).mono ?_
                  rw [H1.out]
                  rintro e w1 ⟨rfl, rfl⟩
                  go_wp2_with fail
                  refine (isIndex_any _ _ _).mono ?_
                  rw [H2.out]
                  rintro e w1 ⟨rfl, rfl⟩
                  go_wp2
                  go_ret
                  exact ⟨ret_bool E.out.symm, B.out⟩
                · have E := Lib.hid (show r = false by rw [HR.out, decide_eq_false (p := 1 ≤ sm ∧ sm ≤ 240) (by omega)]; simp)
                  have h8 : decide (sm ≤ 240) = false := decide_eq_false h7
                  clear HR
                  go_enter Try.func85, Try.ntmps85
                  go_wp2_with fail
                  refine (isIndex_any _ _ _).mono ?_
                  rw [H1.out]
                  rintro e w1 ⟨rfl, rfl⟩
                  go_wp2_with fail
                  refine (isIndex_any _ _ _).mono ?_
                  rw [H2.out]
                  rintro e w1 ⟨rfl, rfl⟩
                  go_wp2
                  go_ret
                  exact ⟨ret_bool E.out.symm, B.out⟩
              · have E := Lib.hid (show r = false by rw [HR.out, decide_eq_false (p := 1 ≤ sm ∧ sm ≤ 240) (by omega)]; simp)
                have h8 : decide (1 ≤ sm) = false := decide_eq_false h6
                clear HR
                go_enter Try.func85, Try.ntmps85
                go_wp2_with fail
                refine (isIndex_any _ _ _).mono ?_
                rw [H1.out]
                rintro e w1 ⟨rfl, rfl⟩
                go_wp2_with fail
                refine (isIndex_any _ _ _).mono ?_
                rw [H2.out]
                rintro e w1 ⟨rfl, rfl⟩
                go_wp2
                go_ret
                exact ⟨ret_bool E.out.symm, B.out⟩
            · have E := Lib.hid (show r = false by rw [HR.out, decide_eq_false (p := 0 ≤ sd ∧ sd ≤ 3000) (by omega)]; simp)
              have h8 : decide (sd ≤ 3000) = false := decide_eq_false h5
              clear HR
              go_enter Try.func85, Try.ntmps85
              go_wp2_with fail
              refine (isIndex_any _ _ _).mono ?_
              rw [H1.out]
              rintro e w1 ⟨rfl, rfl⟩
              go_wp2_with fail
              refine (isIndex_any _ _ _).mono ?_
              rw [H2.out]
              rintro e w1 ⟨rfl, rfl⟩
              go_wp2
              go_ret
              exact ⟨ret_bool E.out.symm, B.out⟩
          · have E := Lib.hid (show r = false by rw [HR.out, decide_eq_false (p := 0 ≤ sd ∧ sd ≤ 3000) (by omega)]; simp)
            have h8 : decide (0 ≤ sd) = false := decide_eq_false h4
            clear HR
            go_enter Try.func85, Try.ntmps85
            go_wp2_with fail
            refine (isIndex_any _ _ _).mono ?_
            rw [H1.out]
            rintro e w1 ⟨rfl, rfl⟩
            go_wp2_with fail
            refine (isIndex_any _ _ _).mono ?_
            rw [H2.out]
            rintro e w1 ⟨rfl, rfl⟩
            go_wp2
            go_ret
            exact ⟨ret_bool E.out.symm, B.out⟩
      exact go _ rfl

/-- The closure of segmentJoining. -/
theorem joining1 (s : SegmentD) (a b : Int) (Ba Bb : Nat) (w : World) (ha : w.cell? ⟨Ba, 0, none⟩ = some (.int .i64 a)) (hb : w.cell? ⟨Bb, 0, none⟩ = some (.int .i64 b)) :
    Calls Try.prog 94 #[s.val, .pointer (some ⟨Ba, 0, none⟩), .pointer (some ⟨Bb, 0, none⟩)] w fun e w' => e = .returned (.bool (joinsB s a b)) ∧ Below w.heap.size w w' := by
  obtain ⟨sa, sb, sd, sm, se⟩ := s
  have B := Lib.hid (Joins.below_alloc1 w (.cells #[.int .i64 sa, .int .i64 sb, .int .i64 sd, .int .i64 sm, .bool se] 90))
  have E := Lib.hid (show joinsB ⟨sa, sb, sd, sm, se⟩ a b = ((sa == a && sb == b) || (sa == b && sb == a)) from rfl)
  rw [E.out]
  clear E
  have ya := (B.out.cell (p := ⟨Ba, 0, none⟩) (World.block_lt_of_cell? w _ ha)).trans ha
  have yb := (B.out.cell (p := ⟨Bb, 0, none⟩) (World.block_lt_of_cell? w _ hb)).trans hb
  clear ha hb
  cases h1 : (sa == a) <;> cases h2 : (sb == b) <;> cases h3 : (sa == b) <;> cases h4 : (sb == a)
  all_goals
    go_enter Try.func94, Try.ntmps94
    go_wp2
    go_ret
    exact ⟨rfl, B.out⟩

set_option maxHeartbeats 2000000 in
theorem indexFunc_any (v : Value) (l : List SegmentD) (a b : Int) (Ba Bb : Nat) (w : World) (h : SlSegment w v l) (ha : w.cell? ⟨Ba, 0, none⟩ = some (.int .i64 a)) (hb : w.cell? ⟨Bb, 0, none⟩ = some (.int .i64 b)) :
    Calls Try.prog 93 #[v, .func (.func 94) #[] #[.pointer (some ⟨Ba, 0, none⟩), .pointer (some ⟨Bb, 0, none⟩)]] w fun e w' => e = .returned (.int .i64 (firstI (fun s => joinsB s a b) l)) ∧ Below w.heap.size w w' := by
  have HS := Lib.hid h
  have hl := h.1
  obtain ⟨A1, c1, rfl⟩ := h.at
  have hla : Ba < w.heap.size := World.block_lt_of_cell? w _ ha
  have hlb : Bb < w.heap.size := World.block_lt_of_cell? w _ hb
  have HA := Lib.hid ha
  have HB := Lib.hid hb
  clear h ha hb
  go_enter Try.func93, Try.ntmps93
  go_wp2
  go_loopw [8] (fun i wr => ∃ k : Nat, k ≤ l.length ∧ i = .int .i64 k ∧ Hid (NoOne (fun s => joinsB s a b) l k) ∧ Hid (Below w.heap.size w wr)) (fun i _ => l.length - (intOf i).toNat)
  case atStart => exact ⟨0, Nat.zero_le _, rfl, Lib.hid (NoOne.zero _ _), Lib.hid (Below.refl _ _)⟩
  case round =>
    obtain ⟨k, hk, rfl, hN, hb⟩ := hrel
    by_cases hlt : k < l.length
    · obtain ⟨x, hx⟩ : ∃ x, l[k]? = some x := ⟨_, List.getElem?_eq_getElem hlt⟩
      rcases HS.out.2 with ⟨he, _⟩ | ⟨g, o, c, e, hpos, hcap, hc⟩
      · rw [he] at hlt; simp at hlt
      · injection e with hA _ hcp
        subst hA hcp
        obtain ⟨q0, q1, q2, q3, q4⟩ := SlSegment.cells hc k x hx
        have hg : g < w.heap.size := World.block_lt_of_cell? w ⟨g, o + k * 5, none⟩ q0
        have y0 := (hb.out.cell (p := ⟨g, o + k * 5, none⟩) hg).trans q0
        have y1 := (hb.out.cell (p := ⟨g, o + k * 5 + 1, none⟩) hg).trans q1
        have y2 := (hb.out.cell (p := ⟨g, o + k * 5 + 2, none⟩) hg).trans q2
        have y3 := (hb.out.cell (p := ⟨g, o + k * 5 + 3, none⟩) hg).trans q3
        have y4 := (hb.out.cell (p := ⟨g, o + k * 5 + 4, none⟩) hg).trans q4
        have YA := Lib.hid ((hb.out.cell (p := ⟨Ba, 0, none⟩) hla).trans HA.out)
        have YB := Lib.hid ((hb.out.cell (p := ⟨Bb, 0, none⟩) hlb).trans HB.out)
        have HX := Lib.hid hx
        clear q0 q1 q2 q3 q4 hx hc
        obtain ⟨t, ht⟩ : ∃ t, joinsB x a b = t := ⟨_, rfl⟩
        have HT := Lib.hid ht
        clear ht
        go_wp2_with fail
        refine (joining1 x a b Ba Bb _ YA.out YB.out).mono ?_
        rw [HT.out]
        rintro e w5 ⟨rfl, hb5⟩
        have hb6 := Lib.hid (hb.out.trans (hb5.mono hb.out.size))
        clear hb5 y0 y1 y2 y3 y4
        cases t with
        | true =>
          have E := Lib.hid (firstI_at hN.out HX.out HT.out)
          go_wp2
          go_ret
          exact ⟨ret_int E.out.symm, hb6.out⟩
        | false =>
          have N2 := Lib.hid (hN.out.next HX.out HT.out)
          go_wp2
          go_roundw
          case rel => exact ⟨k + 1, by omega, by go_num, N2, hb6⟩
          case measure => simp [intOf]; omega
    · obtain rfl : k = l.length := by omega
      have E := Lib.hid (firstI_none hN.out)
      go_wp2
      go_ret
      exact ⟨ret_int E.out.symm, hb.out⟩

theorem implJoining (v : Value) (l : List SegmentD) (a b : Int) (w : World) (h : SlSegment w v l) :
    Calls Try.prog 86 #[v, .int .i64 a, .int .i64 b] w fun e w' => e = .returned (.int .i64 (firstI (fun s => joinsB s a b) l)) ∧ Below w.heap.size w w' := by
  have B := Lib.hid (Joins.below_alloc2 w (.cells #[.int .i64 a] 3) (.cells #[.int .i64 b] 3))
  have HS := Lib.hid (SlSegment.below h B.out)
  obtain ⟨A1, c1, rfl⟩ := h.at
  have c0 : ((w.alloc (.cells #[.int .i64 a] 3)).alloc (.cells #[.int .i64 b] 3)).cell? ⟨w.heap.size, 0, none⟩ = some (.int .i64 a) := ((Blk.new w #[.int .i64 a] 3).below (Joins.below_alloc1 _ _)).cell 0
  have c1' : ((w.alloc (.cells #[.int .i64 a] 3)).alloc (.cells #[.int .i64 b] 3)).cell? ⟨w.heap.size + 1, 0, none⟩ = some (.int .i64 b) := by
    have := (Blk.new (w.alloc (.cells #[.int .i64 a] 3)) #[.int .i64 b] 3).cell 0
    rw [World.size_alloc] at this
    exact this
  have C0 := Lib.hid c0
  have C1 := Lib.hid c1'
  clear c0 c1' h
  go_enter Try.func86, Try.ntmps86
  go_wp2_with fail
  refine (indexFunc_any _ l a b _ _ _ HS.out C0.out C1.out).mono ?_
  rintro e w1 ⟨rfl, hb1⟩
  have B1 := Lib.hid (B.out.trans (hb1.mono B.out.size))
  clear hb1
  go_wp2
  go_ret
  exact ⟨rfl, B1.out⟩
end Go.Proofs.Ytpglaffmmddcdaa
