
/- What ExactNeedOf and ExactLevelFor and ExactIsAfloat and ExactMinutesOn rests on, part 6: contracts and mathematics. -/
import Derived.Test.YtpimcbhjkednpaaNl5
import Derived.Test.YtpimcbhjkednpaaNl0
import Derived.Test.YtpimcbhjkednpaaNl1
namespace Go.Proofs.Ytpimcbhjkednpaa
open Go.RowKit
set_option maxRecDepth 100000
theorem isIndex_any (i : Int) (n : Nat) (w : World) : Calls Try.prog 66 #[.int .i64 i, .int .i64 (n : Int)] w fun e w' => e = .returned (.bool (inB i 0 ((n : Int) - 1))) ∧ w = w' := by
  by_cases h1 : 0 ≤ i
  · by_cases h2 : i < (n : Int)
    · have H := Lib.hid (inB_mk h1 (show i ≤ (n : Int) - 1 by omega))
      go_enter Try.func66, Try.ntmps66
      go_wp2
      go_ret
      exact ⟨ret_bool H.out.symm, rfl⟩
    · have H := Lib.hid (inB_no (x := i) (lo := 0) (hi := (n : Int) - 1) (.inr (by omega)))
      have h3 : decide (i < (n : Int)) = false := decide_eq_false h2
      go_enter Try.func66, Try.ntmps66
      go_wp2
      go_ret
      exact ⟨ret_bool H.out.symm, rfl⟩
  · have H := Lib.hid (inB_no (x := i) (lo := 0) (hi := (n : Int) - 1) (.inl (by omega)))
    have h3 : decide (0 ≤ i) = false := decide_eq_false h1
    go_enter Try.func66, Try.ntmps66
    go_wp2
    go_ret
    exact ⟨ret_bool H.out.symm, rfl⟩
set_option maxHeartbeats 2000000 in
theorem implSegmentOk (s : SegmentD) (n : Nat) (w : World) :
    Calls Try.prog 97 #[s.val, .int .i64 (n : Int)] w fun e w' => e = .returned (.bool (segB n s)) ∧ Below w.heap.size w w' := by
  obtain ⟨sa, sb, sd, sm, se⟩ := s
  have B := Lib.hid (Joins.below_alloc1 w (.cells #[.int .i64 sa, .int .i64 sb, .int .i64 sd, .int .i64 sm, .bool se] 49))
  have E0 := Lib.hid (show segB n ⟨sa, sb, sd, sm, se⟩ = (inB sa 0 ((n : Int) - 1) && inB sb 0 ((n : Int) - 1) && !(sa == sb) && decide (0 ≤ sd ∧ sd ≤ 3000) && decide (1 ≤ sm ∧ sm ≤ 240)) from rfl)
  rw [E0.out]
  clear E0
  cases h1 : inB sa 0 ((n : Int) - 1) with
  | false =>
    have H1 := Lib.hid h1
    clear h1
    go_enter Try.func97, Try.ntmps97
    go_wp2_with fail
    refine (isIndex_any _ _ _).mono ?_
    rw [H1.out]
    rintro e w1 ⟨rfl, rfl⟩
    go_wp2
    go_ret
    exact ⟨rfl, B.out⟩
  | true =>
    have H1 := Lib.hid h1
    clear h1
    cases h2 : inB sb 0 ((n : Int) - 1) with
    | false =>
      have H2 := Lib.hid h2
      clear h2
      go_enter Try.func97, Try.ntmps97
      go_wp2_with fail
      refine (isIndex_any _ _ _).mono ?_
      rw [H1.out]
      rintro e w1 ⟨rfl, rfl⟩
      go_wp2_with fail
      refine (isIndex_any _ _ _).mono ?_
      rw [H2.out]
      rintro e w1 ⟨rfl, rfl⟩
      go_wp2
      go_ret
      exact ⟨rfl, B.out⟩
    | true =>
      have H2 := Lib.hid h2
      clear h2
      have go : ∀ r : Bool, r = (!(sa == sb) && decide (0 ≤ sd ∧ sd ≤ 3000) && decide (1 ≤ sm ∧ sm ≤ 240)) → Calls Try.prog 97 #[.agg #[.int .i64 sa, .int .i64 sb, .int .i64 sd, .int .i64 sm, .bool se], .int .i64 (n : Int)] w fun e w' => e = .returned (.bool r) ∧ Below w.heap.size w w' := by
        intro r hr
        have HR := Lib.hid hr
        clear hr
        cases h3 : (sa == sb) with
        | true =>
          have E := Lib.hid (show r = false by rw [HR.out, h3]; rfl)
          have h3' : (sa != sb) = false := by rw [bne, h3]; rfl
          clear HR
          go_enter Try.func97, Try.ntmps97
          go_wp2_with fail
          refine (isIndex_any _ _ _).mono ?_
          rw [H1.out]
          rintro e w1 ⟨rfl, rfl⟩
          go_wp2_with fail
          refine (isIndex_any _ _ _).mono ?_
          rw [H2.out]
          rintro e w1 ⟨rfl, rfl⟩
          go_wp2
          go_ret
          exact ⟨ret_bool E.out.symm, B.out⟩
        | false =>
          have h3' : (sa != sb) = true := by rw [bne, h3]; rfl
          by_cases h4 : 0 ≤ sd
          · by_cases h5 : sd ≤ 3000
            · by_cases h6 : 1 ≤ sm
              · by_cases h7 : sm ≤ 240
                · have E := Lib.hid (show r = true by rw [HR.out, h3, decide_eq_true ⟨h4, h5⟩, decide_eq_true ⟨h6, h7⟩]; rfl)
                  clear HR
                  go_enter Try.func97, Try.ntmps97
                  go_wp2_with fail
                  refine (isIndex_any _ _ _).mono ?_
                  rw [H1.out]
                  rintro e w1 ⟨rfl, rfl⟩
                  go_wp2_with fail
                  refine (isIndex_any _ _ _).mono ?_
                  rw [H2.out]
                  rintro e w1 ⟨rfl, rfl⟩
                  go_wp2
                  go_ret
                  exact ⟨ret_bool E.out.symm, B.out⟩
                · have E := Lib.hid (show r = false by rw [HR.out, decide_eq_false (p := 1 ≤ sm ∧ sm ≤ 240) (by omega)]; simp)
                  have h8 : decide (sm ≤ 240) = false := decide_eq_false h7
                  clear HR
                  go_enter Try.func97, Try.ntmps97
                  go_wp2_with fail
                  refine (isIndex_any _ _ _).mono ?_
                  rw [H1.out]
                  rintro e w1 ⟨rfl, rfl⟩
                  go_wp2_with fail
                  refine (isIndex_any _ _ _).mono ?_
                  rw [H2.out]
                  rintro e w1 ⟨rfl, rfl⟩
                  go_wp2
                  go_ret
                  exact ⟨ret_bool E.out.symm, B.out⟩
              · have E := Lib.hid (show r = false by rw [HR.out, decide_eq_false (p := 1 ≤ sm ∧ sm ≤ 240) (by omega)]; simp)
                have h8 : decide (1 ≤ sm) = false := decide_eq_false h6
                clear HR
                go_enter Try.func97, Try.ntmps97
                go_wp2_with fail
                refine (isIndex_any _ _ _).mono ?_
                rw [H1.out]
                rintro e w1 ⟨rfl, rfl⟩
                go_wp2_with fail
                refine (isIndex_any _ _ _).mono ?_
                rw [H2.out]
                rintro e w1 ⟨rfl, rfl⟩
                go_wp2
                go_ret
                exact ⟨ret_bool E.out.symm, B.out⟩
            · have E := Lib.hid (show r = false by rw [HR.out, decide_eq_false (p := 0 ≤ sd ∧ sd ≤ 3000) (by omega)]; simp)
              have h8 : decide (sd ≤ 3000) = false := decide_eq_false h5
              clear HR
              go_enter Try.func97, Try.ntmps97
              go_wp2_with fail
              refine (isIndex_any _ _ _).mono ?_
              rw [H1.out]
              rintro e w1 ⟨rfl, rfl⟩
              go_wp2_with fail
              refine (isIndex_any _ _ _).mono ?_
              rw [H2.out]
              rintro e w1 ⟨rfl, rfl⟩
              go_wp2
              go_ret
              exact ⟨ret_bool E.out.symm, B.out⟩
          · have E := Lib.hid (show r = false by rw [HR.out, decide_eq_false (p := 0 ≤ sd ∧ sd ≤ 3000) (by omega)]; simp)
            have h8 : decide (0 ≤ sd) = false := decide_eq_false h4
            clear HR
            go_enter Try.func97, Try.ntmps97
            go_wp2_with fail
            refine (isIndex_any _ _ _).mono ?_
            rw [H1.out]
            rintro e w1 ⟨rfl, rfl⟩
            go_wp2_with fail
            refine (isIndex_any _ _ _).mono ?_
            rw [H2.out]
            rintro e w1 ⟨rfl, rfl⟩
            go_wp2
            go_ret
            exact ⟨ret_bool E.out.symm, B.out⟩
      exact go _ rfl
/-- The closure of segmentJoining. -/
theorem joining1 (s : SegmentD) (a b : Int) (Ba Bb : Nat) (w : World) (ha : w.cell? ⟨Ba, 0, none⟩ = some (.int .i64 a)) (hb : w.cell? ⟨Bb, 0, none⟩ = some (.int .i64 b)) :
    Calls Try.prog 106 #[s.val, .pointer (some ⟨Ba, 0, none⟩), .pointer (some ⟨Bb, 0, none⟩)] w fun e w' => e = .returned (.bool (joinsB s a b)) ∧ Below w.heap.size w w' := by
  obtain ⟨sa, sb, sd, sm, se⟩ := s
  have B := Lib.hid (Joins.below_alloc1 w (.cells #[.int .i64 sa, .int .i64 sb, .int .i64 sd, .int .i64 sm, .bool se] 49))
  have E := Lib.hid (show joinsB ⟨sa, sb, sd, sm, se⟩ a b = ((sa == a && sb == b) || (sa == b && sb == a)) from rfl)
  rw [E.out]
  clear E
  have ya := (B.out.cell (p := ⟨Ba, 0, none⟩) (World.block_lt_of_cell? w _ ha)).trans ha
  have yb := (B.out.cell (p := ⟨Bb, 0, none⟩) (World.block_lt_of_cell? w _ hb)).trans hb
  clear ha hb
  cases h1 : (sa == a) <;> cases h2 : (sb == b) <;> cases h3 : (sa == b) <;> cases h4 : (sb == a)
  all_goals
    go_enter Try.func106, Try.ntmps106
    go_wp2
    go_ret
    exact ⟨rfl, B.out⟩
set_option maxHeartbeats 2000000 in
theorem indexFunc_any (v : Value) (l : List SegmentD) (a b : Int) (Ba Bb : Nat) (w : World) (h : SlSegment w v l) (ha : w.cell? ⟨Ba, 0, none⟩ = some (.int .i64 a)) (hb : w.cell? ⟨Bb, 0, none⟩ = some (.int .i64 b)) :
    Calls Try.prog 105 #[v, .func (.func 106) #[] #[.pointer (some ⟨Ba, 0, none⟩), .pointer (some ⟨Bb, 0, none⟩)]] w fun e w' => e = .returned (.int .i64 (firstI (fun s => joinsB s a b) l)) ∧ Below w.heap.size w w' := by
  have HS := Lib.hid h
  have hl := h.1
  obtain ⟨A1, c1, rfl⟩ := h.at
  have hla : Ba < w.heap.size := World.block_lt_of_cell? w _ ha
  have hlb : Bb < w.heap.size := World.block_lt_of_cell? w _ hb
  have HA := Lib.hid ha
  have HB := Lib.hid hb
  clear h ha hb
  go_enter Try.func105, Try.ntmps105
  go_wp2
  go_loopw [8] (fun i wr => ∃ k : Nat, k ≤ l.length ∧ i = .int .i64 k ∧ Hid (NoOne (fun s => joinsB s a b) l k) ∧ Hid (Below w.heap.size w wr)) (fun i _ => l.length - (intOf i).toNat)
  case atStart => exact ⟨0, Nat.zero_le _, rfl, Lib.hid (NoOne.zero _ _), Lib.hid (Below.refl _ _)⟩
  case round =>
    obtain ⟨k, hk, rfl, hN, hb⟩ := hrel
    by_cases hlt : k < l.length
    · obtain ⟨x, hx⟩ : ∃ x, l[k]? = some x := ⟨_, List.getElem?_eq_getElem hlt⟩
      rcases HS.out.2 with ⟨he, _⟩ | ⟨g, o, c, e, hpos, hcap, hc⟩
      · rw [he] at hlt; simp at hlt
      · injection e with hA _ hcp
        subst hA hcp
        obtain ⟨q0, q1, q2, q3, q4⟩ := SlSegment.cells hc k x hx
        have hg : g < w.heap.size := World.block_lt_of_cell? w ⟨g, o + k * 5, none⟩ q0
        have y0 := (hb.out.cell (p := ⟨g, o + k * 5, none⟩) hg).trans q0
        have y1 := (hb.out.cell (p := ⟨g, o + k * 5 + 1, none⟩) hg).trans q1
        have y2 := (hb.out.cell (p := ⟨g, o + k * 5 + 2, none⟩) hg).trans q2
        have y3 := (hb.out.cell (p := ⟨g, o + k * 5 + 3, none⟩) hg).trans q3
        have y4 := (hb.out.cell (p := ⟨g, o + k * 5 + 4, none⟩) hg).trans q4
        have YA := Lib.hid ((hb.out.cell (p := ⟨Ba, 0, none⟩) hla).trans HA.out)
        have YB := Lib.hid ((hb.out.cell (p := ⟨Bb, 0, none⟩) hlb).trans HB.out)
        have HX := Lib.hid hx
        clear q0 q1 q2 q3 q4 hx hc
        obtain ⟨t, ht⟩ : ∃ t, joinsB x a b = t := ⟨_, rfl⟩
        have HT := Lib.hid ht
        clear ht
        go_wp2_with fail
        refine (joining1 x a b Ba Bb _ YA.out YB.out).mono ?_
        rw [HT.out]
        rintro e w5 ⟨rfl, hb5⟩
        have hb6 := Lib.hid (hb.out.trans (hb5.mono hb.out.size))
        clear hb5 y0 y1 y2 y3 y4
        cases t with
        | true =>
          have E := Lib.hid (firstI_at hN.out HX.out HT.out)
          go_wp2
          go_ret
          exact ⟨ret_int E.out.symm, hb6.out⟩
        | false =>
          have N2 := Lib.hid (hN.out.next HX.out HT.out)
          go_wp2
          go_roundw
          case rel => exact ⟨k + 1, by omega, by go_num, N2, hb6⟩
          case measure => simp [intOf]; omega
    · obtain rfl : k = l.length := by omega
      have E := Lib.hid (firstI_none hN.out)
      go_wp2
      go_ret
      exact ⟨ret_int E.out.symm, hb.out⟩
theorem implJoining (v : Value) (l : List SegmentD) (a b : Int) (w : World) (h : SlSegment w v l) :
    Calls Try.prog 98 #[v, .int .i64 a, .int .i64 b] w fun e w' => e = .returned (.int .i64 (firstI (fun s => joinsB s a b) l)) ∧ Below w.heap.size w w' := by
  have B := Lib.hid (Joins.below_alloc2 w (.cells #[.int .i64 a] 3) (.cells #[.int .i64 b] 3))
  have HS := Lib.hid (SlSegment.below h B.out)
  obtain ⟨A1, c1, rfl⟩ := h.at
  have c0 : ((w.alloc (.cells #[.int .i64 a] 3)).alloc (.cells #[.int .i64 b] 3)).cell? ⟨w.heap.size, 0, none⟩ = some (.int .i64 a) := ((Blk.new w #[.int .i64 a] 3).below (Joins.below_alloc1 _ _)).cell 0
  have c1' : ((w.alloc (.cells #[.int .i64 a] 3)).alloc (.cells #[.int .i64 b] 3)).cell? ⟨w.heap.size + 1, 0, none⟩ = some (.int .i64 b) := by
    have := (Blk.new (w.alloc (.cells #[.int .i64 a] 3)) #[.int .i64 b] 3).cell 0
    rw [World.size_alloc] at this
    exact this
  have C0 := Lib.hid c0
  have C1 := Lib.hid c1'
  clear c0 c1' h
  go_enter Try.func98, Try.ntmps98
  go_wp2_with fail
  refine (indexFunc_any _ l a b _ _ _ HS.out C0.out C1.out).mono ?_
  rintro e w1 ⟨rfl, hb1⟩
  have B1 := Lib.hid (B.out.trans (hb1.mono B.out.size))
  clear hb1
  go_wp2
  go_ret
  exact ⟨rfl, B1.out⟩
end Go.Proofs.Ytpimcbhjkednpaa
namespace Go.Proofs.Ytpimcbhjkednpaa
open Go.RowKit
set_option maxRecDepth 100000
def shipB (d : ShipD) : Bool := nameB d.name && inB d.length 10 400 && inB d.draught 100 2000 && inB d.line 0 3 && inB d.tugs 0 4
theorem shipB_of {d : ShipD} {b0 b1 b2 b3 b4 : Bool} (h0 : nameB d.name = b0) (h1 : inB d.length 10 400 = b1) (h2 : inB d.draught 100 2000 = b2) (h3 : inB d.line 0 3 = b3) (h4 : inB d.tugs 0 4 = b4) : shipB d = (b0 && b1 && b2 && b3 && b4) := by unfold shipB; rw [h0, h1, h2, h3, h4]
theorem shipB_true {d : ShipD} (h : shipB d = true) : nameB d.name = true ∧ 10 ≤ d.length ∧ d.length ≤ 400 ∧ 100 ≤ d.draught ∧ d.draught ≤ 2000 ∧ 0 ≤ d.line ∧ d.line ≤ 3 ∧ 0 ≤ d.tugs ∧ d.tugs ≤ 4 := by
  unfold shipB inB at h
  simp only [Bool.and_eq_true, decide_eq_true_iff] at h
  obtain ⟨⟨⟨⟨h0, h1⟩, h2⟩, h3⟩, h4⟩ := h
  exact ⟨h0, h1.1, h1.2, h2.1, h2.2, h3.1, h3.2, h4.1, h4.2⟩
set_option maxHeartbeats 4000000 in
theorem specShipOk (d : ShipD) (w : World) (hw : d.wf) :
    Calls Try.prog 52 #[d.val] w fun e w' => e = .returned (.bool (shipB d)) ∧ Below w.heap.size w w' := by
  replace hw : d.name.size ≤ maxLen := hw.1
  obtain ⟨b0, h0⟩ : ∃ b, nameB d.name = b := ⟨_, rfl⟩
  obtain ⟨b1, h1⟩ : ∃ b, inB d.length 10 400 = b := ⟨_, rfl⟩
  obtain ⟨b2, h2⟩ : ∃ b, inB d.draught 100 2000 = b := ⟨_, rfl⟩
  obtain ⟨b3, h3⟩ : ∃ b, inB d.line 0 3 = b := ⟨_, rfl⟩
  obtain ⟨b4, h4⟩ : ∃ b, inB d.tugs 0 4 = b := ⟨_, rfl⟩
  rw [shipB_of h0 h1 h2 h3 h4]
  obtain ⟨na, le, dr, li, tu, sl⟩ := d
  dsimp only at h0 h1 h2 h3 h4 hw
  dsimp only [ShipD.val]
  have H0 := Lib.hid h0
  have H1 := Lib.hid h1
  have H2 := Lib.hid h2
  have H3 := Lib.hid h3
  have H4 := Lib.hid h4
  clear h0 h1 h2 h3 h4
  have B := Lib.hid (Joins.below_alloc1 w (.cells #[.string na, .int .i64 le, .int .i64 dr, .int .i64 li, .int .i64 tu, .bool sl] 36))

  cases b0 with
  | false =>
    rw [show (false && b1 && b2 && b3 && b4) = false by simp]
    go_enter Try.func52, Try.ntmps52
    go_wp2_with fail
    refine (specIsName na _ hw).mono ?_
    rw [H0.out]
    rintro e w1 ⟨rfl, rfl⟩
    go_wp2
    go_ret
    exact ⟨rfl, B.out⟩
  | true =>
    cases b1 with
    | false =>
      rw [show (true && false && b2 && b3 && b4) = false by simp]
      go_enter Try.func52, Try.ntmps52
      go_wp2_with fail
      refine (specIsName na _ hw).mono ?_
      rw [H0.out]
      rintro e w1 ⟨rfl, rfl⟩
      go_wp2_with fail
      refine (l01In_any _ _ _ _).mono ?_
      rw [H1.out]
      rintro e w2 ⟨rfl, rfl⟩
      go_wp2
      go_ret
      exact ⟨rfl, B.out⟩
    | true =>
      cases b2 with
      | false =>
        rw [show (true && true && false && b3 && b4) = false by simp]
        go_enter Try.func52, Try.ntmps52
        go_wp2_with fail
        refine (specIsName na _ hw).mono ?_
        rw [H0.out]
        rintro e w1 ⟨rfl, rfl⟩
        go_wp2_with fail
        refine (l01In_any _ _ _ _).mono ?_
        rw [H1.out]
        rintro e w2 ⟨rfl, rfl⟩
        go_wp2_with fail
        refine (l01In_any _ _ _ _).mono ?_
        rw [H2.out]
        rintro e w3 ⟨rfl, rfl⟩
        go_wp2
        go_ret
        exact ⟨rfl, B.out⟩
      | true =>
        cases b3 with
        | false =>
          rw [show (true && true && true && false && b4) = false by simp]
          go_enter Try.func52, Try.ntmps52
          go_wp2_with fail
          refine (specIsName na _ hw).mono ?_
          rw [H0.out]
          rintro e w1 ⟨rfl, rfl⟩
          go_wp2_with fail
          refine (l01In_any _ _ _ _).mono ?_
          rw [H1.out]
          rintro e w2 ⟨rfl, rfl⟩
          go_wp2_with fail
          refine (l01In_any _ _ _ _).mono ?_
          rw [H2.out]
          rintro e w3 ⟨rfl, rfl⟩
          go_wp2_with fail
          refine (l01In_any _ _ _ _).mono ?_
          rw [H3.out]
          rintro e w4 ⟨rfl, rfl⟩
          go_wp2
          go_ret
          exact ⟨rfl, B.out⟩
        | true =>
          cases b4 with
          | false =>
            rw [show (true && true && true && true && false) = false by simp]
            go_enter Try.func52, Try.ntmps52
            go_wp2_with fail
            refine (specIsName na _ hw).mono ?_
            rw [H0.out]
            rintro e w1 ⟨rfl, rfl⟩
            go_wp2_with fail
            refine (l01In_any _ _ _ _).mono ?_
            rw [H1.out]
            rintro e w2 ⟨rfl, rfl⟩
            go_wp2_with fail
            refine (l01In_any _ _ _ _).mono ?_
            rw [H2.out]
            rintro e w3 ⟨rfl, rfl⟩
            go_wp2_with fail
            refine (l01In_any _ _ _ _).mono ?_
            rw [H3.out]
            rintro e w4 ⟨rfl, rfl⟩
            go_wp2_with fail
            refine (l01In_any _ _ _ _).mono ?_
            rw [H4.out]
            rintro e w5 ⟨rfl, rfl⟩
            go_wp2
            go_ret
            exact ⟨rfl, B.out⟩
          | true =>
            rw [show (true && true && true && true && true) = true from rfl]
            go_enter Try.func52, Try.ntmps52
            go_wp2_with fail
            refine (specIsName na _ hw).mono ?_
            rw [H0.out]
            rintro e w1 ⟨rfl, rfl⟩
            go_wp2_with fail
            refine (l01In_any _ _ _ _).mono ?_
            rw [H1.out]
            rintro e w2 ⟨rfl, rfl⟩
            go_wp2_with fail
            refine (l01In_any _ _ _ _).mono ?_
            rw [H2.out]
            rintro e w3 ⟨rfl, rfl⟩
            go_wp2_with fail
            refine (l01In_any _ _ _ _).mono ?_
            rw [H3.out]
            rintro e w4 ⟨rfl, rfl⟩
            go_wp2_with fail
            refine (l01In_any _ _ _ _).mono ?_
            rw [H4.out]
            rintro e w5 ⟨rfl, rfl⟩
            go_wp2
            go_ret
            exact ⟨rfl, B.out⟩
set_option maxHeartbeats 4000000 in
theorem implShipOk (d : ShipD) (w : World) (hw : d.wf) :
    Calls Try.prog 40 #[d.val] w fun e w' => e = .returned (.bool (shipB d)) ∧ Below w.heap.size w w' := by
  replace hw : d.name.size ≤ maxLen := hw.1
  obtain ⟨b0, h0⟩ : ∃ b, nameB d.name = b := ⟨_, rfl⟩
  obtain ⟨b1, h1⟩ : ∃ b, inB d.length 10 400 = b := ⟨_, rfl⟩
  obtain ⟨b2, h2⟩ : ∃ b, inB d.draught 100 2000 = b := ⟨_, rfl⟩
  obtain ⟨b3, h3⟩ : ∃ b, inB d.line 0 3 = b := ⟨_, rfl⟩
  obtain ⟨b4, h4⟩ : ∃ b, inB d.tugs 0 4 = b := ⟨_, rfl⟩
  rw [shipB_of h0 h1 h2 h3 h4]
  obtain ⟨na, le, dr, li, tu, sl⟩ := d
  dsimp only at h0 h1 h2 h3 h4 hw
  dsimp only [ShipD.val]
  have H0 := Lib.hid h0
  have H1 := Lib.hid h1
  have H2 := Lib.hid h2
  have H3 := Lib.hid h3
  have H4 := Lib.hid h4
  clear h0 h1 h2 h3 h4
  have B := Lib.hid (Joins.below_alloc1 w (.cells #[.string na, .int .i64 le, .int .i64 dr, .int .i64 li, .int .i64 tu, .bool sl] 36))
  have K := Lib.hid (Blk.new w #[.string na, .int .i64 le, .int .i64 dr, .int .i64 li, .int .i64 tu, .bool sl] 36)

  cases b0 with
  | false =>
    rw [show (false && b1 && b2 && b3 && b4) = false by simp]
    go_enter Try.func40, Try.ntmps40
    go_wp2_with fail
    refine (implIsName na _ hw).mono ?_
    rw [H0.out]
    rintro e w1 ⟨rfl, hb1⟩
    have B1 := Lib.hid (B.out.trans (hb1.mono B.out.size))
    have K1 := K.out.below hb1
    have z1 := K1.cell 1
    have z2 := K1.cell 2
    have z3 := K1.cell 3
    have z4 := K1.cell 4
    simp at z1 z2 z3 z4
    clear hb1 K1
    go_wp2
    go_ret
    exact ⟨rfl, B1.out⟩
  | true =>
    cases b1 with
    | false =>
      rw [show (true && false && b2 && b3 && b4) = false by simp]
      have g1 : ¬ (10 ≤ le ∧ le ≤ 400) := by have := H1.out; unfold inB at this; exact of_decide_eq_false this
      by_cases l1 : 10 ≤ le
      · have u1 : decide (le ≤ 400) = false := decide_eq_false (by omega)
        clear g1
        go_enter Try.func40, Try.ntmps40
        go_wp2_with fail
        refine (implIsName na _ hw).mono ?_
        rw [H0.out]
        rintro e w1 ⟨rfl, hb1⟩
        have B1 := Lib.hid (B.out.trans (hb1.mono B.out.size))
        have K1 := K.out.below hb1
        have z1 := K1.cell 1
        have z2 := K1.cell 2
        have z3 := K1.cell 3
        have z4 := K1.cell 4
        simp at z1 z2 z3 z4
        clear hb1 K1
        go_wp2
        go_ret
        exact ⟨rfl, B1.out⟩
      · have u1 : decide (10 ≤ le) = false := decide_eq_false l1
        clear g1
        go_enter Try.func40, Try.ntmps40
        go_wp2_with fail
        refine (implIsName na _ hw).mono ?_
        rw [H0.out]
        rintro e w1 ⟨rfl, hb1⟩
        have B1 := Lib.hid (B.out.trans (hb1.mono B.out.size))
        have K1 := K.out.below hb1
        have z1 := K1.cell 1
        have z2 := K1.cell 2
        have z3 := K1.cell 3
        have z4 := K1.cell 4
        simp at z1 z2 z3 z4
        clear hb1 K1
        go_wp2
        go_ret
        exact ⟨rfl, B1.out⟩
    | true =>
      have g1 : 10 ≤ le ∧ le ≤ 400 := by have := H1.out; unfold inB at this; exact of_decide_eq_true this
      obtain ⟨l1, u1⟩ := g1
      cases b2 with
      | false =>
        rw [show (true && true && false && b3 && b4) = false by simp]
        have g2 : ¬ (100 ≤ dr ∧ dr ≤ 2000) := by have := H2.out; unfold inB at this; exact of_decide_eq_false this
        by_cases l2 : 100 ≤ dr
        · have u2 : decide (dr ≤ 2000) = false := decide_eq_false (by omega)
          clear g2
          go_enter Try.func40, Try.ntmps40
          go_wp2_with fail
          refine (implIsName na _ hw).mono ?_
          rw [H0.out]
          rintro e w1 ⟨rfl, hb1⟩
          have B1 := Lib.hid (B.out.trans (hb1.mono B.out.size))
          have K1 := K.out.below hb1
          have z1 := K1.cell 1
          have z2 := K1.cell 2
          have z3 := K1.cell 3
          have z4 := K1.cell 4
          simp at z1 z2 z3 z4
          clear hb1 K1
          go_wp2
          go_ret
          exact ⟨rfl, B1.out⟩
        · have u2 : decide (100 ≤ dr) = false := decide_eq_false l2
          clear g2
          go_enter Try.func40, Try.ntmps40
          go_wp2_with fail
          refine (implIsName na _ hw).mono ?_
          rw [H0.out]
          rintro e w1 ⟨rfl, hb1⟩
          have B1 := Lib.hid (B.out.trans (hb1.mono B.out.size))
          have K1 := K.out.below hb1
          have z1 := K1.cell 1
          have z2 := K1.cell 2
          have z3 := K1.cell 3
          have z4 := K1.cell 4
          simp at z1 z2 z3 z4
          clear hb1 K1
          go_wp2
          go_ret
          exact ⟨rfl, B1.out⟩
      | true =>
        have g2 : 100 ≤ dr ∧ dr ≤ 2000 := by have := H2.out; unfold inB at this; exact of_decide_eq_true this
        obtain ⟨l2, u2⟩ := g2
        cases b3 with
        | false =>
          rw [show (true && true && true && false && b4) = false by simp]
          go_enter Try.func40, Try.ntmps40
          go_wp2_with fail
          refine (implIsName na _ hw).mono ?_
          rw [H0.out]
          rintro e w1 ⟨rfl, hb1⟩
          have B1 := Lib.hid (B.out.trans (hb1.mono B.out.size))
          have K1 := K.out.below hb1
          have z1 := K1.cell 1
          have z2 := K1.cell 2
          have z3 := K1.cell 3
          have z4 := K1.cell 4
          simp at z1 z2 z3 z4
          clear hb1 K1
          go_wp2_with fail
          refine (isIndex_any _ 4 _).mono ?_
          rw [show inB li 0 (((4 : Nat) : Int) - 1) = inB li 0 3 from rfl, H3.out]
          rintro e w4 ⟨rfl, rfl⟩
          go_wp2
          go_ret
          exact ⟨rfl, B1.out⟩
        | true =>
          cases b4 with
          | false =>
            rw [show (true && true && true && true && false) = false by simp]
            have g4 : ¬ (0 ≤ tu ∧ tu ≤ 4) := by have := H4.out; unfold inB at this; exact of_decide_eq_false this
            by_cases l4 : 0 ≤ tu
            · have u4 : decide (tu ≤ 4) = false := decide_eq_false (by omega)
              clear g4
              go_enter Try.func40, Try.ntmps40
              go_wp2_with fail
              refine (implIsName na _ hw).mono ?_
              rw [H0.out]
              rintro e w1 ⟨rfl, hb1⟩
              have B1 := Lib.hid (B.out.trans (hb1.mono B.out.size))
              have K1 := K.out.below hb1
              have z1 := K1.cell 1
              have z2 := K1.cell 2
              have z3 := K1.cell 3
              have z4 := K1.cell 4
              simp at z1 z2 z3 z4
              clear hb1 K1
              go_wp2_with fail
              refine (isIndex_any _ 4 _).mono ?_
              rw [show inB li 0 (((4 : Nat) : Int) - 1) = inB li 0 3 from rfl, H3.out]
              rintro e w4 ⟨rfl, rfl⟩
              go_wp2
              go_ret
              exact ⟨rfl, B1.out⟩
            · have u4 : decide (0 ≤ tu) = false := decide_eq_false l4
              clear g4
              go_enter Try.func40, Try.ntmps40
              go_wp2_with fail
              refine (implIsName na _ hw).mono ?_
              rw [H0.out]
              rintro e w1 ⟨rfl, hb1⟩
              have B1 := Lib.hid (B.out.trans (hb1.mono B.out.size))
              have K1 := K.out.below hb1
              have z1 := K1.cell 1
              have z2 := K1.cell 2
              have z3 := K1.cell 3
              have z4 := K1.cell 4
              simp at z1 z2 z3 z4
              clear hb1 K1
              go_wp2_with fail
              refine (isIndex_any _ 4 _).mono ?_
              rw [show inB li 0 (((4 : Nat) : Int) - 1) = inB li 0 3 from rfl, H3.out]
              rintro e w4 ⟨rfl, rfl⟩
              go_wp2
              go_ret
              exact ⟨rfl, B1.out⟩
          | true =>
            have g4 : 0 ≤ tu ∧ tu ≤ 4 := by have := H4.out; unfold inB at this; exact of_decide_eq_true this
            obtain ⟨l4, u4⟩ := g4
            rw [show (true && true && true && true && true) = true from rfl]
            go_enter Try.func40, Try.ntmps40
            go_wp2_with fail
            refine (implIsName na _ hw).mono ?_
            rw [H0.out]
            rintro e w1 ⟨rfl, hb1⟩
            have B1 := Lib.hid (B.out.trans (hb1.mono B.out.size))
            have K1 := K.out.below hb1
            have z1 := K1.cell 1
            have z2 := K1.cell 2
            have z3 := K1.cell 3
            have z4 := K1.cell 4
            simp at z1 z2 z3 z4
            clear hb1 K1
            go_wp2_with fail
            refine (isIndex_any _ 4 _).mono ?_
            rw [show inB li 0 (((4 : Nat) : Int) - 1) = inB li 0 3 from rfl, H3.out]
            rintro e w4 ⟨rfl, rfl⟩
            go_wp2
            go_ret
            exact ⟨rfl, B1.out⟩
end Go.Proofs.Ytpimcbhjkednpaa
namespace Go.Proofs.Ytpimcbhjkednpaa
set_option maxRecDepth 100000
def squatI (d : ShipD) : Int := if shipB d = true then (if d.slow = true then d.draught.tdiv 50 else d.draught.tdiv 20) else 0
end Go.Proofs.Ytpimcbhjkednpaa
