
/- What ExactSureStarts and ExactOpenStarts and ExactIsSure and ExactIsOpenStart and ExactDraughtFor rests on, part 4: contracts and mathematics. -/
import Derived.Test.YtpimcbhjkednpaaGreatSt3
import Derived.Test.YtpimcbhjkednpaaGreatSt0
import Derived.Test.YtpimcbhjkednpaaGreatSt1
import Derived.StillTailTactics
import Derived.BigQuiet
import Derived.Maps.OwnSet
import Derived.Maps.RangeWalk
import Derived.Maps.OwnIn
import Derived.RangeFuncNested
import Derived.RangeFuncBound
import Derived.RangeFuncCalls
import Derived.RangeFuncLeaves
import Derived.Shelf.Abstract
import Derived.Shelf.RegionOpen
import Derived.WalkKit
import Derived.OwnWalkIn
import Derived.TacticsInMore
import Derived.LoopNIn
import Derived.LoopIn
import Derived.Maps.AppendAt
namespace Go.Proofs.YtpimcbhjkednpaaGreat
open Go.RowKit
set_option maxRecDepth 100000
theorem isIndex_any (i : Int) (n : Nat) (w : World) : Calls Tryz.prog 94 #[.int .i64 i, .int .i64 (n : Int)] w fun e w' => e = .returned (.bool (inB i 0 ((n : Int) - 1))) ∧ w = w' := by
  by_cases h1 : 0 ≤ i
  · by_cases h2 : i < (n : Int)
    · have H := Lib.hid (inB_mk h1 (show i ≤ (n : Int) - 1 by omega))
      go_enter Tryz.func94, Tryz.ntmps94
      go_wp2
      go_ret
      exact ⟨ret_bool H.out.symm, rfl⟩
    · have H := Lib.hid (inB_no (x := i) (lo := 0) (hi := (n : Int) - 1) (.inr (by omega)))
      have h3 : decide (i < (n : Int)) = false := decide_eq_false h2
      go_enter Tryz.func94, Tryz.ntmps94
      go_wp2
      go_ret
      exact ⟨ret_bool H.out.symm, rfl⟩
  · have H := Lib.hid (inB_no (x := i) (lo := 0) (hi := (n : Int) - 1) (.inl (by omega)))
    have h3 : decide (0 ≤ i) = false := decide_eq_false h1
    go_enter Tryz.func94, Tryz.ntmps94
    go_wp2
    go_ret
    exact ⟨ret_bool H.out.symm, rfl⟩
set_option maxHeartbeats 2000000 in
theorem implSegmentOk (s : SegmentD) (n : Nat) (w : World) :
    Calls Tryz.prog 121 #[s.val, .int .i64 (n : Int)] w fun e w' => e = .returned (.bool (segB n s)) ∧ Below w.heap.size w w' := by
  obtain ⟨sa, sb, sd, sm, se⟩ := s
  have B := Lib.hid (Joins.below_alloc1 w (.cells #[.int .i64 sa, .int .i64 sb, .int .i64 sd, .int .i64 sm, .bool se] 108))
  have E0 := Lib.hid (show segB n ⟨sa, sb, sd, sm, se⟩ = (inB sa 0 ((n : Int) - 1) && inB sb 0 ((n : Int) - 1) && !(sa == sb) && decide (0 ≤ sd ∧ sd ≤ 3000) && decide (1 ≤ sm ∧ sm ≤ 240)) from rfl)
  rw [E0.out]
  clear E0
  cases h1 : inB sa 0 ((n : Int) - 1) with
  | false =>
    have H1 := Lib.hid h1
    clear h1
    go_enter Tryz.func121, Tryz.ntmps121
    go_wp2_with fail
    refine (isIndex_any _ _ _).mono ?_
    rw [H1.out]
    rintro e w1 ⟨rfl, rfl⟩
    go_wp2
    go_ret
    exact ⟨rfl, B.out⟩
  | true =>
    have H1 := Lib.hid h1
    clear h1
    cases h2 : inB sb 0 ((n : Int) - 1) with
    | false =>
      have H2 := Lib.hid h2
      clear h2
      go_enter Tryz.func121, Tryz.ntmps121
      go_wp2_with fail
      refine (isIndex_any _ _ _).mono ?_
      rw [H1.out]
      rintro e w1 ⟨rfl, rfl⟩
      go_wp2_with fail
      refine (isIndex_any _ _ _).mono ?_
      rw [H2.out]
      rintro e w1 ⟨rfl, rfl⟩
      go_wp2
      go_ret
      exact ⟨rfl, B.out⟩
    | true =>
      have H2 := Lib.hid h2
      clear h2
      have go : ∀ r : Bool, r = (!(sa == sb) && decide (0 ≤ sd ∧ sd ≤ 3000) && decide (1 ≤ sm ∧ sm ≤ 240)) → Calls Tryz.prog 121 #[.agg #[.int .i64 sa, .int .i64 sb, .int .i64 sd, .int .i64 sm, .bool se], .int .i64 (n : Int)] w fun e w' => e = .returned (.bool r) ∧ Below w.heap.size w w' := by
        intro r hr
        have HR := Lib.hid hr
        clear hr
        cases h3 : (sa == sb) with
        | true =>
          have E := Lib.hid (show r = false by rw [HR.out, h3]; rfl)
          have h3' : (sa != sb) = false := by rw [bne, h3]; rfl
          clear HR
          go_enter Tryz.func121, Tryz.ntmps121
          go_wp2_with fail
          refine (isIndex_any _ _ _).mono ?_
          rw [H1.out]
          rintro e w1 ⟨rfl, rfl⟩
          go_wp2_with fail
          refine (isIndex_any _ _ _).mono ?_
          rw [H2.out]
          rintro e w1 ⟨rfl, rfl⟩
          go_wp2
          go_ret
          exact ⟨ret_bool E.out.symm, B.out⟩
        | false =>
          have h3' : (sa != sb) = true := by rw [bne, h3]; rfl
          by_cases h4 : 0 ≤ sd
          · by_cases h5 : sd ≤ 3000
            · by_cases h6 : 1 ≤ sm
              · by_cases h7 : sm ≤ 240
                · have E := Lib.hid (show r = true by rw [HR.out, h3, decide_eq_true ⟨h4, h5⟩, decide_eq_true ⟨h6, h7⟩]; rfl)
                  clear HR
                  go_enter Tryz.func121, Tryz.ntmps121
                  go_wp2_with fail
                  refine (isIndex_any _ _ _).mono ?_
                  rw [H1.out]
                  rintro e w1 ⟨rfl, rfl⟩
                  go_wp2_with fail
                  refine (isIndex_any _ _ _).mono ?_
                  rw [H2.out]
                  rintro e w1 ⟨rfl, rfl⟩
                  go_wp2
                  go_ret
                  exact ⟨ret_bool E.out.symm, B.out⟩
                · have E := Lib.hid (show r = false by rw [HR.out, decide_eq_false (p := 1 ≤ sm ∧ sm ≤ 240) (by omega)]; simp)
                  have h8 : decide (sm ≤ 240) = false := decide_eq_false h7
                  clear HR
                  go_enter Tryz.func121, Tryz.ntmps121
                  go_wp2_with fail
                  refine (isIndex_any _ _ _).mono ?_
                  rw [H1.out]
                  rintro e w1 ⟨rfl, rfl⟩
                  go_wp2_with fail
                  refine (isIndex_any _ _ _).mono ?_
                  rw [H2.out]
                  rintro e w1 ⟨rfl, rfl⟩
                  go_wp2
                  go_ret
                  exact ⟨ret_bool E.out.symm, B.out⟩
              · have E := Lib.hid (show r = false by rw [HR.out, decide_eq_false (p := 1 ≤ sm ∧ sm ≤ 240) (by omega)]; simp)
                have h8 : decide (1 ≤ sm) = false := decide_eq_false h6
                clear HR
                go_enter Tryz.func121, Tryz.ntmps121
                go_wp2_with fail
                refine (isIndex_any _ _ _).mono ?_
                rw [H1.out]
                rintro e w1 ⟨rfl, rfl⟩
                go_wp2_with fail
                refine (isIndex_any _ _ _).mono ?_
                rw [H2.out]
                rintro e w1 ⟨rfl, rfl⟩
                go_wp2
                go_ret
                exact ⟨ret_bool E.out.symm, B.out⟩
            · have E := Lib.hid (show r = false by rw [HR.out, decide_eq_false (p := 0 ≤ sd ∧ sd ≤ 3000) (by omega)]; simp)
              have h8 : decide (sd ≤ 3000) = false := decide_eq_false h5
              clear HR
              go_enter Tryz.func121, Tryz.ntmps121
              go_wp2_with fail
              refine (isIndex_any _ _ _).mono ?_
              rw [H1.out]
              rintro e w1 ⟨rfl, rfl⟩
              go_wp2_with fail
              refine (isIndex_any _ _ _).mono ?_
              rw [H2.out]
              rintro e w1 ⟨rfl, rfl⟩
              go_wp2
              go_ret
              exact ⟨ret_bool E.out.symm, B.out⟩
          · have E := Lib.hid (show r = false by rw [HR.out, decide_eq_false (p := 0 ≤ sd ∧ sd ≤ 3000) (by omega)]; simp)
            have h8 : decide (0 ≤ sd) = false := decide_eq_false h4
            clear HR
            go_enter Tryz.func121, Tryz.ntmps121
            go_wp2_with fail
            refine (isIndex_any _ _ _).mono ?_
            rw [H1.out]
            rintro e w1 ⟨rfl, rfl⟩
            go_wp2_with fail
            refine (isIndex_any _ _ _).mono ?_
            rw [H2.out]
            rintro e w1 ⟨rfl, rfl⟩
            go_wp2
            go_ret
            exact ⟨ret_bool E.out.symm, B.out⟩
      exact go _ rfl
/-- The closure of segmentJoining. -/
theorem joining1 (s : SegmentD) (a b : Int) (Ba Bb : Nat) (w : World) (ha : w.cell? ⟨Ba, 0, none⟩ = some (.int .i64 a)) (hb : w.cell? ⟨Bb, 0, none⟩ = some (.int .i64 b)) :
    Calls Tryz.prog 129 #[s.val, .pointer (some ⟨Ba, 0, none⟩), .pointer (some ⟨Bb, 0, none⟩)] w fun e w' => e = .returned (.bool (joinsB s a b)) ∧ Below w.heap.size w w' := by
  obtain ⟨sa, sb, sd, sm, se⟩ := s
  have B := Lib.hid (Joins.below_alloc1 w (.cells #[.int .i64 sa, .int .i64 sb, .int .i64 sd, .int .i64 sm, .bool se] 108))
  have E := Lib.hid (show joinsB ⟨sa, sb, sd, sm, se⟩ a b = ((sa == a && sb == b) || (sa == b && sb == a)) from rfl)
  rw [E.out]
  clear E
  have ya := (B.out.cell (p := ⟨Ba, 0, none⟩) (World.block_lt_of_cell? w _ ha)).trans ha
  have yb := (B.out.cell (p := ⟨Bb, 0, none⟩) (World.block_lt_of_cell? w _ hb)).trans hb
  clear ha hb
  cases h1 : (sa == a) <;> cases h2 : (sb == b) <;> cases h3 : (sa == b) <;> cases h4 : (sb == a)
  all_goals
    go_enter Tryz.func129, Tryz.ntmps129
    go_wp2
    go_ret
    exact ⟨rfl, B.out⟩
set_option maxHeartbeats 2000000 in
theorem indexFunc_any (v : Value) (l : List SegmentD) (a b : Int) (Ba Bb : Nat) (w : World) (h : SlSegment w v l) (ha : w.cell? ⟨Ba, 0, none⟩ = some (.int .i64 a)) (hb : w.cell? ⟨Bb, 0, none⟩ = some (.int .i64 b)) :
    Calls Tryz.prog 128 #[v, .func (.func 129) #[] #[.pointer (some ⟨Ba, 0, none⟩), .pointer (some ⟨Bb, 0, none⟩)]] w fun e w' => e = .returned (.int .i64 (firstI (fun s => joinsB s a b) l)) ∧ Below w.heap.size w w' := by
  have HS := Lib.hid h
  have hl := h.1
  obtain ⟨A1, c1, rfl⟩ := h.at
  have hla : Ba < w.heap.size := World.block_lt_of_cell? w _ ha
  have hlb : Bb < w.heap.size := World.block_lt_of_cell? w _ hb
  have HA := Lib.hid ha
  have HB := Lib.hid hb
  clear h ha hb
  go_enter Tryz.func128, Tryz.ntmps128
  go_wp2
  go_loopw [8] (fun i wr => ∃ k : Nat, k ≤ l.length ∧ i = .int .i64 k ∧ Hid (NoOne (fun s => joinsB s a b) l k) ∧ Hid (Below w.heap.size w wr)) (fun i _ => l.length - (intOf i).toNat)
  case atStart => exact ⟨0, Nat.zero_le _, rfl, Lib.hid (NoOne.zero _ _), Lib.hid (Below.refl _ _)⟩
  case round =>
    obtain ⟨k, hk, rfl, hN, hb⟩ := hrel
    by_cases hlt : k < l.length
    · obtain ⟨x, hx⟩ : ∃ x, l[k]? = some x := ⟨_, List.getElem?_eq_getElem hlt⟩
      rcases HS.out.2 with ⟨he, _⟩ | ⟨g, o, c, e, hpos, hcap, hc⟩
      · rw [he] at hlt; simp at hlt
      · injection e with hA _ hcp
        subst hA hcp
        obtain ⟨q0, q1, q2, q3, q4⟩ := SlSegment.cells hc k x hx
        have hg : g < w.heap.size := World.block_lt_of_cell? w ⟨g, o + k * 5, none⟩ q0
        have y0 := (hb.out.cell (p := ⟨g, o + k * 5, none⟩) hg).trans q0
        have y1 := (hb.out.cell (p := ⟨g, o + k * 5 + 1, none⟩) hg).trans q1
        have y2 := (hb.out.cell (p := ⟨g, o + k * 5 + 2, none⟩) hg).trans q2
        have y3 := (hb.out.cell (p := ⟨g, o + k * 5 + 3, none⟩) hg).trans q3
        have y4 := (hb.out.cell (p := ⟨g, o + k * 5 + 4, none⟩) hg).trans q4
        have YA := Lib.hid ((hb.out.cell (p := ⟨Ba, 0, none⟩) hla).trans HA.out)
        have YB := Lib.hid ((hb.out.cell (p := ⟨Bb, 0, none⟩) hlb).trans HB.out)
        have HX := Lib.hid hx
        clear q0 q1 q2 q3 q4 hx hc
        obtain ⟨t, ht⟩ : ∃ t, joinsB x a b = t := ⟨_, rfl⟩
        have HT := Lib.hid ht
        clear ht
        go_wp2_with fail
        refine (joining1 x a b Ba Bb _ YA.out YB.out).mono ?_
        rw [HT.out]
        rintro e w5 ⟨rfl, hb5⟩
        have hb6 := Lib.hid (hb.out.trans (hb5.mono hb.out.size))
        clear hb5 y0 y1 y2 y3 y4
        cases t with
        | true =>
          have E := Lib.hid (firstI_at hN.out HX.out HT.out)
          go_wp2
          go_ret
          exact ⟨ret_int E.out.symm, hb6.out⟩
        | false =>
          have N2 := Lib.hid (hN.out.next HX.out HT.out)
          go_wp2
          go_roundw
          case rel => exact ⟨k + 1, by omega, by go_num, N2, hb6⟩
          case measure => simp [intOf]; omega
    · obtain rfl : k = l.length := by omega
      have E := Lib.hid (firstI_none hN.out)
      go_wp2
      go_ret
      exact ⟨ret_int E.out.symm, hb.out⟩
theorem implJoining (v : Value) (l : List SegmentD) (a b : Int) (w : World) (h : SlSegment w v l) :
    Calls Tryz.prog 122 #[v, .int .i64 a, .int .i64 b] w fun e w' => e = .returned (.int .i64 (firstI (fun s => joinsB s a b) l)) ∧ Below w.heap.size w w' := by
  have B := Lib.hid (Joins.below_alloc2 w (.cells #[.int .i64 a] 3) (.cells #[.int .i64 b] 3))
  have HS := Lib.hid (SlSegment.below h B.out)
  obtain ⟨A1, c1, rfl⟩ := h.at
  have c0 : ((w.alloc (.cells #[.int .i64 a] 3)).alloc (.cells #[.int .i64 b] 3)).cell? ⟨w.heap.size, 0, none⟩ = some (.int .i64 a) := ((Blk.new w #[.int .i64 a] 3).below (Joins.below_alloc1 _ _)).cell 0
  have c1' : ((w.alloc (.cells #[.int .i64 a] 3)).alloc (.cells #[.int .i64 b] 3)).cell? ⟨w.heap.size + 1, 0, none⟩ = some (.int .i64 b) := by
    have := (Blk.new (w.alloc (.cells #[.int .i64 a] 3)) #[.int .i64 b] 3).cell 0
    rw [World.size_alloc] at this
    exact this
  have C0 := Lib.hid c0
  have C1 := Lib.hid c1'
  clear c0 c1' h
  go_enter Tryz.func122, Tryz.ntmps122
  go_wp2_with fail
  refine (indexFunc_any _ l a b _ _ _ HS.out C0.out C1.out).mono ?_
  rintro e w1 ⟨rfl, hb1⟩
  have B1 := Lib.hid (B.out.trans (hb1.mono B.out.size))
  clear hb1
  go_wp2
  go_ret
  exact ⟨rfl, B1.out⟩
end Go.Proofs.YtpimcbhjkednpaaGreat
namespace Go.Proofs.YtpimcbhjkednpaaGreat
open Go.RowKit
set_option maxRecDepth 100000
def shipB (d : ShipD) : Bool := nameB d.name && inB d.length 10 400 && inB d.draught 100 2000 && inB d.line 0 3 && inB d.tugs 0 4
theorem shipB_of {d : ShipD} {b0 b1 b2 b3 b4 : Bool} (h0 : nameB d.name = b0) (h1 : inB d.length 10 400 = b1) (h2 : inB d.draught 100 2000 = b2) (h3 : inB d.line 0 3 = b3) (h4 : inB d.tugs 0 4 = b4) : shipB d = (b0 && b1 && b2 && b3 && b4) := by unfold shipB; rw [h0, h1, h2, h3, h4]
theorem shipB_true {d : ShipD} (h : shipB d = true) : nameB d.name = true ∧ 10 ≤ d.length ∧ d.length ≤ 400 ∧ 100 ≤ d.draught ∧ d.draught ≤ 2000 ∧ 0 ≤ d.line ∧ d.line ≤ 3 ∧ 0 ≤ d.tugs ∧ d.tugs ≤ 4 := by
  unfold shipB inB at h
  simp only [Bool.and_eq_true, decide_eq_true_iff] at h
  obtain ⟨⟨⟨⟨h0, h1⟩, h2⟩, h3⟩, h4⟩ := h
  exact ⟨h0, h1.1, h1.2, h2.1, h2.2, h3.1, h3.2, h4.1, h4.2⟩
set_option maxHeartbeats 4000000 in
theorem specShipOk (d : ShipD) (w : World) (hw : d.wf) :
    Calls Tryz.prog 88 #[d.val] w fun e w' => e = .returned (.bool (shipB d)) ∧ Below w.heap.size w w' := by
  replace hw : d.name.size ≤ maxLen := hw.1
  obtain ⟨b0, h0⟩ : ∃ b, nameB d.name = b := ⟨_, rfl⟩
  obtain ⟨b1, h1⟩ : ∃ b, inB d.length 10 400 = b := ⟨_, rfl⟩
  obtain ⟨b2, h2⟩ : ∃ b, inB d.draught 100 2000 = b := ⟨_, rfl⟩
  obtain ⟨b3, h3⟩ : ∃ b, inB d.line 0 3 = b := ⟨_, rfl⟩
  obtain ⟨b4, h4⟩ : ∃ b, inB d.tugs 0 4 = b := ⟨_, rfl⟩
  rw [shipB_of h0 h1 h2 h3 h4]
  obtain ⟨na, le, dr, li, tu, sl⟩ := d
  dsimp only at h0 h1 h2 h3 h4 hw
  dsimp only [ShipD.val]
  have H0 := Lib.hid h0
  have H1 := Lib.hid h1
  have H2 := Lib.hid h2
  have H3 := Lib.hid h3
  have H4 := Lib.hid h4
  clear h0 h1 h2 h3 h4
  have B := Lib.hid (Joins.below_alloc1 w (.cells #[.string na, .int .i64 le, .int .i64 dr, .int .i64 li, .int .i64 tu, .bool sl] 51))

  cases b0 with
  | false =>
    rw [show (false && b1 && b2 && b3 && b4) = false by simp]
    go_enter Tryz.func88, Tryz.ntmps88
    go_wp2_with fail
    refine (specIsName na _ hw).mono ?_
    rw [H0.out]
    rintro e w1 ⟨rfl, rfl⟩
    go_wp2
    go_ret
    exact ⟨rfl, B.out⟩
  | true =>
    cases b1 with
    | false =>
      rw [show (true && false && b2 && b3 && b4) = false by simp]
      go_enter Tryz.func88, Tryz.ntmps88
      go_wp2_with fail
      refine (specIsName na _ hw).mono ?_
      rw [H0.out]
      rintro e w1 ⟨rfl, rfl⟩
      go_wp2_with fail
      refine (l01In_any _ _ _ _).mono ?_
      rw [H1.out]
      rintro e w2 ⟨rfl, rfl⟩
      go_wp2
      go_ret
      exact ⟨rfl, B.out⟩
    | true =>
      cases b2 with
      | false =>
        rw [show (true && true && false && b3 && b4) = false by simp]
        go_enter Tryz.func88, Tryz.ntmps88
        go_wp2_with fail
        refine (specIsName na _ hw).mono ?_
        rw [H0.out]
        rintro e w1 ⟨rfl, rfl⟩
        go_wp2_with fail
        refine (l01In_any _ _ _ _).mono ?_
        rw [H1.out]
        rintro e w2 ⟨rfl, rfl⟩
        go_wp2_with fail
        refine (l01In_any _ _ _ _).mono ?_
        rw [H2.out]
        rintro e w3 ⟨rfl, rfl⟩
        go_wp2
        go_ret
        exact ⟨rfl, B.out⟩
      | true =>
        cases b3 with
        | false =>
          rw [show (true && true && true && false && b4) = false by simp]
          go_enter Tryz.func88, Tryz.ntmps88
          go_wp2_with fail
          refine (specIsName na _ hw).mono ?_
          rw [H0.out]
          rintro e w1 ⟨rfl, rfl⟩
          go_wp2_with fail
          refine (l01In_any _ _ _ _).mono ?_
          rw [H1.out]
          rintro e w2 ⟨rfl, rfl⟩
          go_wp2_with fail
          refine (l01In_any _ _ _ _).mono ?_
          rw [H2.out]
          rintro e w3 ⟨rfl, rfl⟩
          go_wp2_with fail
          refine (l01In_any _ _ _ _).mono ?_
          rw [H3.out]
          rintro e w4 ⟨rfl, rfl⟩
          go_wp2
          go_ret
          exact ⟨rfl, B.out⟩
        | true =>
          cases b4 with
          | false =>
            rw [show (true && true && true && true && false) = false by simp]
            go_enter Tryz.func88, Tryz.ntmps88
            go_wp2_with fail
            refine (specIsName na _ hw).mono ?_
            rw [H0.out]
            rintro e w1 ⟨rfl, rfl⟩
            go_wp2_with fail
            refine (l01In_any _ _ _ _).mono ?_
            rw [H1.out]
            rintro e w2 ⟨rfl, rfl⟩
            go_wp2_with fail
            refine (l01In_any _ _ _ _).mono ?_
            rw [H2.out]
            rintro e w3 ⟨rfl, rfl⟩
            go_wp2_with fail
            refine (l01In_any _ _ _ _).mono ?_
            rw [H3.out]
            rintro e w4 ⟨rfl, rfl⟩
            go_wp2_with fail
            refine (l01In_any _ _ _ _).mono ?_
            rw [H4.out]
            rintro e w5 ⟨rfl, rfl⟩
            go_wp2
            go_ret
            exact ⟨rfl, B.out⟩
          | true =>
            rw [show (true && true && true && true && true) = true from rfl]
            go_enter Tryz.func88, Tryz.ntmps88
            go_wp2_with fail
            refine (specIsName na _ hw).mono ?_
            rw [H0.out]
            rintro e w1 ⟨rfl, rfl⟩
            go_wp2_with fail
            refine (l01In_any _ _ _ _).mono ?_
            rw [H1.out]
            rintro e w2 ⟨rfl, rfl⟩
            go_wp2_with fail
            refine (l01In_any _ _ _ _).mono ?_
            rw [H2.out]
            rintro e w3 ⟨rfl, rfl⟩
            go_wp2_with fail
            refine (l01In_any _ _ _ _).mono ?_
            rw [H3.out]
            rintro e w4 ⟨rfl, rfl⟩
            go_wp2_with fail
            refine (l01In_any _ _ _ _).mono ?_
            rw [H4.out]
            rintro e w5 ⟨rfl, rfl⟩
            go_wp2
            go_ret
            exact ⟨rfl, B.out⟩
set_option maxHeartbeats 4000000 in
theorem implShipOk (d : ShipD) (w : World) (hw : d.wf) :
    Calls Tryz.prog 60 #[d.val] w fun e w' => e = .returned (.bool (shipB d)) ∧ Below w.heap.size w w' := by
  replace hw : d.name.size ≤ maxLen := hw.1
  obtain ⟨b0, h0⟩ : ∃ b, nameB d.name = b := ⟨_, rfl⟩
  obtain ⟨b1, h1⟩ : ∃ b, inB d.length 10 400 = b := ⟨_, rfl⟩
  obtain ⟨b2, h2⟩ : ∃ b, inB d.draught 100 2000 = b := ⟨_, rfl⟩
  obtain ⟨b3, h3⟩ : ∃ b, inB d.line 0 3 = b := ⟨_, rfl⟩
  obtain ⟨b4, h4⟩ : ∃ b, inB d.tugs 0 4 = b := ⟨_, rfl⟩
  rw [shipB_of h0 h1 h2 h3 h4]
  obtain ⟨na, le, dr, li, tu, sl⟩ := d
  dsimp only at h0 h1 h2 h3 h4 hw
  dsimp only [ShipD.val]
  have H0 := Lib.hid h0
  have H1 := Lib.hid h1
  have H2 := Lib.hid h2
  have H3 := Lib.hid h3
  have H4 := Lib.hid h4
  clear h0 h1 h2 h3 h4
  have B := Lib.hid (Joins.below_alloc1 w (.cells #[.string na, .int .i64 le, .int .i64 dr, .int .i64 li, .int .i64 tu, .bool sl] 51))
  have K := Lib.hid (Blk.new w #[.string na, .int .i64 le, .int .i64 dr, .int .i64 li, .int .i64 tu, .bool sl] 51)

  cases b0 with
  | false =>
    rw [show (false && b1 && b2 && b3 && b4) = false by simp]
    go_enter Tryz.func60, Tryz.ntmps60
    go_wp2_with fail
    refine (implIsName na _ hw).mono ?_
    rw [H0.out]
    rintro e w1 ⟨rfl, hb1⟩
    have B1 := Lib.hid (B.out.trans (hb1.mono B.out.size))
    have K1 := K.out.below hb1
    have z1 := K1.cell 1
    have z2 := K1.cell 2
    have z3 := K1.cell 3
    have z4 := K1.cell 4
    simp at z1 z2 z3 z4
    clear hb1 K1
    go_wp2
    go_ret
    exact ⟨rfl, B1.out⟩
  | true =>
    cases b1 with
    | false =>
      rw [show (true && false && b2 && b3 && b4) = false by simp]
      have g1 : ¬ (10 ≤ le ∧ le ≤ 400) := by have := H1.out; unfold inB at this; exact of_decide_eq_false this
      by_cases l1 : 10 ≤ le
      · have u1 : decide (le ≤ 400) = false := decide_eq_false (by omega)
        clear g1
        go_enter Tryz.func60, Tryz.ntmps60
        go_wp2_with fail
        refine (implIsName na _ hw).mono ?_
        rw [H0.out]
        rintro e w1 ⟨rfl, hb1⟩
        have B1 := Lib.hid (B.out.trans (hb1.mono B.out.size))
        have K1 := K.out.below hb1
        have z1 := K1.cell 1
        have z2 := K1.cell 2
        have z3 := K1.cell 3
        have z4 := K1.cell 4
        simp at z1 z2 z3 z4
        clear hb1 K1
        go_wp2
        go_ret
        exact ⟨rfl, B1.out⟩
      · have u1 : decide (10 ≤ le) = false := decide_eq_false l1
        clear g1
        go_enter Tryz.func60, Tryz.ntmps60
        go_wp2_with fail
        refine (implIsName na _ hw).mono ?_
        rw [H0.out]
        rintro e w1 ⟨rfl, hb1⟩
        have B1 := Lib.hid (B.out.trans (hb1.mono B.out.size))
        have K1 := K.out.below hb1
        have z1 := K1.cell 1
        have z2 := K1.cell 2
        have z3 := K1.cell 3
        have z4 := K1.cell 4
        simp at z1 z2 z3 z4
        clear hb1 K1
        go_wp2
        go_ret
        exact ⟨rfl, B1.out⟩
    | true =>
      have g1 : 10 ≤ le ∧ le ≤ 400 := by have := H1.out; unfold inB at this; exact of_decide_eq_true this
      obtain ⟨l1, u1⟩ := g1
      cases b2 with
      | false =>
        rw [show (true && true && false && b3 && b4) = false by simp]
        have g2 : ¬ (100 ≤ dr ∧ dr ≤ 2000) := by have := H2.out; unfold inB at this; exact of_decide_eq_false this
        by_cases l2 : 100 ≤ dr
        · have u2 : decide (dr ≤ 2000) = false := decide_eq_false (by omega)
          clear g2
          go_enter Tryz.func60, Tryz.ntmps60
          go_wp2_with fail
          refine (implIsName na _ hw).mono ?_
          rw [H0.out]
          rintro e w1 ⟨rfl, hb1⟩
          have B1 := Lib.hid (B.out.trans (hb1.mono B.out.size))
          have K1 := K.out.below hb1
          have z1 := K1.cell 1
          have z2 := K1.cell 2
          have z3 := K1.cell 3
          have z4 := K1.cell 4
          simp at z1 z2 z3 z4
          clear hb1 K1
          go_wp2
          go_ret
          exact ⟨rfl, B1.out⟩
        · have u2 : decide (100 ≤ dr) = false := decide_eq_false l2
          clear g2
          go_enter Tryz.func60, Tryz.ntmps60
          go_wp2_with fail
          refine (implIsName na _ hw).mono ?_
          rw [H0.out]
          rintro e w1 ⟨rfl, hb1⟩
          have B1 := Lib.hid (B.out.trans (hb1.mono B.out.size))
          have K1 := K.out.below hb1
          have z1 := K1.cell 1
          have z2 := K1.cell 2
          have z3 := K1.cell 3
          have z4 := K1.cell 4
          simp at z1 z2 z3 z4
          clear hb1 K1
          go_wp2
          go_ret
          exact ⟨rfl, B1.out⟩
      | true =>
        have g2 : 100 ≤ dr ∧ dr ≤ 2000 := by have := H2.out; unfold inB at this; exact of_decide_eq_true this
        obtain ⟨l2, u2⟩ := g2
        cases b3 with
        | false =>
          rw [show (true && true && true && false && b4) = false by simp]
          go_enter Tryz.func60, Tryz.ntmps60
          go_wp2_with fail
          refine (implIsName na _ hw).mono ?_
          rw [H0.out]
          rintro e w1 ⟨rfl, hb1⟩
          have B1 := Lib.hid (B.out.trans (hb1.mono B.out.size))
          have K1 := K.out.below hb1
          have z1 := K1.cell 1
          have z2 := K1.cell 2
          have z3 := K1.cell 3
          have z4 := K1.cell 4
          simp at z1 z2 z3 z4
          clear hb1 K1
          go_wp2_with fail
          refine (isIndex_any _ 4 _).mono ?_
          rw [show inB li 0 (((4 : Nat) : Int) - 1) = inB li 0 3 from rfl, H3.out]
          rintro e w4 ⟨rfl, rfl⟩
          go_wp2
          go_ret
          exact ⟨rfl, B1.out⟩
        | true =>
          cases b4 with
          | false =>
            rw [show (true && true && true && true && false) = false by simp]
            have g4 : ¬ (0 ≤ tu ∧ tu ≤ 4) := by have := H4.out; unfold inB at this; exact of_decide_eq_false this
            by_cases l4 : 0 ≤ tu
            · have u4 : decide (tu ≤ 4) = false := decide_eq_false (by omega)
              clear g4
              go_enter Tryz.func60, Tryz.ntmps60
              go_wp2_with fail
              refine (implIsName na _ hw).mono ?_
              rw [H0.out]
              rintro e w1 ⟨rfl, hb1⟩
              have B1 := Lib.hid (B.out.trans (hb1.mono B.out.size))
              have K1 := K.out.below hb1
              have z1 := K1.cell 1
              have z2 := K1.cell 2
              have z3 := K1.cell 3
              have z4 := K1.cell 4
              simp at z1 z2 z3 z4
              clear hb1 K1
              go_wp2_with fail
              refine (isIndex_any _ 4 _).mono ?_
              rw [show inB li 0 (((4 : Nat) : Int) - 1) = inB li 0 3 from rfl, H3.out]
              rintro e w4 ⟨rfl, rfl⟩
              go_wp2
              go_ret
              exact ⟨rfl, B1.out⟩
            · have u4 : decide (0 ≤ tu) = false := decide_eq_false l4
              clear g4
              go_enter Tryz.func60, Tryz.ntmps60
              go_wp2_with fail
              refine (implIsName na _ hw).mono ?_
              rw [H0.out]
              rintro e w1 ⟨rfl, hb1⟩
              have B1 := Lib.hid (B.out.trans (hb1.mono B.out.size))
              have K1 := K.out.below hb1
              have z1 := K1.cell 1
              have z2 := K1.cell 2
              have z3 := K1.cell 3
              have z4 := K1.cell 4
              simp at z1 z2 z3 z4
              clear hb1 K1
              go_wp2_with fail
              refine (isIndex_any _ 4 _).mono ?_
              rw [show inB li 0 (((4 : Nat) : Int) - 1) = inB li 0 3 from rfl, H3.out]
              rintro e w4 ⟨rfl, rfl⟩
              go_wp2
              go_ret
              exact ⟨rfl, B1.out⟩
          | true =>
            have g4 : 0 ≤ tu ∧ tu ≤ 4 := by have := H4.out; unfold inB at this; exact of_decide_eq_true this
            obtain ⟨l4, u4⟩ := g4
            rw [show (true && true && true && true && true) = true from rfl]
            go_enter Tryz.func60, Tryz.ntmps60
            go_wp2_with fail
            refine (implIsName na _ hw).mono ?_
            rw [H0.out]
            rintro e w1 ⟨rfl, hb1⟩
            have B1 := Lib.hid (B.out.trans (hb1.mono B.out.size))
            have K1 := K.out.below hb1
            have z1 := K1.cell 1
            have z2 := K1.cell 2
            have z3 := K1.cell 3
            have z4 := K1.cell 4
            simp at z1 z2 z3 z4
            clear hb1 K1
            go_wp2_with fail
            refine (isIndex_any _ 4 _).mono ?_
            rw [show inB li 0 (((4 : Nat) : Int) - 1) = inB li 0 3 from rfl, H3.out]
            rintro e w4 ⟨rfl, rfl⟩
            go_wp2
            go_ret
            exact ⟨rfl, B1.out⟩
end Go.Proofs.YtpimcbhjkednpaaGreat
namespace Go.Proofs.YtpimcbhjkednpaaGreat
set_option maxRecDepth 100000
def squatI (d : ShipD) : Int := if shipB d = true then (if d.slow = true then d.draught.tdiv 50 else d.draught.tdiv 20) else 0
end Go.Proofs.YtpimcbhjkednpaaGreat
namespace Go.Proofs.YtpimcbhjkednpaaGreat
open Go.RowKit
set_option maxRecDepth 100000
/-- The i-th segment. -/
def segAt (d : ChartD) (i : Int) : Option SegmentD := if 0 ≤ i then d.segs[i.toNat]? else none
theorem segAt_in {d : ChartD} {i : Int} (h : inB i 0 ((d.segs.length : Int) - 1) = true) : ∃ s, segAt d i = some s ∧ d.segs[i.toNat]? = some s ∧ 0 ≤ i ∧ i.toNat < d.segs.length := by
  unfold inB at h
  have h' := of_decide_eq_true h
  refine ⟨d.segs[i.toNat]'(by omega), ?_, List.getElem?_eq_getElem (by omega), h'.1, by omega⟩
  unfold segAt
  rw [if_pos h'.1, List.getElem?_eq_getElem (by omega)]
theorem segAt_out {d : ChartD} {i : Int} (h : inB i 0 ((d.segs.length : Int) - 1) = false) : segAt d i = none := by
  unfold inB at h
  have h' := of_decide_eq_false h
  unfold segAt
  by_cases h0 : 0 ≤ i
  · rw [if_pos h0, List.getElem?_eq_none (by omega)]
  · rw [if_neg h0]
end Go.Proofs.YtpimcbhjkednpaaGreat
namespace Go.Proofs.YtpimcbhjkednpaaGreat
open Go.RowKit Go.Maps
set_option maxRecDepth 100000
abbrev DM := DataW Unit
def keyL (s : ByteArray) : Lit := .string s.data.toList
theorem keyL_lit (s : ByteArray) : WideAt.IsKeyLit (keyL s) := trivial
theorem keyL_inj {s t : ByteArray} (h : keyL s = keyL t) : (s.toList == t.toList) = true := by
  unfold keyL at h
  injection h with h
  have : s = t := by
    cases s; cases t
    simp only at h
    rw [ByteArray.mk.injEq]
    exact Array.toList_inj.1 h
  rw [this]; exact beq_self_eq_true _
theorem keyL_of {s t : ByteArray} (h : (s.toList == t.toList) = true) : keyL s = keyL t := by
  have h' : s.toList = t.toList := by simpa using h
  rw [ByteArray.toList_eq, ByteArray.toList_eq] at h'
  unfold keyL
  rw [h']
theorem keyL_ne {s t : ByteArray} (h : (s.toList == t.toList) = false) : keyL s ≠ keyL t := fun e => by rw [keyL_inj e] at h; cases h
/-- The map of a list whose first place is i. -/
def nameMap : Nat → List PointD → DM
  | _, [] => .map []
  | i, x :: l => (nameMap (i + 1) l).put (keyL x.name) (.lit (.int .i64 (i : Int)))
def putOne (D : DM) (x : Nat × PointD) : DM := D.put (keyL x.2.name) (.lit (.int .i64 (x.1 : Int)))
def putAll (ys : List (Nat × PointD)) : DM := ys.foldl putOne (.map [])
theorem putAll_snoc (ys : List (Nat × PointD)) (x : Nat × PointD) : putAll (ys ++ [x]) = (putAll ys).put (keyL x.2.name) (.lit (.int .i64 (x.1 : Int))) := by unfold putAll; rw [List.foldl_append]; rfl
/-- The last j points of l, from the last one back. -/
inductive BackOf (l : List PointD) : Nat → List (Nat × PointD) → Prop
  | nil : BackOf l 0 []
  | snoc {j : Nat} {ys : List (Nat × PointD)} {i : Nat} {x : PointD} : BackOf l j ys → i + j + 1 = l.length → l[i]? = some x → BackOf l (j + 1) (ys ++ [(i, x)])
theorem BackOf.len {l : List PointD} {j : Nat} {ys : List (Nat × PointD)} (h : BackOf l j ys) : ys.length = j := by
  induction h with
  | nil => rfl
  | snoc _ _ _ ih => simp [ih]
theorem BackOf.map {l : List PointD} {j : Nat} {ys : List (Nat × PointD)} (h : BackOf l j ys) : putAll ys = nameMap (l.length - j) (l.drop (l.length - j)) := by
  induction h with
  | nil => simp [putAll, nameMap]
  | @snoc j ys i x _ hi hx ih =>
    rw [putAll_snoc, ih]
    have e1 : l.length - (j + 1) = i := by omega
    have e2 : l.length - j = i + 1 := by omega
    rw [e1, e2]
    obtain ⟨hlt, rfl⟩ := List.getElem?_eq_some_iff.1 hx
    rw [List.drop_eq_getElem_cons hlt]
    rfl
theorem BackOf.all {l : List PointD} {ys : List (Nat × PointD)} (h : BackOf l l.length ys) : putAll ys = nameMap 0 l := by
  have := h.map
  rw [Nat.sub_self, List.drop_zero] at this
  exact this
theorem nameMap_tidy (i : Nat) (l : List PointD) : Tidy (nameMap i l) := by
  induction l generalizing i with
  | nil => exact tidy_empty
  | cons x l ih => exact (ih (i + 1)).put (keyL_lit _) _
def hasName (l : List PointD) (s : ByteArray) : Bool := l.any fun p => p.name.toList == s.toList
theorem nameMap_has (i : Nat) (l : List PointD) (s : ByteArray) : has (nameMap i l) (keyL s) = hasName l s := by
  induction l generalizing i with
  | nil => rfl
  | cons x l ih =>
    unfold nameMap hasName
    rw [List.any_cons]
    cases h : x.name.toList == s.toList with
    | true => rw [← keyL_of h, has_put_same (nameMap_tidy _ _).isMap (keyL_lit _)]; rfl
    | false => rw [has_put_other (keyL_ne h).symm, ih]; rfl
/-- No two points bear one name. -/
def NmApart (l : List PointD) : Prop := l.Pairwise fun p q => (p.name.toList == q.name.toList) = false
theorem hasName_false {l : List PointD} {s : ByteArray} : hasName l s = false ↔ ∀ q ∈ l, (q.name.toList == s.toList) = false := by
  unfold hasName; rw [List.any_eq_false]; simp
theorem beq_swap (a b : List UInt8) : (a == b) = (b == a) := BEq.comm
theorem nameMap_size (i : Nat) (l : List PointD) : size (nameMap i l) ≤ l.length ∧ (size (nameMap i l) = l.length ↔ NmApart l) := by
  induction l generalizing i with
  | nil => exact ⟨Nat.le_refl _, ⟨fun _ => List.Pairwise.nil, fun _ => rfl⟩⟩
  | cons x l ih =>
    obtain ⟨h1, h2⟩ := ih (i + 1)
    unfold nameMap NmApart
    rw [size_put (nameMap_tidy _ _), nameMap_has, List.length_cons, List.pairwise_cons]
    cases h : hasName l x.name with
    | true =>
      simp only [if_true]
      refine ⟨by omega, ⟨fun e => by omega, fun e => ?_⟩⟩
      have : hasName l x.name = false := hasName_false.2 fun q hq => by rw [beq_swap]; exact e.1 q hq
      rw [h] at this; cases this
    | false =>
      simp only [Bool.false_eq_true, if_false]
      refine ⟨by omega, ⟨fun e => ⟨fun q hq => by rw [beq_swap]; exact hasName_false.1 h q hq, h2.1 (by omega)⟩, fun e => by have := h2.2 e.2; omega⟩⟩
/-- All points are as they should be: all names are names, and no two are one. -/
def ptsB (l : List PointD) : Bool := decide (l.length ≤ 8) && (List.range l.length).all (ptOk l)
theorem ptsB_long {l : List PointD} (h : 8 < l.length) : ptsB l = false := by unfold ptsB; rw [decide_eq_false (by omega)]; rfl
theorem ptsB_iff {l : List PointD} (h8 : l.length ≤ 8) : ptsB l = true ↔ (∀ x ∈ l, nameB x.name = true) ∧ NmApart l := by
  unfold ptsB
  rw [decide_eq_true h8, Bool.true_and, List.all_eq_true]
  constructor
  · intro h
    have h' : ∀ (k : Nat) (x : PointD), l[k]? = some x → nameB x.name = true ∧ namedI l x.name = (k : Int) := fun k x hx => by
      have := h k (List.mem_range.2 (List.getElem?_eq_some_iff.1 hx).1)
      rw [ptOk_at hx, Bool.and_eq_true] at this
      exact ⟨this.1, by simpa using this.2⟩
    refine ⟨fun x hx => ?_, ?_⟩
    · obtain ⟨k, hk⟩ := List.getElem?_of_mem hx
      exact (h' k x hk).1
    · unfold NmApart
      rw [List.pairwise_iff_getElem]
      intro i j hi hj hij
      cases e : (l[i].name.toList == l[j].name.toList) with
      | false => rfl
      | true =>
        have e1 := (h' i _ (List.getElem?_eq_getElem hi)).2
        have e2 := (h' j _ (List.getElem?_eq_getElem hj)).2
        have e3 : l[i].name.toList = l[j].name.toList := by simpa using e
        unfold namedI at e1 e2
        rw [e3] at e1
        rw [e1] at e2
        omega
  · rintro ⟨h1, h2⟩ k hk
    have hk' := List.mem_range.1 hk
    rw [ptOk_at (List.getElem?_eq_getElem hk'), h1 _ (List.getElem_mem hk'), Bool.true_and]
    have : namedI l l[k].name = (k : Int) := namedI_at (x := l[k]) (fun j hj y hy => by
      obtain ⟨hjl, rfl⟩ := List.getElem?_eq_some_iff.1 hy
      exact (List.pairwise_iff_getElem.1 h2) j k hjl hk' hj) (List.getElem?_eq_getElem hk') (by simp)
    rw [this]; simp
/-- Every key that the map holds is a name, as far as the keys of 'left' are not meant. -/
def Named (l : List PointD) (left : Lit → Bool) : Prop := ∀ x ∈ l, nameB x.name = false → left (keyL x.name) = true
theorem Named.start (l : List PointD) : Named l (has (nameMap 0 l)) := fun x hx _ => by
  rw [nameMap_has]
  unfold hasName
  exact List.any_eq_true.2 ⟨x, hx, by simp⟩
theorem Named.next {l : List PointD} {left : Lit → Bool} {s : ByteArray} (h : Named l left) (hs : nameB s = true) : Named l (fun z => left z && !z.sameKey (keyL s)) := fun x hx hn => by
  show (left (keyL x.name) && !(keyL x.name).sameKey (keyL s)) = true
  rw [h x hx hn, Bool.true_and]
  have : keyL x.name ≠ keyL s := fun e => by
    have e' : x.name.toList = s.toList := by simpa using keyL_inj e
    have : x.name = s := by
      cases hx' : x.name; cases hs' : s
      rw [hx', hs'] at e
      unfold keyL at e
      injection e with e
      rw [ByteArray.mk.injEq]
      exact Array.toList_inj.1 e
    rw [this, hs] at hn; cases hn
  rw [sameKey_ne this]; rfl
theorem Named.stop {l : List PointD} {left : Lit → Bool} (h : Named l left) (h0 : ∀ kl, left kl = false) : ∀ x ∈ l, nameB x.name = true := fun x hx => by
  cases hn : nameB x.name with
  | true => rfl
  | false => have := h x hx hn; rw [h0] at this; cases this
theorem ptsB_no {l : List PointD} {s : ByteArray} (hh : has (nameMap 0 l) (keyL s) = true) (hs : nameB s = false) : ptsB l = false := by
  by_cases h8 : l.length ≤ 8
  · cases hp : ptsB l with
    | false => rfl
    | true =>
      rw [nameMap_has] at hh
      obtain ⟨x, hx, he⟩ := List.any_eq_true.1 hh
      have h1 := ((ptsB_iff h8).1 hp).1 x hx
      have : x.name = s := by
        have e := keyL_of he
        cases hx' : x.name; cases hs' : s
        rw [hx', hs'] at e
        unfold keyL at e
        injection e with e
        rw [ByteArray.mk.injEq]
        exact Array.toList_inj.1 e
      rw [this, hs] at h1; cases h1
  · exact ptsB_long (by omega)
theorem ptsB_end {l : List PointD} (h8 : l.length ≤ 8) (hn : ∀ x ∈ l, nameB x.name = true) : ptsB l = decide (size (nameMap 0 l) = l.length) := by
  rw [Bool.eq_iff_iff, ptsB_iff h8, decide_eq_true_iff, (nameMap_size 0 l).2]
  exact ⟨fun h => h.2, fun h => ⟨hn, h⟩⟩
end Go.Proofs.YtpimcbhjkednpaaGreat
namespace Go.Proofs.YtpimcbhjkednpaaGreat
open Go.RowKit Go.Shelf Go.Maps Go.WideMaps
set_option maxRecDepth 100000
attribute [local go_sem] Oper.semAt_some
/-- Every block of cells lies as it lay. -/
def KpC (A B : World) : Prop := ∀ (k : Nat) (o : Obj), A.heap[k]? = some o → o.isCells = true → B.heap[k]? = A.heap[k]?
theorem KpC.refl (A : World) : KpC A A := fun _ _ _ _ => rfl
theorem KpC.t {A B C : World} (h : KpC A B) (k : KpC B C) : KpC A C := fun j o hj hc => (k j o ((h j o hj hc).trans hj) hc).trans (h j o hj hc)
theorem KpC.b (W : World) (l : Nat) (o o' : Obj) (h : W.heap[l]? = some o) (h1 : o.isCells = false) : KpC W (W.putObj l o') :=
  fun k u hk hc => World.putObj_heap_other (fun e => by subst e; rw [h] at hk; cases hk; rw [h1] at hc; cases hc)
theorem KpC.alloc (W : World) (o : Obj) : KpC W (W.alloc o) := fun k u hk _ => (World.grownBy_alloc W o none).block k (Array.getElem?_eq_some_iff.1 hk).1 (by simp)
theorem KpC.cell {A B : World} (h : KpC A B) {a : Addr} {v : Value} (hv : A.cell? a = some v) : B.cell? a = some v := by
  obtain ⟨o, ho, hc⟩ := cells_of_cell hv
  exact (World.cell?_of_block (h _ o ho hc)).trans hv
theorem KpC.map {A B : World} {b : Nat} (hg : A.grownBy B (some b)) {o : Obj} (hb : A.heap[b]? = some o) (ho : o.isCells = false) : KpC A B := fun k u hk hc =>
  hg.block k (Array.getElem?_eq_some_iff.1 hk).1 (fun e => by cases e; rw [hb] at hk; cases hk; rw [ho] at hc; cases hc)
abbrev IP := { x : Nat × PointD // x.2.name.size ≤ maxLen ∧ x.1 ≤ 1000000000 }
set_option maxHeartbeats 2000000 in
theorem back1 (v : Value) (l : List PointD) (Bn : Nat) (w : World) (h : SlPoint w v l) (hwf : ∀ x ∈ l, PointD.wf x) (hBn : Bn < w.heap.size) (hc0 : w.cell? ⟨Bn, 0, none⟩ = some v) (n : Nat) (hn : 1 ≤ n) :
    SeqStopsK Fence.wide n Tryz.prog 133 #[.pointer (some ⟨Bn, 0, none⟩)] (fun x : IP => #[.int .i64 (x.1.1 : Int), .agg #[.string x.1.2.name, .bool x.1.2.wait]]) KpC (fun ys => BackOf l l.length (ys.map Subtype.val)) (fun _ => True) l.length w := by
  intro lp J Jx W hW hJ hJx hY h0
  have hl := h.1
  have HS := Lib.hid (h.below hW)
  have hcW : W.cell? ⟨Bn, 0, none⟩ = some v := (hW.cell (p := ⟨Bn, 0, none⟩) hBn).trans hc0
  obtain ⟨A, c, rfl⟩ := h.at
  have HJ := Lib.hid hJ
  have HY := Lib.hid hY
  have H0 := Lib.hid h0
  have HWF := Lib.hid hwf
  clear hJ hJx hY h0 hW hc0 h hwf
  change CallsIn Fence.wide n Tryz.prog 133 #[.func (.yield lp) #[] #[], .pointer (some ⟨Bn, 0, none⟩)] W _
  refine callsIn_of_wp Tryz.func133 rfl trivial ?_ rfl
  simp only [Tryz.ntmps133, List.size_toArray, List.length_cons, List.length_nil, Nat.reduceAdd, Nat.reduceSub, Array.replicate_succ, Array.replicate_zero, List.push_toArray, List.append_toArray, List.nil_append, List.cons_append]
  gi_wp2
  gi_loopw [3] (fun i wr => ∃ (j : Nat) (acc : List IP) (z : Int), j ≤ l.length ∧ Hid (z + 1 + j = l.length) ∧ i = .int .i64 z ∧ Hid (BackOf l j (acc.map Subtype.val)) ∧ Hid (J acc wr) ∧ Hid (KpC W wr)) (fun i _ => (intOf i + 1).toNat)
  case atStart => exact ⟨0, [], (l.length : Int) - 1, Nat.zero_le _, Lib.hid (by omega), by go_num, Lib.hid .nil, H0, Lib.hid (KpC.refl _)⟩
  case round =>
    obtain ⟨j, acc, z, hj, hE, rfl, hB, hJs, hK⟩ := hrel
    by_cases hlt : j < l.length
    rotate_left
    · obtain rfl : j = l.length := by omega
      obtain rfl : z = -1 := by have := hE.out; omega
      gi_wp2
      go_end0
      exact ⟨⟨_, rfl⟩, .inl ⟨_, hB.out, hJs.out⟩⟩
    · obtain ⟨k, rfl⟩ : ∃ k : Nat, z = (k : Int) := ⟨z.toNat, by have := hE.out; omega⟩
      have hk : k < l.length := by have := hE.out; omega
      obtain ⟨x, hx⟩ : ∃ x, l[k]? = some x := ⟨_, List.getElem?_eq_getElem hk⟩
      have hxw : x.name.size ≤ maxLen := HWF.out x (List.mem_of_getElem? hx)
      have c0 := hK.out.cell hcW
      rcases HS.out.2 with ⟨he, _⟩ | ⟨g, o, c', e, hpos, hcap, hc⟩
      · rw [he] at hk; simp at hk
      · injection e with hA _ hcp
        subst hA hcp
        obtain ⟨p0, p1⟩ := SlPoint.cells hc k x hx
        have a0 := hK.out.cell p0
        have a1 := hK.out.cell p1
        have HX := Lib.hid hx
        have EB := Lib.hid (show BackOf l (j + 1) ((acc ++ [(⟨(k, x), hxw, by show k ≤ 1000000000; omega⟩ : IP)]).map Subtype.val) by rw [List.map_append]; exact BackOf.snoc hB.out (by have := hE.out; omega) hx)
        have hal : acc.length < l.length := by have := hB.out.len; rw [List.length_map] at this; omega
        have hE' := Lib.hid (show ((k : Int) - 1) + 1 + ((j + 1 : Nat) : Int) = l.length by have := hE.out; omega)
        obtain ⟨fn, tmps, assign, body, hy, hR⟩ := HY.out acc (⟨(k, x), hxw, by show k ≤ 1000000000; omega⟩ : IP) wr hJs.out hal
        have HR := Lib.hid hR
        clear hR p0 p1 hc hal HY hx
        dsimp only at hy
        gi_wp2
        refine HR.out.mono ?_
        rintro e W3 (⟨rfl, hJ3, hk3⟩ | ⟨rfl, hJx3⟩)
        · have HK3 := Lib.hid (hK.out.t hk3)
          have H3 := Lib.hid hJ3
          clear hJ3 hk3 hy
          gi_wp2
          go_roundw
          case rel => exact ⟨j + 1, _, (k : Int) - 1, by omega, hE', by go_num, EB, H3, HK3⟩
          case measure => simp [intOf]
        · gi_wp2
          refine bodyPost_ret (results_none rfl _ _ _) rfl ?_
          exact ⟨⟨_, rfl⟩, .inr ⟨_, trivial, hJx3⟩⟩
theorem backward_any (A : Option Addr) (n c : Nat) (w : World) :
    Calls Tryz.prog 127 #[.slice A n c] w fun e w' => e = .returned (.func (.func 133) #[] #[.pointer (some ⟨w.heap.size, 0, none⟩)]) ∧ w' = w.alloc (.cells #[.slice A n c] 46) := by
  go_enter Tryz.func127, Tryz.ntmps127
  go_wp2
  go_ret
  exact ⟨rfl, rfl⟩
theorem law_string : Keyed Tryz.prog 9 := string_keyed Tryz.underlying9
theorem putAll_next (pre : List IP) (x : IP) : putAll ((pre ++ [x]).map Subtype.val) = (putAll (pre.map Subtype.val)).put (keyL x.1.2.name) (.lit (.int .i64 (x.1.1 : Int))) := by rw [List.map_append]; exact putAll_snoc _ _
theorem ip_wf (x : IP) : (Lit.int .i64 (x.1.1 : Int)).wf = true := WalkArith.wf_i64 (by have := x.2.2; omega)
/-- A map of its own that is the name map of the points. -/
def OwnsNames (w : World) (b : Nat) (l : List PointD) : Prop := ∃ n, n ≤ 1000000000 ∧ w.ownsMap Tryz.prog 9 (plainElem Tryz.prog 3) b n (nameMap 0 l)
set_option maxHeartbeats 4000000 in
theorem implFirsts (v : Value) (l : List PointD) (w : World) (h : SlPoint w v l) (hwf : ∀ x ∈ l, PointD.wf x) :
    Calls Tryz.prog 120 #[v] w fun e w' => ∃ b, e = .returned (.map (some b)) ∧ w.heap.size ≤ b ∧ OwnsNames w' b l ∧ Below w.heap.size w w' := by
  have HS := Lib.hid h
  have HWF := Lib.hid hwf
  have hl := h.1
  obtain ⟨A, c, rfl⟩ := h.at
  clear h hwf
  have hmm := @run_makeMap Tryz.prog
  refine (callsIn_wide (n := 9)).1 ?_
  refine callsIn_of_wp_marks Tryz.func120 rfl trivial ?_ rfl
  simp only [Tryz.ntmps120, List.size_toArray, List.length_cons, List.length_nil, Nat.reduceAdd, Nat.reduceSub, Array.replicate_succ, Array.replicate_zero, List.push_toArray, List.append_toArray, List.nil_append, List.cons_append]
  gi_wp2_with (refine ⟨trivial, ?_⟩; gi_at_call 127; refine (callsIn_wide.2 (backward_any _ _ _ _)).mono ?_; rintro e w' ⟨rfl, rfl⟩)
  obtain ⟨W0, hW0⟩ : ∃ W0, W0 = (((w.alloc (.map #[] 0)).alloc (.cells #[.map (some w.heap.size)] 154)).alloc (.cells #[.slice A l.length c] 46)) := ⟨_, rfl⟩
  rw [← hW0]
  have hsz : W0.heap.size = w.heap.size + 1 + 1 + 1 := by rw [hW0]; simp
  have hB0 : Below w.heap.size w W0 := by rw [hW0]; exact (((Below.refl _ w).alloc (Nat.le_refl _) _).alloc (by simp) _).alloc (by simp; omega) _
  have bM : Boxed W0 (w.heap.size + 1) 154 (.map (some w.heap.size)) := by
    rw [hW0]
    have b := Boxed.new (w.alloc (.map #[] 0)) 154 (.map (some w.heap.size))
    rw [World.size_alloc] at b
    exact b.alloc _
  have bS : W0.cell? ⟨w.heap.size + 1 + 1, 0, none⟩ = some (.slice A l.length c) := by
    rw [hW0]
    have b := Boxed.new ((w.alloc (.map #[] 0)).alloc (.cells #[.map (some w.heap.size)] 154)) 46 (.slice A l.length c)
    rw [World.size_alloc, World.size_alloc] at b
    exact b.cell
  have oM : W0.ownsMap Tryz.prog 9 (plainElem (H := Unit) Tryz.prog 3) w.heap.size 0 (.map []) := by
    rw [hW0]
    exact ((World.ownsMap_made w _ _ _).alloc _).alloc _
  clear hW0 hmm
  refine wpIn_rangeFunc_ownH rfl (by omega) (gf := 133) (lb := #[.pointer (some ⟨w.heap.size + 1 + 1, 0, none⟩)]) rfl trivial (enters_of Tryz.func133 (by kernel_rfl) rfl)
    (back1 _ l (w.heap.size + 1 + 1) W0 (HS.out.below hB0) HWF.out (by omega) bS 8 (by omega)) KpC.t (fun W l o o' _ h h1 _ => KpC.b W l o o' h h1) (Below.refl _ _) (fun _ => rfl)
    (fun (pre : List IP) W => (W.ownsMap Tryz.prog 9 (plainElem Tryz.prog 3) w.heap.size pre.length (putAll (pre.map Subtype.val)) ∧ Boxed W (w.heap.size + 1) 154 (.map (some w.heap.size))) ∧ Below w.heap.size w W)
    (fun _ _ _ => False)
    (OwnFrom.and (OwnFrom.and (fun s W W' row hs hg hr => hs.kept hg (fun e => by have := (hr _ e.symm).1; omega)) (Own.from (boxed_own _ _ _) _)) (ownFrom_below (Nat.le_refl _) (by omega)))
    (fun _ _ _ _ _ hs _ _ => hs)
    ⟨⟨oM, bM⟩, hB0⟩
    (fun x a' W => ∃ Bx, Blk W Bx #[.string x.1.2.name, .bool x.1.2.wait] 105 ∧ a' = { tmps := #[.slice A l.length c, undef, .map none, .pointer (some ⟨w.heap.size + 1, 0, none⟩), .int .i64 (x.1.1 : Int), .pointer (some ⟨Bx, 0, none⟩), .map (some w.heap.size), .slice A l.length c, .func (.func 133) #[] #[.pointer (some ⟨w.heap.size + 1 + 1, 0, none⟩)], .int .i64 (x.1.1 : Int), .agg #[.string x.1.2.name, .bool x.1.2.wait], undef, undef, undef, undef, undef], defers := [] })
    (fun x a' _ X Y row hs hg hr => by
      obtain ⟨Bx, h2, h3⟩ := hs
      exact ⟨Bx, h2.grown hg (fun e' => by obtain ⟨_, o, ho, hc⟩ := hr Bx e'.symm; rw [show X.heap[Bx]? = _ from h2] at ho; cases ho; cases hc), h3⟩)
    ?assign ?body ?done ?stop
  case assign =>
    rintro lp pre x W K ⟨⟨hm, hbx⟩, hB1⟩ hK
    gi_wp2
    exact hK _ _ ((KeepsOthers.alloc _ _).from _) (KpC.alloc _ _) ⟨⟨hm.alloc _, hbx.alloc _⟩, hB1.alloc hB1.size _⟩ ⟨W.heap.size, Blk.new W _ _, rfl⟩
  case body =>
    rintro lp pre x a' W hl' ⟨r, hr⟩ ⟨⟨hm, hbx⟩, hB⟩ ⟨Bx, bX, rfl⟩ hlt
    have hc := hbx.cell
    have c0 : W.cell? ⟨Bx, 0, none⟩ = some (.string x.1.2.name) := bX.cell 0
    have c1 : W.cell? ⟨Bx, 1, none⟩ = some (.bool x.1.2.wait) := bX.cell 1
    have hpl : pre.length < maxLen := by unfold maxLen; omega
    obtain ⟨ob, hob, hoc⟩ : ∃ ob, W.heap[w.heap.size]? = some ob ∧ ob.isCells = false := by obtain ⟨es, clock, hb, _⟩ := hm; exact ⟨_, hb, rfl⟩
    have hkx := keyOf_string_mk Tryz.underlying9 x.2.1
    have hux := Tryz.underlying154
    have hpx := plainElem_int (H := Unit) Tryz.underlying3 (ip_wf x)
    gi_wp2_with (gi_at_mapUpdate; refine wpListIn_mapUpdate_own _ rfl _ _ _ 154 rfl 9 3 law_string Tryz.underlying154 _ w.heap.size pre.length _ rfl hm hpl _ _ _ rfl rfl (keyOf_string_mk Tryz.underlying9 x.2.1) _ [] (plainElem_int Tryz.underlying3 (ip_wf x)) ?_; intro w1 hown1 hgrow1)
    exact ⟨KeepsFrom.of_grownBy hgrow1 (fun j e => by cases e; omega), KpC.map hgrow1 hob hoc, ⟨⟨by rw [putAll_next, List.length_append]; exact hown1, hbx.kept hgrow1 (fun e => by injection e with e; omega)⟩, hB.grown hgrow1 hB.size (fun k e => by cases e; exact Nat.le_refl _)⟩⟩
  case done =>
    rintro D ys W hD hS ⟨⟨hm, hbx⟩, hB⟩ hK
    have hc := hbx.cell
    have hyl : ys.length = l.length := by have := hS.len; rw [List.length_map] at this; exact this
    rw [hS.all, hyl] at hm
    have hE := Lib.hid hyl
    clear hyl hS
    gi_wp2
    refine ⟨by simp, .inl ⟨_, _, rfl, run_takeDeferred hK, ?_⟩⟩
    exact ⟨_, results_tmp rfl _ _ _, _, rfl, Nat.le_refl _, ⟨l.length, hl, hm.kept (grownBy_putObj' W D _) (fun e => by injection e with e; omega)⟩, hB.trans (belowK_b (w := w) (Nat.le_refl _) W D _ _ (by omega) hK rfl rfl)⟩
  case stop =>
    rintro D c pre W _ _ h _
    exact h.elim
end Go.Proofs.YtpimcbhjkednpaaGreat
