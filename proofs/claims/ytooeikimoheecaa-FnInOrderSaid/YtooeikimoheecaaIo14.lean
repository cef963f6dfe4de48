
/- What InOrderLaw rests on, part 14: contracts and mathematics. -/
import Derived.Test.YtooeikimoheecaaIo2
import Derived.Test.YtooeikimoheecaaIo10
import Derived.Test.YtooeikimoheecaaIo12
import Derived.Test.YtooeikimoheecaaIo0
import Derived.Test.YtooeikimoheecaaIo11
import Derived.Maps.OwnSet
import Derived.Maps.RangeWalk
import Derived.Maps.OwnIn
namespace Go.Proofs.Ytooeikimoheecaa
open Go.RowKit
set_option maxRecDepth 100000
def surgeB (d : SurgeD) : Bool := decide (0 ≤ d.fr ∧ d.fr ≤ 2880 ∧ -500 ≤ d.lo ∧ d.lo ≤ d.hi ∧ d.hi ≤ 500)
theorem surgeB_mk {d : SurgeD} (h : 0 ≤ d.fr ∧ d.fr ≤ 2880 ∧ -500 ≤ d.lo ∧ d.lo ≤ d.hi ∧ d.hi ≤ 500) : surgeB d = true := decide_eq_true h
theorem surgeB_no {d : SurgeD} (h : ¬ (0 ≤ d.fr ∧ d.fr ≤ 2880 ∧ -500 ≤ d.lo ∧ d.lo ≤ d.hi ∧ d.hi ≤ 500)) : surgeB d = false := decide_eq_false h
theorem surgeB_true {d : SurgeD} (h : surgeB d = true) : 0 ≤ d.fr ∧ d.fr ≤ 2880 ∧ -500 ≤ d.lo ∧ d.lo ≤ d.hi ∧ d.hi ≤ 500 := of_decide_eq_true h
theorem implSurgeOk (d : SurgeD) (w : World) : Calls Try.prog 148 #[d.val] w fun e w' => e = .returned (.bool (surgeB d)) ∧ Below w.heap.size w w' := by
  obtain ⟨f, a, b⟩ := d
  by_cases h0 : 0 ≤ f ∧ f ≤ 2880
  · have E0 := Lib.hid (inB_mk h0.1 h0.2)
    by_cases h1 : -500 ≤ a
    · by_cases h2 : a ≤ b
      · by_cases h3 : b ≤ 500
        · have H := Lib.hid (surgeB_mk (d := ⟨f, a, b⟩) ⟨h0.1, h0.2, h1, h2, h3⟩)
          clear h0
          go_enter Try.func148, Try.ntmps148
          go_wp2_with fail
          refine (isMinute_any _ _).mono ?_
          rintro e w1 ⟨rfl, rfl⟩
          rw [E0.out]
          go_wp2
          go_ret
          exact ⟨ret_bool H.out.symm, Joins.below_alloc1 _ _⟩
        · have H := Lib.hid (surgeB_no (d := ⟨f, a, b⟩) (by simp; omega))
          have h4 : decide (b ≤ 500) = false := decide_eq_false h3
          clear h0
          go_enter Try.func148, Try.ntmps148
          go_wp2_with fail
          refine (isMinute_any _ _).mono ?_
          rintro e w1 ⟨rfl, rfl⟩
          rw [E0.out]
          go_wp2
          go_ret
          exact ⟨ret_bool H.out.symm, Joins.below_alloc1 _ _⟩
      · have H := Lib.hid (surgeB_no (d := ⟨f, a, b⟩) (by simp; omega))
        have h4 : decide (a ≤ b) = false := decide_eq_false h2
        clear h0
        go_enter Try.func148, Try.ntmps148
        go_wp2_with fail
        refine (isMinute_any _ _).mono ?_
        rintro e w1 ⟨rfl, rfl⟩
        rw [E0.out]
        go_wp2
        go_ret
        exact ⟨ret_bool H.out.symm, Joins.below_alloc1 _ _⟩
    · have H := Lib.hid (surgeB_no (d := ⟨f, a, b⟩) (by simp; omega))
      have h4 : decide (-500 ≤ a) = false := decide_eq_false h1
      clear h0
      go_enter Try.func148, Try.ntmps148
      go_wp2_with fail
      refine (isMinute_any _ _).mono ?_
      rintro e w1 ⟨rfl, rfl⟩
      rw [E0.out]
      go_wp2
      go_ret
      exact ⟨ret_bool H.out.symm, Joins.below_alloc1 _ _⟩
  · have E0 := Lib.hid (inB_no (x := f) (lo := 0) (hi := 2880) (by omega))
    have H := Lib.hid (surgeB_no (d := ⟨f, a, b⟩) (by simp; omega))
    clear h0
    go_enter Try.func148, Try.ntmps148
    go_wp2_with fail
    refine (isMinute_any _ _).mono ?_
    rintro e w1 ⟨rfl, rfl⟩
    rw [E0.out]
    go_wp2
    go_ret
    exact ⟨ret_bool H.out.symm, Joins.below_alloc1 _ _⟩
end Go.Proofs.Ytooeikimoheecaa
namespace Go.Proofs.Ytooeikimoheecaa
open Go.RowKit
set_option maxRecDepth 100000
theorem isIndex_any (i : Int) (n : Nat) (w : World) : Calls Try.prog 54 #[.int .i64 i, .int .i64 (n : Int)] w fun e w' => e = .returned (.bool (inB i 0 ((n : Int) - 1))) ∧ w = w' := by
  by_cases h1 : 0 ≤ i
  · by_cases h2 : i < (n : Int)
    · have H := Lib.hid (inB_mk h1 (show i ≤ (n : Int) - 1 by omega))
      go_enter Try.func54, Try.ntmps54
      go_wp2
      go_ret
      exact ⟨ret_bool H.out.symm, rfl⟩
    · have H := Lib.hid (inB_no (x := i) (lo := 0) (hi := (n : Int) - 1) (.inr (by omega)))
      have h3 : decide (i < (n : Int)) = false := decide_eq_false h2
      go_enter Try.func54, Try.ntmps54
      go_wp2
      go_ret
      exact ⟨ret_bool H.out.symm, rfl⟩
  · have H := Lib.hid (inB_no (x := i) (lo := 0) (hi := (n : Int) - 1) (.inl (by omega)))
    have h3 : decide (0 ≤ i) = false := decide_eq_false h1
    go_enter Try.func54, Try.ntmps54
    go_wp2
    go_ret
    exact ⟨ret_bool H.out.symm, rfl⟩
set_option maxHeartbeats 2000000 in
theorem implSegmentOk (s : SegmentD) (n : Nat) (w : World) :
    Calls Try.prog 127 #[s.val, .int .i64 (n : Int)] w fun e w' => e = .returned (.bool (segB n s)) ∧ Below w.heap.size w w' := by
  obtain ⟨sa, sb, sd, sm, se⟩ := s
  have B := Lib.hid (Joins.below_alloc1 w (.cells #[.int .i64 sa, .int .i64 sb, .int .i64 sd, .int .i64 sm, .bool se] 123))
  have E0 := Lib.hid (show segB n ⟨sa, sb, sd, sm, se⟩ = (inB sa 0 ((n : Int) - 1) && inB sb 0 ((n : Int) - 1) && !(sa == sb) && decide (0 ≤ sd ∧ sd ≤ 3000) && decide (1 ≤ sm ∧ sm ≤ 240)) from rfl)
  rw [E0.out]
  clear E0
  cases h1 : inB sa 0 ((n : Int) - 1) with
  | false =>
    have H1 := Lib.hid h1
    clear h1
    go_enter Try.func127, Try.ntmps127
    go_wp2_with fail
    refine (isIndex_any _ _ _).mono ?_
    rw [H1.out]
    rintro e w1 ⟨rfl, rfl⟩
    go_wp2
    go_ret
    exact ⟨rfl, B.out⟩
  | true =>
    have H1 := Lib.hid h1
    clear h1
    cases h2 : inB sb 0 ((n : Int) - 1) with
    | false =>
      have H2 := Lib.hid h2
      clear h2
      go_enter Try.func127, Try.ntmps127
      go_wp2_with fail
      refine (isIndex_any _ _ _).mono ?_
      rw [H1.out]
      rintro e w1 ⟨rfl, rfl⟩
      go_wp2_with fail
      refine (isIndex_any _ _ _).mono ?_
      rw [H2.out]
      rintro e w1 ⟨rfl, rfl⟩
      go_wp2
      go_ret
      exact ⟨rfl, B.out⟩
    | true =>
      have H2 := Lib.hid h2
      clear h2
      have go : ∀ r : Bool, r = (!(sa == sb) && decide (0 ≤ sd ∧ sd ≤ 3000) && decide (1 ≤ sm ∧ sm ≤ 240)) → Calls Try.prog 127 #[.agg #[.int .i64 sa, .int .i64 sb, .int .i64 sd, .int .i64 sm, .bool se], .int .i64 (n : Int)] w fun e w' => e = .returned (.bool r) ∧ Below w.heap.size w w' := by
        intro r hr
        have HR := Lib.hid hr
        clear hr
        cases h3 : (sa == sb) with
        | true =>
          have E := Lib.hid (show r = false by rw [HR.out, h3]; rfl)
          have h3' : (sa != sb) = false := by rw [bne, h3]; rfl
          clear HR
          go_enter Try.func127, Try.ntmps127
          go_wp2_with fail
          refine (isIndex_any _ _ _).mono ?_
          rw [H1.out]
          rintro e w1 ⟨rfl, rfl⟩
          go_wp2_with fail
          refine (isIndex_any _ _ _).mono ?_
          rw [H2.out]
          rintro e w1 ⟨rfl, rfl⟩
          go_wp2
          go_ret
          exact ⟨ret_bool E.out.symm, B.out⟩
        | false =>
          have h3' : (sa != sb) = true := by rw [bne, h3]; rfl
          by_cases h4 : 0 ≤ sd
          · by_cases h5 : sd ≤ 3000
            · by_cases h6 : 1 ≤ sm
              · by_cases h7 : sm ≤ 240
                · have E := Lib.hid (show r = true by rw [HR.out, h3, decide_eq_true ⟨h4, h5⟩, decide_eq_true ⟨h6, h7⟩]; rfl)
                  clear HR
                  go_enter Try.func127, Try.ntmps127
                  go_wp2_with fail
                  refine (isIndex_any _ _ _).mono ?_
                  rw [H1.out]
                  rintro e w1 ⟨rfl, rfl⟩
                  go_wp2_with fail
                  refine (isIndex_any _ _ _).mono ?_
                  rw [H2.out]
                  rintro e w1 ⟨rfl, rfl⟩
                  go_wp2
                  go_ret
                  exact ⟨ret_bool E.out.symm, B.out⟩
                · have E := Lib.hid (show r = false by rw [HR.out, decide_eq_false (p := 1 ≤ sm ∧ sm ≤ 240) (by omega)]; simp)
                  have h8 : decide (sm ≤ 240) = false := decide_eq_false h7
                  clear HR
                  go_enter Try.func127, Try.ntmps127
                  go_wp2_with fail
                  refine (isIndex_any _ _ _).mono ?_
                  rw [H1.out]
                  rintro e w1 ⟨rfl, rfl⟩
                  go_wp2_with fail
                  refine (isIndex_any _ _ _).mono ?_
                  rw [H2.out]
                  rintro e w1 ⟨rfl, rfl⟩
                  go_wp2
                  go_ret
                  exact ⟨ret_bool E.out.symm, B.out⟩
              · have E := Lib.hid (show r = false by rw [HR.out, decide_eq_false (p := 1 ≤ sm ∧ sm ≤ 240) (by omega)]; simp)
                have h8 : decide (1 ≤ sm) = false := decide_eq_false h6
                clear HR
                go_enter Try.func127, Try.ntmps127
                go_wp2_with fail
                refine (isIndex_any _ _ _).mono ?_
                rw [H1.out]
                rintro e w1 ⟨rfl, rfl⟩
                go_wp2_with fail
                refine (isIndex_any _ _ _).mono ?_
                rw [H2.out]
                rintro e w1 ⟨rfl, rfl⟩
                go_wp2
                go_ret
                exact ⟨ret_bool E.out.symm, B.out⟩
            · have E := Lib.hid (show r = false by rw [HR.out, decide_eq_false (p := 0 ≤ sd ∧ sd ≤ 3000) (by omega)]; simp)
              have h8 : decide (sd ≤ 3000) = false := decide_eq_false h5
              clear HR
              go_enter Try.func127, Try.ntmps127
              go_wp2_with fail
              refine (isIndex_any _ _ _).mono ?_
              rw [H1.out]
              rintro e w1 ⟨rfl, rfl⟩
              go_wp2_with fail
              refine (isIndex_any _ _ _).mono ?_
              rw [H2.out]
              rintro e w1 ⟨rfl, rfl⟩
              go_wp2
              go_ret
              exact ⟨ret_bool E.out.symm, B.out⟩
          · have E := Lib.hid (show r = false by rw [HR.out, decide_eq_false (p := 0 ≤ sd ∧ sd ≤ 3000) (by omega)]; simp)
            have h8 : decide (0 ≤ sd) = false := decide_eq_false h4
            clear HR
            go_enter Try.func127, Try.ntmps127
            go_wp2_with fail
            refine (isIndex_any _ _ _).mono ?_
            rw [H1.out]
            rintro e w1 ⟨rfl, rfl⟩
            go_wp2_with fail
            refine (isIndex_any _ _ _).mono ?_
            rw [H2.out]
            rintro e w1 ⟨rfl, rfl⟩
            go_wp2
            go_ret
            exact ⟨ret_bool E.out.symm, B.out⟩
      exact go _ rfl
/-- The closure of segmentJoining. -/
theorem joining1 (s : SegmentD) (a b : Int) (Ba Bb : Nat) (w : World) (ha : w.cell? ⟨Ba, 0, none⟩ = some (.int .i64 a)) (hb : w.cell? ⟨Bb, 0, none⟩ = some (.int .i64 b)) :
    Calls Try.prog 138 #[s.val, .pointer (some ⟨Ba, 0, none⟩), .pointer (some ⟨Bb, 0, none⟩)] w fun e w' => e = .returned (.bool (joinsB s a b)) ∧ Below w.heap.size w w' := by
  obtain ⟨sa, sb, sd, sm, se⟩ := s
  have B := Lib.hid (Joins.below_alloc1 w (.cells #[.int .i64 sa, .int .i64 sb, .int .i64 sd, .int .i64 sm, .bool se] 123))
  have E := Lib.hid (show joinsB ⟨sa, sb, sd, sm, se⟩ a b = ((sa == a && sb == b) || (sa == b && sb == a)) from rfl)
  rw [E.out]
  clear E
  have ya := (B.out.cell (p := ⟨Ba, 0, none⟩) (World.block_lt_of_cell? w _ ha)).trans ha
  have yb := (B.out.cell (p := ⟨Bb, 0, none⟩) (World.block_lt_of_cell? w _ hb)).trans hb
  clear ha hb
  cases h1 : (sa == a) <;> cases h2 : (sb == b) <;> cases h3 : (sa == b) <;> cases h4 : (sb == a)
  all_goals
    go_enter Try.func138, Try.ntmps138
    go_wp2
    go_ret
    exact ⟨rfl, B.out⟩
set_option maxHeartbeats 2000000 in
theorem indexFunc_any (v : Value) (l : List SegmentD) (a b : Int) (Ba Bb : Nat) (w : World) (h : SlSegment w v l) (ha : w.cell? ⟨Ba, 0, none⟩ = some (.int .i64 a)) (hb : w.cell? ⟨Bb, 0, none⟩ = some (.int .i64 b)) :
    Calls Try.prog 137 #[v, .func (.func 138) #[] #[.pointer (some ⟨Ba, 0, none⟩), .pointer (some ⟨Bb, 0, none⟩)]] w fun e w' => e = .returned (.int .i64 (firstI (fun s => joinsB s a b) l)) ∧ Below w.heap.size w w' := by
  have HS := Lib.hid h
  have hl := h.1
  obtain ⟨A1, c1, rfl⟩ := h.at
  have hla : Ba < w.heap.size := World.block_lt_of_cell? w _ ha
  have hlb : Bb < w.heap.size := World.block_lt_of_cell? w _ hb
  have HA := Lib.hid ha
  have HB := Lib.hid hb
  clear h ha hb
  go_enter Try.func137, Try.ntmps137
  go_wp2
  go_loopw [8] (fun i wr => ∃ k : Nat, k ≤ l.length ∧ i = .int .i64 k ∧ Hid (NoOne (fun s => joinsB s a b) l k) ∧ Hid (Below w.heap.size w wr)) (fun i _ => l.length - (intOf i).toNat)
  case atStart => exact ⟨0, Nat.zero_le _, rfl, Lib.hid (NoOne.zero _ _), Lib.hid (Below.refl _ _)⟩
  case round =>
    obtain ⟨k, hk, rfl, hN, hb⟩ := hrel
    by_cases hlt : k < l.length
    · obtain ⟨x, hx⟩ : ∃ x, l[k]? = some x := ⟨_, List.getElem?_eq_getElem hlt⟩
      rcases HS.out.2 with ⟨he, _⟩ | ⟨g, o, c, e, hpos, hcap, hc⟩
      · rw [he] at hlt; simp at hlt
      · injection e with hA _ hcp
        subst hA hcp
        obtain ⟨q0, q1, q2, q3, q4⟩ := SlSegment.cells hc k x hx
        have hg : g < w.heap.size := World.block_lt_of_cell? w ⟨g, o + k * 5, none⟩ q0
        have y0 := (hb.out.cell (p := ⟨g, o + k * 5, none⟩) hg).trans q0
        have y1 := (hb.out.cell (p := ⟨g, o + k * 5 + 1, none⟩) hg).trans q1
        have y2 := (hb.out.cell (p := ⟨g, o + k * 5 + 2, none⟩) hg).trans q2
        have y3 := (hb.out.cell (p := ⟨g, o + k * 5 + 3, none⟩) hg).trans q3
        have y4 := (hb.out.cell (p := ⟨g, o + k * 5 + 4, none⟩) hg).trans q4
        have YA := Lib.hid ((hb.out.cell (p := ⟨Ba, 0, none⟩) hla).trans HA.out)
        have YB := Lib.hid ((hb.out.cell (p := ⟨Bb, 0, none⟩) hlb).trans HB.out)
        have HX := Lib.hid hx
        clear q0 q1 q2 q3 q4 hx hc
        obtain ⟨t, ht⟩ : ∃ t, joinsB x a b = t := ⟨_, rfl⟩
        have HT := Lib.hid ht
        clear ht
        go_wp2_with fail
        refine (joining1 x a b Ba Bb _ YA.out YB.out).mono ?_
        rw [HT.out]
        rintro e w5 ⟨rfl, hb5⟩
        have hb6 := Lib.hid (hb.out.trans (hb5.mono hb.out.size))
        clear hb5 y0 y1 y2 y3 y4
        cases t with
        | true =>
          have E := Lib.hid (firstI_at hN.out HX.out HT.out)
          go_wp2
          go_ret
          exact ⟨ret_int E.out.symm, hb6.out⟩
        | false =>
          have N2 := Lib.hid (hN.out.next HX.out HT.out)
          go_wp2
          go_roundw
          case rel => exact ⟨k + 1, by omega, by go_num, N2, hb6⟩
          case measure => simp [intOf]; omega
    · obtain rfl : k = l.length := by omega
      have E := Lib.hid (firstI_none hN.out)
      go_wp2
      go_ret
      exact ⟨ret_int E.out.symm, hb.out⟩
theorem implJoining (v : Value) (l : List SegmentD) (a b : Int) (w : World) (h : SlSegment w v l) :
    Calls Try.prog 128 #[v, .int .i64 a, .int .i64 b] w fun e w' => e = .returned (.int .i64 (firstI (fun s => joinsB s a b) l)) ∧ Below w.heap.size w w' := by
  have B := Lib.hid (Joins.below_alloc2 w (.cells #[.int .i64 a] 3) (.cells #[.int .i64 b] 3))
  have HS := Lib.hid (SlSegment.below h B.out)
  obtain ⟨A1, c1, rfl⟩ := h.at
  have c0 : ((w.alloc (.cells #[.int .i64 a] 3)).alloc (.cells #[.int .i64 b] 3)).cell? ⟨w.heap.size, 0, none⟩ = some (.int .i64 a) := ((Blk.new w #[.int .i64 a] 3).below (Joins.below_alloc1 _ _)).cell 0
  have c1' : ((w.alloc (.cells #[.int .i64 a] 3)).alloc (.cells #[.int .i64 b] 3)).cell? ⟨w.heap.size + 1, 0, none⟩ = some (.int .i64 b) := by
    have := (Blk.new (w.alloc (.cells #[.int .i64 a] 3)) #[.int .i64 b] 3).cell 0
    rw [World.size_alloc] at this
    exact this
  have C0 := Lib.hid c0
  have C1 := Lib.hid c1'
  clear c0 c1' h
  go_enter Try.func128, Try.ntmps128
  go_wp2_with fail
  refine (indexFunc_any _ l a b _ _ _ HS.out C0.out C1.out).mono ?_
  rintro e w1 ⟨rfl, hb1⟩
  have B1 := Lib.hid (B.out.trans (hb1.mono B.out.size))
  clear hb1
  go_wp2
  go_ret
  exact ⟨rfl, B1.out⟩
end Go.Proofs.Ytooeikimoheecaa
namespace Go.Proofs.Ytooeikimoheecaa
open Go
set_option maxRecDepth 100000
def nPts (e4 : Bool) : Nat := if e4 then 5 else 4
theorem npts_drawn (r : ChartRnd) : r.chart.points.length = nPts r.e4 := by
  obtain ⟨b, m, e3, e4, x0, y0, x1, y1, x2, y2, x3, y3, x4⟩ := r
  cases e4 <;> rfl
theorem names_drawn (r : ChartRnd) : ∀ x ∈ r.chart.points, PointD.wf x := by
  obtain ⟨b, m, e3, e4, x0, y0, x1, y1, x2, y2, x3, y3, x4⟩ := r
  cases e4
  · intro x hx
    simp [ChartRnd.chart] at hx
    rcases hx with rfl | rfl | rfl | rfl <;> (simp only [PointD.wf]; unfold maxLen; decide)
  · intro x hx
    simp [ChartRnd.chart] at hx
    rcases hx with rfl | rfl | rfl | rfl | rfl <;> (simp only [PointD.wf]; unfold maxLen; decide)
def ptData (l : List PointD) (k : Nat) : Bool := match l[k]? with | some x => nameB x.name && ((match l.findIdx? (fun p => p.name.data.toList == x.name.data.toList) with | some i => (i : Int) | none => -1) == (k : Int)) | none => true
theorem ptOk_data (l : List PointD) (k : Nat) : ptOk l k = ptData l k := by
  unfold ptOk ptData
  cases l[k]? with
  | none => rfl
  | some x =>
    simp only [namedI, ByteArray.toList_eq]
    cases List.findIdx? (fun p => p.name.data.toList == x.name.data.toList) l <;> rfl
theorem pts_good (b e4 : Bool) : ∀ j, j < nPts e4 → ptData (pts4 b ++ (if e4 = true then [⟨dock, true⟩] else [])) j = true := by
  intro j hj
  have h : (List.range (nPts e4)).all (ptData (pts4 b ++ (if e4 = true then [⟨dock, true⟩] else []))) = true := by
    cases b <;> cases e4 <;> kernel_rfl
  exact List.all_eq_true.1 h j (List.mem_range.2 hj)
theorem segB_mk {n : Nat} {s : SegmentD} (h : 0 ≤ s.a ∧ s.a < n ∧ 0 ≤ s.b ∧ s.b < n ∧ s.a ≠ s.b ∧ 0 ≤ s.depth ∧ s.depth ≤ 3000 ∧ 1 ≤ s.minutes ∧ s.minutes ≤ 240) : segB n s = true := by
  obtain ⟨h1, h2, h3, h4, h5, h6, h7, h8, h9⟩ := h
  unfold segB
  rw [inB_mk h1 (by omega), inB_mk h3 (by omega), inB_mk h6 h7, inB_mk h8 h9, show (s.a == s.b) = false by simpa using h5]
  rfl
theorem segs_good (r : ChartRnd) (hr : r.ok) : ∀ j, j < r.chart.segs.length → sgOk r.chart.points.length r.chart.segs j = true := by
  have key : ∀ (n : Nat) (l : List SegmentD), (∀ s ∈ l, segB n s = true) → (∀ k s, l[k]? = some s → aloneB l s k = true) → ∀ j, j < l.length → sgOk n l j = true := by
    intro n l h1 h2 j hj
    rw [sgOk_at (List.getElem?_eq_getElem hj), h1 _ (List.getElem_mem hj), h2 j _ (List.getElem?_eq_getElem hj)]; rfl
  obtain ⟨b, m, e3, e4, x0, y0, x1, y1, x2, y2, x3, y3, x4⟩ := r
  obtain ⟨hx0, hy0, hx1, hy1, hx2, hy2, hx3, hy3, hx4⟩ := hr
  dsimp only at hx0 hy0 hx1 hy1 hx2 hy2 hx3 hy3 hx4
  refine key _ _ ?_ ?_
  · cases e3 <;> cases e4 <;> (intro s hs; simp [ChartRnd.chart] at hs; refine segB_mk ?_)
    · rcases hs with rfl | rfl | rfl <;> (simp [ChartRnd.chart]; try omega)
    · rcases hs with rfl | rfl | rfl | rfl <;> (simp [ChartRnd.chart]; try omega)
    · rcases hs with rfl | rfl | rfl | rfl <;> (simp [ChartRnd.chart]; try omega)
    · rcases hs with rfl | rfl | rfl | rfl | rfl <;> (simp [ChartRnd.chart]; try omega)
  · intro k s hs
    cases e3 <;> cases e4 <;> simp only [ChartRnd.chart] at hs ⊢
    · match k, hs with
      | 0, hs => simp at hs; subst hs; rfl
      | 1, hs => simp at hs; subst hs; rfl
      | 2, hs => simp at hs; subst hs; rfl
      | k + 3, hs => simp at hs
    · match k, hs with
      | 0, hs => simp at hs; subst hs; rfl
      | 1, hs => simp at hs; subst hs; rfl
      | 2, hs => simp at hs; subst hs; rfl
      | 3, hs => simp at hs; subst hs; rfl
      | k + 4, hs => simp at hs
    · match k, hs with
      | 0, hs => simp at hs; subst hs; rfl
      | 1, hs => simp at hs; subst hs; rfl
      | 2, hs => simp at hs; subst hs; rfl
      | 3, hs => simp at hs; subst hs; rfl
      | k + 4, hs => simp at hs
    · match k, hs with
      | 0, hs => simp at hs; subst hs; rfl
      | 1, hs => simp at hs; subst hs; rfl
      | 2, hs => simp at hs; subst hs; rfl
      | 3, hs => simp at hs; subst hs; rfl
      | 4, hs => simp at hs; subst hs; rfl
      | k + 5, hs => simp at hs
theorem chart_drawn (r : ChartRnd) (hr : r.ok) : chartB r.chart = true := by
  obtain ⟨l0, l1⟩ := chart_len r
  refine chartB_mk (by omega) (by omega) (fun j hj => ?_) (segs_good r hr)
  rw [npts_drawn] at hj
  rw [ptOk_data]
  exact pts_good r.b r.e4 j hj
end Go.Proofs.Ytooeikimoheecaa
namespace Go.Proofs.Ytooeikimoheecaa
open Go.RowKit Go.Maps
set_option maxRecDepth 100000
abbrev DM := DataW Unit
def keyL (s : ByteArray) : Lit := .string s.data.toList
theorem keyL_lit (s : ByteArray) : WideAt.IsKeyLit (keyL s) := trivial
theorem keyL_inj {s t : ByteArray} (h : keyL s = keyL t) : (s.toList == t.toList) = true := by
  unfold keyL at h
  injection h with h
  have : s = t := by
    cases s; cases t
    simp only at h
    rw [ByteArray.mk.injEq]
    exact Array.toList_inj.1 h
  rw [this]; exact beq_self_eq_true _
theorem keyL_of {s t : ByteArray} (h : (s.toList == t.toList) = true) : keyL s = keyL t := by
  have h' : s.toList = t.toList := by simpa using h
  rw [ByteArray.toList_eq, ByteArray.toList_eq] at h'
  unfold keyL
  rw [h']
theorem keyL_ne {s t : ByteArray} (h : (s.toList == t.toList) = false) : keyL s ≠ keyL t := fun e => by rw [keyL_inj e] at h; cases h
/-- The map of a list whose first place is i. -/
def nameMap : Nat → List PointD → DM
  | _, [] => .map []
  | i, x :: l => (nameMap (i + 1) l).put (keyL x.name) (.lit (.int .i64 (i : Int)))
def putOne (D : DM) (x : Nat × PointD) : DM := D.put (keyL x.2.name) (.lit (.int .i64 (x.1 : Int)))
def putAll (ys : List (Nat × PointD)) : DM := ys.foldl putOne (.map [])
theorem putAll_snoc (ys : List (Nat × PointD)) (x : Nat × PointD) : putAll (ys ++ [x]) = (putAll ys).put (keyL x.2.name) (.lit (.int .i64 (x.1 : Int))) := by unfold putAll; rw [List.foldl_append]; rfl
/-- The last j points of l, from the last one back. -/
inductive BackOf (l : List PointD) : Nat → List (Nat × PointD) → Prop
  | nil : BackOf l 0 []
  | snoc {j : Nat} {ys : List (Nat × PointD)} {i : Nat} {x : PointD} : BackOf l j ys → i + j + 1 = l.length → l[i]? = some x → BackOf l (j + 1) (ys ++ [(i, x)])
theorem BackOf.len {l : List PointD} {j : Nat} {ys : List (Nat × PointD)} (h : BackOf l j ys) : ys.length = j := by
  induction h with
  | nil => rfl
  | snoc _ _ _ ih => simp [ih]
theorem BackOf.map {l : List PointD} {j : Nat} {ys : List (Nat × PointD)} (h : BackOf l j ys) : putAll ys = nameMap (l.length - j) (l.drop (l.length - j)) := by
  induction h with
  | nil => simp [putAll, nameMap]
  | @snoc j ys i x _ hi hx ih =>
    rw [putAll_snoc, ih]
    have e1 : l.length - (j + 1) = i := by omega
    have e2 : l.length - j = i + 1 := by omega
    rw [e1, e2]
    obtain ⟨hlt, rfl⟩ := List.getElem?_eq_some_iff.1 hx
    rw [List.drop_eq_getElem_cons hlt]
    rfl
theorem BackOf.all {l : List PointD} {ys : List (Nat × PointD)} (h : BackOf l l.length ys) : putAll ys = nameMap 0 l := by
  have := h.map
  rw [Nat.sub_self, List.drop_zero] at this
  exact this
theorem nameMap_tidy (i : Nat) (l : List PointD) : Tidy (nameMap i l) := by
  induction l generalizing i with
  | nil => exact tidy_empty
  | cons x l ih => exact (ih (i + 1)).put (keyL_lit _) _
def hasName (l : List PointD) (s : ByteArray) : Bool := l.any fun p => p.name.toList == s.toList
theorem nameMap_has (i : Nat) (l : List PointD) (s : ByteArray) : has (nameMap i l) (keyL s) = hasName l s := by
  induction l generalizing i with
  | nil => rfl
  | cons x l ih =>
    unfold nameMap hasName
    rw [List.any_cons]
    cases h : x.name.toList == s.toList with
    | true => rw [← keyL_of h, has_put_same (nameMap_tidy _ _).isMap (keyL_lit _)]; rfl
    | false => rw [has_put_other (keyL_ne h).symm, ih]; rfl
/-- No two points bear one name. -/
def NmApart (l : List PointD) : Prop := l.Pairwise fun p q => (p.name.toList == q.name.toList) = false
theorem hasName_false {l : List PointD} {s : ByteArray} : hasName l s = false ↔ ∀ q ∈ l, (q.name.toList == s.toList) = false := by
  unfold hasName; rw [List.any_eq_false]; simp
theorem beq_swap (a b : List UInt8) : (a == b) = (b == a) := BEq.comm
theorem nameMap_size (i : Nat) (l : List PointD) : size (nameMap i l) ≤ l.length ∧ (size (nameMap i l) = l.length ↔ NmApart l) := by
  induction l generalizing i with
  | nil => exact ⟨Nat.le_refl _, ⟨fun _ => List.Pairwise.nil, fun _ => rfl⟩⟩
  | cons x l ih =>
    obtain ⟨h1, h2⟩ := ih (i + 1)
    unfold nameMap NmApart
    rw [size_put (nameMap_tidy _ _), nameMap_has, List.length_cons, List.pairwise_cons]
    cases h : hasName l x.name with
    | true =>
      simp only [if_true]
      refine ⟨by omega, ⟨fun e => by omega, fun e => ?_⟩⟩
      have : hasName l x.name = false := hasName_false.2 fun q hq => by rw [beq_swap]; exact e.1 q hq
      rw [h] at this; cases this
    | false =>
      simp only [Bool.false_eq_true, if_false]
      refine ⟨by omega, ⟨fun e => ⟨fun q hq => by rw [beq_swap]; exact hasName_false.1 h q hq, h2.1 (by omega)⟩, fun e => by have := h2.2 e.2; omega⟩⟩
/-- All points are as they should be: all names are names, and no two are one. -/
def ptsB (l : List PointD) : Bool := decide (l.length ≤ 8) && (List.range l.length).all (ptOk l)
theorem ptsB_long {l : List PointD} (h : 8 < l.length) : ptsB l = false := by unfold ptsB; rw [decide_eq_false (by omega)]; rfl
theorem ptsB_iff {l : List PointD} (h8 : l.length ≤ 8) : ptsB l = true ↔ (∀ x ∈ l, nameB x.name = true) ∧ NmApart l := by
  unfold ptsB
  rw [decide_eq_true h8, Bool.true_and, List.all_eq_true]
  constructor
  · intro h
    have h' : ∀ (k : Nat) (x : PointD), l[k]? = some x → nameB x.name = true ∧ namedI l x.name = (k : Int) := fun k x hx => by
      have := h k (List.mem_range.2 (List.getElem?_eq_some_iff.1 hx).1)
      rw [ptOk_at hx, Bool.and_eq_true] at this
      exact ⟨this.1, by simpa using this.2⟩
    refine ⟨fun x hx => ?_, ?_⟩
    · obtain ⟨k, hk⟩ := List.getElem?_of_mem hx
      exact (h' k x hk).1
    · unfold NmApart
      rw [List.pairwise_iff_getElem]
      intro i j hi hj hij
      cases e : (l[i].name.toList == l[j].name.toList) with
      | false => rfl
      | true =>
        have e1 := (h' i _ (List.getElem?_eq_getElem hi)).2
        have e2 := (h' j _ (List.getElem?_eq_getElem hj)).2
        have e3 : l[i].name.toList = l[j].name.toList := by simpa using e
        unfold namedI at e1 e2
        rw [e3] at e1
        rw [e1] at e2
        omega
  · rintro ⟨h1, h2⟩ k hk
    have hk' := List.mem_range.1 hk
    rw [ptOk_at (List.getElem?_eq_getElem hk'), h1 _ (List.getElem_mem hk'), Bool.true_and]
    have : namedI l l[k].name = (k : Int) := namedI_at (x := l[k]) (fun j hj y hy => by
      obtain ⟨hjl, rfl⟩ := List.getElem?_eq_some_iff.1 hy
      exact (List.pairwise_iff_getElem.1 h2) j k hjl hk' hj) (List.getElem?_eq_getElem hk') (by simp)
    rw [this]; simp
/-- Every key that the map holds is a name, as far as the keys of 'left' are not meant. -/
def Named (l : List PointD) (left : Lit → Bool) : Prop := ∀ x ∈ l, nameB x.name = false → left (keyL x.name) = true
theorem Named.start (l : List PointD) : Named l (has (nameMap 0 l)) := fun x hx _ => by
  rw [nameMap_has]
  unfold hasName
  exact List.any_eq_true.2 ⟨x, hx, by simp⟩
theorem Named.next {l : List PointD} {left : Lit → Bool} {s : ByteArray} (h : Named l left) (hs : nameB s = true) : Named l (fun z => left z && !z.sameKey (keyL s)) := fun x hx hn => by
  show (left (keyL x.name) && !(keyL x.name).sameKey (keyL s)) = true
  rw [h x hx hn, Bool.true_and]
  have : keyL x.name ≠ keyL s := fun e => by
    have e' : x.name.toList = s.toList := by simpa using keyL_inj e
    have : x.name = s := by
      cases hx' : x.name; cases hs' : s
      rw [hx', hs'] at e
      unfold keyL at e
      injection e with e
      rw [ByteArray.mk.injEq]
      exact Array.toList_inj.1 e
    rw [this, hs] at hn; cases hn
  rw [sameKey_ne this]; rfl
theorem Named.stop {l : List PointD} {left : Lit → Bool} (h : Named l left) (h0 : ∀ kl, left kl = false) : ∀ x ∈ l, nameB x.name = true := fun x hx => by
  cases hn : nameB x.name with
  | true => rfl
  | false => have := h x hx hn; rw [h0] at this; cases this
theorem ptsB_no {l : List PointD} {s : ByteArray} (hh : has (nameMap 0 l) (keyL s) = true) (hs : nameB s = false) : ptsB l = false := by
  by_cases h8 : l.length ≤ 8
  · cases hp : ptsB l with
    | false => rfl
    | true =>
      rw [nameMap_has] at hh
      obtain ⟨x, hx, he⟩ := List.any_eq_true.1 hh
      have h1 := ((ptsB_iff h8).1 hp).1 x hx
      have : x.name = s := by
        have e := keyL_of he
        cases hx' : x.name; cases hs' : s
        rw [hx', hs'] at e
        unfold keyL at e
        injection e with e
        rw [ByteArray.mk.injEq]
        exact Array.toList_inj.1 e
      rw [this, hs] at h1; cases h1
  · exact ptsB_long (by omega)
theorem ptsB_end {l : List PointD} (h8 : l.length ≤ 8) (hn : ∀ x ∈ l, nameB x.name = true) : ptsB l = decide (size (nameMap 0 l) = l.length) := by
  rw [Bool.eq_iff_iff, ptsB_iff h8, decide_eq_true_iff, (nameMap_size 0 l).2]
  exact ⟨fun h => h.2, fun h => ⟨hn, h⟩⟩
end Go.Proofs.Ytooeikimoheecaa
