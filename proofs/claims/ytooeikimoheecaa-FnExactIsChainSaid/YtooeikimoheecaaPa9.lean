
/- What ExactPassageOk and ExactArrivalOf and ExactPassagesOf and ExactIsChain rests on, part 9: contracts and mathematics. -/
import Derived.Test.YtooeikimoheecaaPa8
import Derived.Test.YtooeikimoheecaaPa0
import Derived.Test.YtooeikimoheecaaPa5
namespace Go.Proofs.Ytooeikimoheecaa
open Go.RowKit
set_option maxRecDepth 100000
theorem isIndex_any (i : Int) (n : Nat) (w : World) : Calls Try.prog 54 #[.int .i64 i, .int .i64 (n : Int)] w fun e w' => e = .returned (.bool (inB i 0 ((n : Int) - 1))) ∧ w = w' := by
  by_cases h1 : 0 ≤ i
  · by_cases h2 : i < (n : Int)
    · have H := Lib.hid (inB_mk h1 (show i ≤ (n : Int) - 1 by omega))
      go_enter Try.func54, Try.ntmps54
      go_wp2
      go_ret
      exact ⟨ret_bool H.out.symm, rfl⟩
    · have H := Lib.hid (inB_no (x := i) (lo := 0) (hi := (n : Int) - 1) (.inr (by omega)))
      have h3 : decide (i < (n : Int)) = false := decide_eq_false h2
      go_enter Try.func54, Try.ntmps54
      go_wp2
      go_ret
      exact ⟨ret_bool H.out.symm, rfl⟩
  · have H := Lib.hid (inB_no (x := i) (lo := 0) (hi := (n : Int) - 1) (.inl (by omega)))
    have h3 : decide (0 ≤ i) = false := decide_eq_false h1
    go_enter Try.func54, Try.ntmps54
    go_wp2
    go_ret
    exact ⟨ret_bool H.out.symm, rfl⟩
set_option maxHeartbeats 2000000 in
theorem implSegmentOk (s : SegmentD) (n : Nat) (w : World) :
    Calls Try.prog 127 #[s.val, .int .i64 (n : Int)] w fun e w' => e = .returned (.bool (segB n s)) ∧ Below w.heap.size w w' := by
  obtain ⟨sa, sb, sd, sm, se⟩ := s
  have B := Lib.hid (Joins.below_alloc1 w (.cells #[.int .i64 sa, .int .i64 sb, .int .i64 sd, .int .i64 sm, .bool se] 123))
  have E0 := Lib.hid (show segB n ⟨sa, sb, sd, sm, se⟩ = (inB sa 0 ((n : Int) - 1) && inB sb 0 ((n : Int) - 1) && !(sa == sb) && decide (0 ≤ sd ∧ sd ≤ 3000) && decide (1 ≤ sm ∧ sm ≤ 240)) from rfl)
  rw [E0.out]
  clear E0
  cases h1 : inB sa 0 ((n : Int) - 1) with
  | false =>
    have H1 := Lib.hid h1
    clear h1
    go_enter Try.func127, Try.ntmps127
    go_wp2_with fail
    refine (isIndex_any _ _ _).mono ?_
    rw [H1.out]
    rintro e w1 ⟨rfl, rfl⟩
    go_wp2
    go_ret
    exact ⟨rfl, B.out⟩
  | true =>
    have H1 := Lib.hid h1
    clear h1
    cases h2 : inB sb 0 ((n : Int) - 1) with
    | false =>
      have H2 := Lib.hid h2
      clear h2
      go_enter Try.func127, Try.ntmps127
      go_wp2_with fail
      refine (isIndex_any _ _ _).mono ?_
      rw [H1.out]
      rintro e w1 ⟨rfl, rfl⟩
      go_wp2_with fail
      refine (isIndex_any _ _ _).mono ?_
      rw [H2.out]
      rintro e w1 ⟨rfl, rfl⟩
      go_wp2
      go_ret
      exact ⟨rfl, B.out⟩
    | true =>
      have H2 := Lib.hid h2
      clear h2
      have go : ∀ r : Bool, r = (!(sa == sb) && decide (0 ≤ sd ∧ sd ≤ 3000) && decide (1 ≤ sm ∧ sm ≤ 240)) → Calls Try.prog 127 #[.agg #[.int .i64 sa, .int .i64 sb, .int .i64 sd, .int .i64 sm, .bool se], .int .i64 (n : Int)] w fun e w' => e = .returned (.bool r) ∧ Below w.heap.size w w' := by
        intro r hr
        have HR := Lib.hid hr
        clear hr
        cases h3 : (sa == sb) with
        | true =>
          have E := Lib.hid (show r = false by rw [HR.out, h3]; rfl)
          have h3' : (sa != sb) = false := by rw [bne, h3]; rfl
          clear HR
          go_enter Try.func127, Try.ntmps127
          go_wp2_with fail
          refine (isIndex_any _ _ _).mono ?_
          rw [H1.out]
          rintro e w1 ⟨rfl, rfl⟩
          go_wp2_with fail
          refine (isIndex_any _ _ _).mono ?_
          rw [H2.out]
          rintro e w1 ⟨rfl, rfl⟩
          go_wp2
          go_ret
          exact ⟨ret_bool E.out.symm, B.out⟩
        | false =>
          have h3' : (sa != sb) = true := by rw [bne, h3]; rfl
          by_cases h4 : 0 ≤ sd
          · by_cases h5 : sd ≤ 3000
            · by_cases h6 : 1 ≤ sm
              · by_cases h7 : sm ≤ 240
                · have E := Lib.hid (show r = true by rw [HR.out, h3, decide_eq_true ⟨h4, h5⟩, decide_eq_true ⟨h6, h7⟩]; rfl)
                  clear HR
                  go_enter Try.func127, Try.ntmps127
                  go_wp2_with fail
                  refine (isIndex_any _ _ _).mono ?_
                  rw [H1.out]
                  rintro e w1 ⟨rfl, rfl⟩
                  go_wp2_with fail
                  refine (isIndex_any _ _ _).mono ?_
                  rw [H2.out]
                  rintro e w1 ⟨rfl, rfl⟩
                  go_wp2
                  go_ret
                  exact ⟨ret_bool E.out.symm, B.out⟩
                · have E := Lib.hid (show r = false by rw [HR.out, decide_eq_false (p := 1 ≤ sm ∧ sm ≤ 240) (by omega)]; simp)
                  have h8 : decide (sm ≤ 240) = false := decide_eq_false h7
                  clear HR
                  go_enter Try.func127, Try.ntmps127
                  go_wp2_with fail
                  refine (isIndex_any _ _ _).mono ?_
                  rw [H1.out]
                  rintro e w1 ⟨rfl, rfl⟩
                  go_wp2_with fail
                  refine (isIndex_any _ _ _).mono ?_
                  rw [H2.out]
                  rintro e w1 ⟨rfl, rfl⟩
                  go_wp2
                  go_ret
                  exact ⟨ret_bool E.out.symm, B.out⟩
              · have E := Lib.hid (show r = false by rw [HR.out, decide_eq_false (p := 1 ≤ sm ∧ sm ≤ 240) (by omega)]; simp)
                have h8 : decide (1 ≤ sm) = false := decide_eq_false h6
                clear HR
                go_enter Try.func127, Try.ntmps127
                go_wp2_with fail
                refine (isIndex_any _ _ _).mono ?_
                rw [H1.out]
                rintro e w1 ⟨rfl, rfl⟩
                go_wp2_with fail
                refine (isIndex_any _ _ _).mono ?_
                rw [H2.out]
                rintro e w1 ⟨rfl, rfl⟩
                go_wp2
                go_ret
                exact ⟨ret_bool E.out.symm, B.out⟩
            · have E := Lib.hid (show r = false by rw [HR.out, decide_eq_false (p := 0 ≤ sd ∧ sd ≤ 3000) (by omega)]; simp)
              have h8 : decide (sd ≤ 3000) = false := decide_eq_false h5
              clear HR
              go_enter Try.func127, Try.ntmps127
              go_wp2_with fail
              refine (isIndex_any _ _ _).mono ?_
              rw [H1.out]
              rintro e w1 ⟨rfl, rfl⟩
              go_wp2_with fail
              refine (isIndex_any _ _ _).mono ?_
              rw [H2.out]
              rintro e w1 ⟨rfl, rfl⟩
              go_wp2
              go_ret
              exact ⟨ret_bool E.out.symm, B.out⟩
          · have E := Lib.hid (show r = false by rw [HR.out, decide_eq_false (p := 0 ≤ sd ∧ sd ≤ 3000) (by omega)]; simp)
            have h8 : decide (0 ≤ sd) = false := decide_eq_false h4
            clear HR
            go_enter Try.func127, Try.ntmps127
            go_wp2_with fail
            refine (isIndex_any _ _ _).mono ?_
            rw [H1.out]
            rintro e w1 ⟨rfl, rfl⟩
            go_wp2_with fail
            refine (isIndex_any _ _ _).mono ?_
            rw [H2.out]
            rintro e w1 ⟨rfl, rfl⟩
            go_wp2
            go_ret
            exact ⟨ret_bool E.out.symm, B.out⟩
      exact go _ rfl
/-- The closure of segmentJoining. -/
theorem joining1 (s : SegmentD) (a b : Int) (Ba Bb : Nat) (w : World) (ha : w.cell? ⟨Ba, 0, none⟩ = some (.int .i64 a)) (hb : w.cell? ⟨Bb, 0, none⟩ = some (.int .i64 b)) :
    Calls Try.prog 138 #[s.val, .pointer (some ⟨Ba, 0, none⟩), .pointer (some ⟨Bb, 0, none⟩)] w fun e w' => e = .returned (.bool (joinsB s a b)) ∧ Below w.heap.size w w' := by
  obtain ⟨sa, sb, sd, sm, se⟩ := s
  have B := Lib.hid (Joins.below_alloc1 w (.cells #[.int .i64 sa, .int .i64 sb, .int .i64 sd, .int .i64 sm, .bool se] 123))
  have E := Lib.hid (show joinsB ⟨sa, sb, sd, sm, se⟩ a b = ((sa == a && sb == b) || (sa == b && sb == a)) from rfl)
  rw [E.out]
  clear E
  have ya := (B.out.cell (p := ⟨Ba, 0, none⟩) (World.block_lt_of_cell? w _ ha)).trans ha
  have yb := (B.out.cell (p := ⟨Bb, 0, none⟩) (World.block_lt_of_cell? w _ hb)).trans hb
  clear ha hb
  cases h1 : (sa == a) <;> cases h2 : (sb == b) <;> cases h3 : (sa == b) <;> cases h4 : (sb == a)
  all_goals
    go_enter Try.func138, Try.ntmps138
    go_wp2
    go_ret
    exact ⟨rfl, B.out⟩
set_option maxHeartbeats 2000000 in
theorem indexFunc_any (v : Value) (l : List SegmentD) (a b : Int) (Ba Bb : Nat) (w : World) (h : SlSegment w v l) (ha : w.cell? ⟨Ba, 0, none⟩ = some (.int .i64 a)) (hb : w.cell? ⟨Bb, 0, none⟩ = some (.int .i64 b)) :
    Calls Try.prog 137 #[v, .func (.func 138) #[] #[.pointer (some ⟨Ba, 0, none⟩), .pointer (some ⟨Bb, 0, none⟩)]] w fun e w' => e = .returned (.int .i64 (firstI (fun s => joinsB s a b) l)) ∧ Below w.heap.size w w' := by
  have HS := Lib.hid h
  have hl := h.1
  obtain ⟨A1, c1, rfl⟩ := h.at
  have hla : Ba < w.heap.size := World.block_lt_of_cell? w _ ha
  have hlb : Bb < w.heap.size := World.block_lt_of_cell? w _ hb
  have HA := Lib.hid ha
  have HB := Lib.hid hb
  clear h ha hb
  go_enter Try.func137, Try.ntmps137
  go_wp2
  go_loopw [8] (fun i wr => ∃ k : Nat, k ≤ l.length ∧ i = .int .i64 k ∧ Hid (NoOne (fun s => joinsB s a b) l k) ∧ Hid (Below w.heap.size w wr)) (fun i _ => l.length - (intOf i).toNat)
  case atStart => exact ⟨0, Nat.zero_le _, rfl, Lib.hid (NoOne.zero _ _), Lib.hid (Below.refl _ _)⟩
  case round =>
    obtain ⟨k, hk, rfl, hN, hb⟩ := hrel
    by_cases hlt : k < l.length
    · obtain ⟨x, hx⟩ : ∃ x, l[k]? = some x := ⟨_, List.getElem?_eq_getElem hlt⟩
      rcases HS.out.2 with ⟨he, _⟩ | ⟨g, o, c, e, hpos, hcap, hc⟩
      · rw [he] at hlt; simp at hlt
      · injection e with hA _ hcp
        subst hA hcp
        obtain ⟨q0, q1, q2, q3, q4⟩ := SlSegment.cells hc k x hx
        have hg : g < w.heap.size := World.block_lt_of_cell? w ⟨g, o + k * 5, none⟩ q0
        have y0 := (hb.out.cell (p := ⟨g, o + k * 5, none⟩) hg).trans q0
        have y1 := (hb.out.cell (p := ⟨g, o + k * 5 + 1, none⟩) hg).trans q1
        have y2 := (hb.out.cell (p := ⟨g, o + k * 5 + 2, none⟩) hg).trans q2
        have y3 := (hb.out.cell (p := ⟨g, o + k * 5 + 3, none⟩) hg).trans q3
        have y4 := (hb.out.cell (p := ⟨g, o + k * 5 + 4, none⟩) hg).trans q4
        have YA := Lib.hid ((hb.out.cell (p := ⟨Ba, 0, none⟩) hla).trans HA.out)
        have YB := Lib.hid ((hb.out.cell (p := ⟨Bb, 0, none⟩) hlb).trans HB.out)
        have HX := Lib.hid hx
        clear q0 q1 q2 q3 q4 hx hc
        obtain ⟨t, ht⟩ : ∃ t, joinsB x a b = t := ⟨_, rfl⟩
        have HT := Lib.hid ht
        clear ht
        go_wp2_with fail
        refine (joining1 x a b Ba Bb _ YA.out YB.out).mono ?_
        rw [HT.out]
        rintro e w5 ⟨rfl, hb5⟩
        have hb6 := Lib.hid (hb.out.trans (hb5.mono hb.out.size))
        clear hb5 y0 y1 y2 y3 y4
        cases t with
        | true =>
          have E := Lib.hid (firstI_at hN.out HX.out HT.out)
          go_wp2
          go_ret
          exact ⟨ret_int E.out.symm, hb6.out⟩
        | false =>
          have N2 := Lib.hid (hN.out.next HX.out HT.out)
          go_wp2
          go_roundw
          case rel => exact ⟨k + 1, by omega, by go_num, N2, hb6⟩
          case measure => simp [intOf]; omega
    · obtain rfl : k = l.length := by omega
      have E := Lib.hid (firstI_none hN.out)
      go_wp2
      go_ret
      exact ⟨ret_int E.out.symm, hb.out⟩
theorem implJoining (v : Value) (l : List SegmentD) (a b : Int) (w : World) (h : SlSegment w v l) :
    Calls Try.prog 128 #[v, .int .i64 a, .int .i64 b] w fun e w' => e = .returned (.int .i64 (firstI (fun s => joinsB s a b) l)) ∧ Below w.heap.size w w' := by
  have B := Lib.hid (Joins.below_alloc2 w (.cells #[.int .i64 a] 3) (.cells #[.int .i64 b] 3))
  have HS := Lib.hid (SlSegment.below h B.out)
  obtain ⟨A1, c1, rfl⟩ := h.at
  have c0 : ((w.alloc (.cells #[.int .i64 a] 3)).alloc (.cells #[.int .i64 b] 3)).cell? ⟨w.heap.size, 0, none⟩ = some (.int .i64 a) := ((Blk.new w #[.int .i64 a] 3).below (Joins.below_alloc1 _ _)).cell 0
  have c1' : ((w.alloc (.cells #[.int .i64 a] 3)).alloc (.cells #[.int .i64 b] 3)).cell? ⟨w.heap.size + 1, 0, none⟩ = some (.int .i64 b) := by
    have := (Blk.new (w.alloc (.cells #[.int .i64 a] 3)) #[.int .i64 b] 3).cell 0
    rw [World.size_alloc] at this
    exact this
  have C0 := Lib.hid c0
  have C1 := Lib.hid c1'
  clear c0 c1' h
  go_enter Try.func128, Try.ntmps128
  go_wp2_with fail
  refine (indexFunc_any _ l a b _ _ _ HS.out C0.out C1.out).mono ?_
  rintro e w1 ⟨rfl, hb1⟩
  have B1 := Lib.hid (B.out.trans (hb1.mono B.out.size))
  clear hb1
  go_wp2
  go_ret
  exact ⟨rfl, B1.out⟩
end Go.Proofs.Ytooeikimoheecaa
namespace Go.Proofs.Ytooeikimoheecaa
open Go.RowKit
set_option maxRecDepth 100000
/-- The i-th segment. -/
def segAt (d : ChartD) (i : Int) : Option SegmentD := if 0 ≤ i then d.segs[i.toNat]? else none
theorem segAt_in {d : ChartD} {i : Int} (h : inB i 0 ((d.segs.length : Int) - 1) = true) : ∃ s, segAt d i = some s ∧ d.segs[i.toNat]? = some s ∧ 0 ≤ i ∧ i.toNat < d.segs.length := by
  unfold inB at h
  have h' := of_decide_eq_true h
  refine ⟨d.segs[i.toNat]'(by omega), ?_, List.getElem?_eq_getElem (by omega), h'.1, by omega⟩
  unfold segAt
  rw [if_pos h'.1, List.getElem?_eq_getElem (by omega)]
theorem segAt_out {d : ChartD} {i : Int} (h : inB i 0 ((d.segs.length : Int) - 1) = false) : segAt d i = none := by
  unfold inB at h
  have h' := of_decide_eq_false h
  unfold segAt
  by_cases h0 : 0 ≤ i
  · rw [if_pos h0, List.getElem?_eq_none (by omega)]
  · rw [if_neg h0]
/-- The sum of the minutes, while all elements are segments. -/
def minSum (d : ChartD) : List Int → Option Int
  | [] => some 0
  | i :: l => match segAt d i, minSum d l with | some s, some r => some (s.minutes + r) | _, _ => none
def minutesI (d : ChartD) (l : List Int) : Int := if chartB d = true then (minSum d l).getD (-1) else -1
theorem minutesI_bad {d : ChartD} {l : List Int} (h : chartB d = false) : minutesI d l = -1 := if_neg (by rw [h]; simp)
theorem minSum_append (d : ChartD) (a : List Int) (i : Int) : minSum d (a ++ [i]) = (match minSum d a, segAt d i with | some r, some s => some (r + s.minutes) | _, _ => none) := by
  induction a with
  | nil => simp only [List.nil_append, minSum]; cases segAt d i <;> simp
  | cons x a ih =>
    simp only [List.cons_append, minSum, ih]
    cases segAt d x <;> cases minSum d a <;> cases segAt d i <;> simp [Int.add_assoc]
theorem minSum_none {d : ChartD} {l : List Int} {k : Nat} {i : Int} (hx : l[k]? = some i) (h : segAt d i = none) : minSum d l = none := by
  induction l generalizing k with
  | nil => simp at hx
  | cons y l ih =>
    cases k with
    | zero => simp at hx; subst hx; simp [minSum, h]
    | succ k =>
      have := ih (k := k) (by simpa using hx)
      simp only [minSum, this]
      cases segAt d y <;> rfl
set_option maxHeartbeats 1000000 in
theorem specHas (v : Value) (l : List Int) (t : Int) (w : World) (h : SlInt w v l) :
    Calls Try.prog 122 #[v, .int .i64 t] w fun e w' => e = .returned (.bool (l.any (· == t))) ∧ w = w' := by
  obtain ⟨hl, h⟩ := h
  rcases h with ⟨rfl, A, c, rfl⟩ | ⟨g, o, c, rfl, hp, hcap, hc⟩
  · go_enter Try.func122, Try.ntmps122
    go_wp2
    refine wp_loop_rounds 1 ?_
    rw [rounds_succ]
    go_wp2
    go_ret
    exact ⟨rfl, rfl⟩
  · have HC := Lib.hid hc
    clear hc
    go_enter Try.func122, Try.ntmps122
    go_wp2
    go_loop [9] (fun i => ∃ k : Nat, k ≤ l.length ∧ i = .int .i64 k ∧ Hid (NoOne (· == t) l k)) (fun i => l.length - (intOf i).toNat)
    case atStart => exact ⟨0, Nat.zero_le _, rfl, Lib.hid (NoOne.zero _ _)⟩
    case round =>
      obtain ⟨k, hk, rfl, hN⟩ := hrel
      by_cases hlt : k < l.length
      · obtain ⟨x, hx⟩ : ∃ x, l[k]? = some x := ⟨_, List.getElem?_eq_getElem hlt⟩
        have q0 := SlInt.cells HC.out k x hx
        have HX := Lib.hid hx
        clear hx
        cases he : (x == t) with
        | true =>
          have E := Lib.hid (show l.any (· == t) = true from List.any_eq_true.2 ⟨x, List.mem_of_getElem? HX.out, he⟩)
          go_wp2
          go_ret
          exact ⟨ret_bool E.out.symm, rfl⟩
        | false =>
          have N2 := Lib.hid (hN.out.next HX.out he)
          go_wp2
          go_round
          case rel => exact ⟨k + 1, by omega, by go_num, N2⟩
          case measure => simp [intOf]; omega
      · obtain rfl : k = l.length := by omega
        have E := Lib.hid (show l.any (· == t) = false from List.any_eq_false.2 fun x hx => by
          obtain ⟨j, hj⟩ := List.getElem?_of_mem hx
          have h := hN.out j (List.getElem?_eq_some_iff.1 hj).1 x hj
          simpa using h)
        go_wp2
        go_ret
        exact ⟨ret_bool E.out.symm, rfl⟩
theorem minSum_pos {d : ChartD} (h : chartB d = true) : ∀ {l : List Int} {r : Int}, minSum d l = some r → 0 ≤ r ∧ r ≤ 240 * l.length := by
  intro l
  induction l with
  | nil => intro r hr; simp [minSum] at hr; subst hr; simp
  | cons i l ih =>
    intro r hr
    simp only [minSum] at hr
    cases hs : segAt d i with
    | none => rw [hs] at hr; simp at hr
    | some s =>
      cases hm : minSum d l with
      | none => rw [hs, hm] at hr; simp at hr
      | some q =>
        rw [hs, hm] at hr
        simp at hr
        have := ih hm
        have hsx : d.segs[i.toNat]? = some s := by
          unfold segAt at hs
          split at hs
          · exact hs
          · cases hs
        have := segB_true (chartB_seg h hsx)
        simp
        omega
set_option maxHeartbeats 4000000 in
theorem specRouteMinutes (v0 v1 : Value) (d : ChartD) (v : Value) (l : List Int) (w : World) (h : RdChart w v0 v1 d) (hl : SlInt w v l) (hw : ∀ x ∈ d.points, PointD.wf x) :
    Calls Try.prog 70 #[.agg #[v0, v1], v] w fun e w' => e = .returned (.int .i64 (minutesI d l)) ∧ Below w.heap.size w w' := by
  have HR := Lib.hid h
  have HWF := Lib.hid hw
  obtain ⟨h0, h1⟩ := h
  obtain ⟨A0, c0, rfl⟩ := h0.at
  obtain ⟨A1, c1, rfl⟩ := h1.at
  have HL := Lib.hid hl
  have hll := hl.1
  obtain ⟨A2, c2, rfl⟩ := hl.at
  have B := Lib.hid (Joins.below_alloc1 w (.cells #[.slice A0 d.points.length c0, .slice A1 d.segs.length c1] 32))
  have BB := Lib.hid (Blk.new w #[.slice A0 d.points.length c0, .slice A1 d.segs.length c1] 32)
  have H1 := Lib.hid h1
  have hl1 := h1.1
  clear h0 h1 hw hl
  cases hok : chartB d with
  | false =>
    have HOK := Lib.hid hok
    have E := Lib.hid (minutesI_bad (l := l) hok)
    clear hok
    go_enter Try.func70, Try.ntmps70
    go_wp2_with fail
    refine (specChartOk _ _ d _ (HR.out.below B.out) HWF.out).mono ?_
    rw [HOK.out]
    rintro e w1 ⟨rfl, hb1⟩
    have B1 := Lib.hid (B.out.trans (hb1.mono B.out.size))
    clear hb1
    go_wp2
    go_ret
    exact ⟨ret_int E.out.symm, B1.out⟩
  | true =>
    have HOK := Lib.hid hok
    have HG := Lib.hid (show minutesI d l = (minSum d l).getD (-1) from if_pos hok)
    clear hok
    go_enter Try.func70, Try.ntmps70
    go_wp2_with fail
    refine (specChartOk _ _ d _ (HR.out.below B.out) HWF.out).mono ?_
    rw [HOK.out]
    rintro e w1 ⟨rfl, hb1⟩
    have B1 := Lib.hid (B.out.trans (hb1.mono B.out.size))
    have hb1' := Lib.hid hb1
    clear hb1
    go_wp2
    go_loopw [5, 13] (fun q i wr => ∃ (k : Nat) (r : Int), k ≤ l.length ∧ i = .int .i64 k ∧ q = .int .i64 r ∧ Hid (minSum d (l.take k) = some r) ∧ wr = w1) (fun _ i _ => l.length - (intOf i).toNat)
    case atStart => exact ⟨0, 0, Nat.zero_le _, rfl, rfl, rfl, rfl⟩
    case round =>
      obtain ⟨k, r, hk, rfl, rfl, hM, rfl⟩ := hrel
      have z1 := (BB.out.below hb1'.out).cell 1
      simp at z1
      by_cases hlt : k < l.length
      · obtain ⟨i, hi⟩ : ∃ i, l[k]? = some i := ⟨_, List.getElem?_eq_getElem hlt⟩
        rcases HL.out.2 with ⟨he, _⟩ | ⟨g, o, c, e, hpos, hcap, hc⟩
        · rw [he] at hlt; simp at hlt
        · injection e with hA _ hcp
          subst hA hcp
          have q0 := SlInt.cells hc k i hi
          have hg : g < w.heap.size := World.block_lt_of_cell? w ⟨g, o + k, none⟩ q0
          have y0 := (B1.out.cell (p := ⟨g, o + k, none⟩) hg).trans q0
          have HI := Lib.hid hi
          have hr := minSum_pos HOK.out hM.out
          rw [List.length_take] at hr
          obtain ⟨hr0, hr1⟩ := hr
          clear q0 hi hc
          cases hin : inB i 0 ((d.segs.length : Int) - 1) with
          | false =>
            have HIN := Lib.hid hin
            have E := Lib.hid (show minutesI d l = -1 by rw [HG.out, minSum_none HI.out (segAt_out hin)]; rfl)
            clear hin
            go_wp2_with fail
            refine (l01In_any _ _ _ _).mono ?_
            rw [HIN.out]
            rintro e w2 ⟨rfl, rfl⟩
            go_wp2
            go_ret
            exact ⟨ret_int E.out.symm, B1.out⟩
          | true =>
            have HIN := Lib.hid hin
            obtain ⟨s, hs, hx, i0, ilt⟩ := segAt_in hin
            have hsb := segB_true (chartB_seg HOK.out hx)
            obtain ⟨_, _, _, _, _, _, _, hm0, hm1⟩ := hsb
            have M2 := Lib.hid (show minSum d (l.take (k + 1)) = some (r + s.minutes) by rw [take_snoc' l k i HI.out, minSum_append, hM.out, hs])
            obtain ⟨n, rfl⟩ : ∃ n : Nat, i = (n : Int) := ⟨i.toNat, by omega⟩
            simp only [Int.toNat_natCast] at hx ilt
            clear hin hs i0
            rcases H1.out.2 with ⟨he, _⟩ | ⟨g', o', c', e', hpos', hcap', hc'⟩
            · rw [he] at ilt; simp at ilt
            · injection e' with hA' _ hcp'
              subst hA' hcp'
              obtain ⟨_, _, _, q3, _⟩ := SlSegment.cells hc' n s hx
              have hg' : g' < w.heap.size := World.block_lt_of_cell? w ⟨g', o' + n * 5 + 3, none⟩ q3
              have y3 := (B1.out.cell (p := ⟨g', o' + n * 5 + 3, none⟩) hg').trans q3
              clear q3 hx hc'
              have hadd : IntKind.i64.wrap (r + s.minutes) = r + s.minutes := by rw [IntKind.wrap_i64]; omega
              go_wp2_with fail
              refine (l01In_any _ _ _ _).mono ?_
              rw [HIN.out]
              rintro e w2 ⟨rfl, rfl⟩
              go_wp2
              go_roundw
              case rel => exact ⟨k + 1, _, by omega, by go_num, rfl, M2, trivial⟩
              case measure => simp [intOf]; omega
      · obtain rfl : k = l.length := by omega
        have E := Lib.hid (show minutesI d l = r by have := hM.out; rw [List.take_length] at this; rw [HG.out, this]; rfl)
        go_wp2
        go_ret
        exact ⟨ret_int E.out.symm, B1.out⟩
end Go.Proofs.Ytooeikimoheecaa
