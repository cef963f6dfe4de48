
/- What AfloatLaw rests on, part 6: contracts and mathematics. -/
import Derived.Test.YtpimcbhjkednpaaAf3
import Derived.Test.YtpimcbhjkednpaaAf5
import Derived.Test.YtpimcbhjkednpaaAf0
import Derived.Test.YtpimcbhjkednpaaAf2
import Derived.StillTailTactics
import Derived.WalkKit
import Derived.Deep.AppendLies
import Derived.Test.YtpimcbhjkednpaaAf4
namespace Go.Proofs.Ytpimcbhjkednpaa
open Go
set_option maxRecDepth 100000
def nPts (e4 : Bool) : Nat := if e4 then 5 else 4
theorem npts_drawn (r : ChartRnd) : r.chart.points.length = nPts r.e4 := by
  obtain ⟨b, m, e3, e4, x0, y0, x1, y1, x2, y2, x3, y3, x4⟩ := r
  cases e4 <;> rfl
theorem names_drawn (r : ChartRnd) : ∀ x ∈ r.chart.points, PointD.wf x := by
  obtain ⟨b, m, e3, e4, x0, y0, x1, y1, x2, y2, x3, y3, x4⟩ := r
  cases e4
  · intro x hx
    simp [ChartRnd.chart] at hx
    rcases hx with rfl | rfl | rfl | rfl <;> (simp only [PointD.wf]; unfold maxLen; decide)
  · intro x hx
    simp [ChartRnd.chart] at hx
    rcases hx with rfl | rfl | rfl | rfl | rfl <;> (simp only [PointD.wf]; unfold maxLen; decide)
def ptData (l : List PointD) (k : Nat) : Bool := match l[k]? with | some x => nameB x.name && ((match l.findIdx? (fun p => p.name.data.toList == x.name.data.toList) with | some i => (i : Int) | none => -1) == (k : Int)) | none => true
theorem ptOk_data (l : List PointD) (k : Nat) : ptOk l k = ptData l k := by
  unfold ptOk ptData
  cases l[k]? with
  | none => rfl
  | some x =>
    simp only [namedI, ByteArray.toList_eq]
    cases List.findIdx? (fun p => p.name.data.toList == x.name.data.toList) l <;> rfl
theorem pts_good (b e4 : Bool) : ∀ j, j < nPts e4 → ptData (pts4 b ++ (if e4 = true then [⟨dock, true⟩] else [])) j = true := by
  intro j hj
  have h : (List.range (nPts e4)).all (ptData (pts4 b ++ (if e4 = true then [⟨dock, true⟩] else []))) = true := by
    cases b <;> cases e4 <;> kernel_rfl
  exact List.all_eq_true.1 h j (List.mem_range.2 hj)
theorem segB_mk {n : Nat} {s : SegmentD} (h : 0 ≤ s.a ∧ s.a < n ∧ 0 ≤ s.b ∧ s.b < n ∧ s.a ≠ s.b ∧ 0 ≤ s.depth ∧ s.depth ≤ 3000 ∧ 1 ≤ s.minutes ∧ s.minutes ≤ 240) : segB n s = true := by
  obtain ⟨h1, h2, h3, h4, h5, h6, h7, h8, h9⟩ := h
  unfold segB
  rw [inB_mk h1 (by omega), inB_mk h3 (by omega), inB_mk h6 h7, inB_mk h8 h9, show (s.a == s.b) = false by simpa using h5]
  rfl
theorem segs_good (r : ChartRnd) (hr : r.ok) : ∀ j, j < r.chart.segs.length → sgOk r.chart.points.length r.chart.segs j = true := by
  have key : ∀ (n : Nat) (l : List SegmentD), (∀ s ∈ l, segB n s = true) → (∀ k s, l[k]? = some s → aloneB l s k = true) → ∀ j, j < l.length → sgOk n l j = true := by
    intro n l h1 h2 j hj
    rw [sgOk_at (List.getElem?_eq_getElem hj), h1 _ (List.getElem_mem hj), h2 j _ (List.getElem?_eq_getElem hj)]; rfl
  obtain ⟨b, m, e3, e4, x0, y0, x1, y1, x2, y2, x3, y3, x4⟩ := r
  obtain ⟨hx0, hy0, hx1, hy1, hx2, hy2, hx3, hy3, hx4⟩ := hr
  dsimp only at hx0 hy0 hx1 hy1 hx2 hy2 hx3 hy3 hx4
  refine key _ _ ?_ ?_
  · cases e3 <;> cases e4 <;> (intro s hs; simp [ChartRnd.chart] at hs; refine segB_mk ?_)
    · rcases hs with rfl | rfl | rfl <;> (simp [ChartRnd.chart]; try omega)
    · rcases hs with rfl | rfl | rfl | rfl <;> (simp [ChartRnd.chart]; try omega)
    · rcases hs with rfl | rfl | rfl | rfl <;> (simp [ChartRnd.chart]; try omega)
    · rcases hs with rfl | rfl | rfl | rfl | rfl <;> (simp [ChartRnd.chart]; try omega)
  · intro k s hs
    cases e3 <;> cases e4 <;> simp only [ChartRnd.chart] at hs ⊢
    · match k, hs with
      | 0, hs => simp at hs; subst hs; rfl
      | 1, hs => simp at hs; subst hs; rfl
      | 2, hs => simp at hs; subst hs; rfl
      | k + 3, hs => simp at hs
    · match k, hs with
      | 0, hs => simp at hs; subst hs; rfl
      | 1, hs => simp at hs; subst hs; rfl
      | 2, hs => simp at hs; subst hs; rfl
      | 3, hs => simp at hs; subst hs; rfl
      | k + 4, hs => simp at hs
    · match k, hs with
      | 0, hs => simp at hs; subst hs; rfl
      | 1, hs => simp at hs; subst hs; rfl
      | 2, hs => simp at hs; subst hs; rfl
      | 3, hs => simp at hs; subst hs; rfl
      | k + 4, hs => simp at hs
    · match k, hs with
      | 0, hs => simp at hs; subst hs; rfl
      | 1, hs => simp at hs; subst hs; rfl
      | 2, hs => simp at hs; subst hs; rfl
      | 3, hs => simp at hs; subst hs; rfl
      | 4, hs => simp at hs; subst hs; rfl
      | k + 5, hs => simp at hs
theorem chart_drawn (r : ChartRnd) (hr : r.ok) : chartB r.chart = true := by
  obtain ⟨l0, l1⟩ := chart_len r
  refine chartB_mk (by omega) (by omega) (fun j hj => ?_) (segs_good r hr)
  rw [npts_drawn] at hj
  rw [ptOk_data]
  exact pts_good r.b r.e4 j hj
end Go.Proofs.Ytpimcbhjkednpaa
namespace Go.Proofs.Ytpimcbhjkednpaa
open Go.ChangeShapes Go.WideShapes Go.ChangeAt Go.Deep Go.RowKit
set_option maxRecDepth 100000
structure ShipD where
  name : ByteArray
  length : Int
  draught : Int
  line : Int
  tugs : Int
  slow : Bool
@[reducible] def ShipD.val (d : ShipD) : Value := .agg #[.string d.name, .int .i64 d.length, .int .i64 d.draught, .int .i64 d.line, .int .i64 d.tugs, .bool d.slow]
@[reducible] def ShipD.cells (d : ShipD) : List Value := [.string d.name, .int .i64 d.length, .int .i64 d.draught, .int .i64 d.line, .int .i64 d.tugs, .bool d.slow]
theorem shipLen (d : ShipD) : d.cells.length = 6 := rfl
section
variable {H : Type} {enc : TypeId × Value → H} {w : World} {base : Nat} {spare : Nat → Bool} {held : Bool}
def ShipD.wf (d : ShipD) : Prop := d.name.size ≤ maxLen ∧ (Lit.int .i64 d.length).wf = true ∧ (Lit.int .i64 d.draught).wf = true ∧ (Lit.int .i64 d.line).wf = true ∧ (Lit.int .i64 d.tugs).wf = true
end
end Go.Proofs.Ytpimcbhjkednpaa
namespace Go.Proofs.Ytpimcbhjkednpaa
def firstI {α : Type} (p : α → Bool) (l : List α) : Int := match l.findIdx? p with | some i => (i : Int) | none => -1
def NoOne {α : Type} (p : α → Bool) (l : List α) (k : Nat) : Prop := ∀ j, j < k → ∀ y, l[j]? = some y → p y = false
theorem NoOne.zero {α : Type} (p : α → Bool) (l : List α) : NoOne p l 0 := fun j hj => absurd hj (by omega)
theorem NoOne.next {α : Type} {p : α → Bool} {l : List α} {k : Nat} {x : α} (h : NoOne p l k) (hx : l[k]? = some x) (hn : p x = false) : NoOne p l (k + 1) := fun j hj y hy => by
  by_cases e : j = k
  · subst e; rw [hx] at hy; cases hy; exact hn
  · exact h j (by omega) y hy
theorem firstI_at {α : Type} {p : α → Bool} {l : List α} {k : Nat} {x : α} (h : NoOne p l k) (hx : l[k]? = some x) (hn : p x = true) : firstI p l = k := by
  have : l.findIdx? p = some k := by
    rw [List.findIdx?_eq_some_iff_getElem]
    obtain ⟨hk, rfl⟩ := List.getElem?_eq_some_iff.1 hx
    exact ⟨hk, hn, fun j hj => by rw [h j hj _ (List.getElem?_eq_getElem (by omega))]; simp⟩
  unfold firstI; rw [this]
theorem firstI_none {α : Type} {p : α → Bool} {l : List α} (h : NoOne p l l.length) : firstI p l = -1 := by
  have : l.findIdx? p = none := by
    rw [List.findIdx?_eq_none_iff]
    intro x hx
    obtain ⟨j, hj⟩ := List.getElem?_of_mem hx
    exact h j (List.getElem?_eq_some_iff.1 hj).1 x hj
  unfold firstI; rw [this]
end Go.Proofs.Ytpimcbhjkednpaa
namespace Go.Proofs.Ytpimcbhjkednpaa
open Go.RowKit
set_option maxRecDepth 100000
theorem isIndex_any (i : Int) (n : Nat) (w : World) : Calls Try.prog 66 #[.int .i64 i, .int .i64 (n : Int)] w fun e w' => e = .returned (.bool (inB i 0 ((n : Int) - 1))) ∧ w = w' := by
  by_cases h1 : 0 ≤ i
  · by_cases h2 : i < (n : Int)
    · have H := Lib.hid (inB_mk h1 (show i ≤ (n : Int) - 1 by omega))
      go_enter Try.func66, Try.ntmps66
      go_wp2
      go_ret
      exact ⟨ret_bool H.out.symm, rfl⟩
    · have H := Lib.hid (inB_no (x := i) (lo := 0) (hi := (n : Int) - 1) (.inr (by omega)))
      have h3 : decide (i < (n : Int)) = false := decide_eq_false h2
      go_enter Try.func66, Try.ntmps66
      go_wp2
      go_ret
      exact ⟨ret_bool H.out.symm, rfl⟩
  · have H := Lib.hid (inB_no (x := i) (lo := 0) (hi := (n : Int) - 1) (.inl (by omega)))
    have h3 : decide (0 ≤ i) = false := decide_eq_false h1
    go_enter Try.func66, Try.ntmps66
    go_wp2
    go_ret
    exact ⟨ret_bool H.out.symm, rfl⟩
set_option maxHeartbeats 2000000 in
theorem implSegmentOk (s : SegmentD) (n : Nat) (w : World) :
    Calls Try.prog 97 #[s.val, .int .i64 (n : Int)] w fun e w' => e = .returned (.bool (segB n s)) ∧ Below w.heap.size w w' := by
  obtain ⟨sa, sb, sd, sm, se⟩ := s
  have B := Lib.hid (Joins.below_alloc1 w (.cells #[.int .i64 sa, .int .i64 sb, .int .i64 sd, .int .i64 sm, .bool se] 49))
  have E0 := Lib.hid (show segB n ⟨sa, sb, sd, sm, se⟩ = (inB sa 0 ((n : Int) - 1) && inB sb 0 ((n : Int) - 1) && !(sa == sb) && decide (0 ≤ sd ∧ sd ≤ 3000) && decide (1 ≤ sm ∧ sm ≤ 240)) from rfl)
  rw [E0.out]
  clear E0
  cases h1 : inB sa 0 ((n : Int) - 1) with
  | false =>
    have H1 := Lib.hid h1
    clear h1
    go_enter Try.func97, Try.ntmps97
    go_wp2_with fail
    refine (isIndex_any _ _ _).mono ?_
    rw [H1.out]
    rintro e w1 ⟨rfl, rfl⟩
    go_wp2
    go_ret
    exact ⟨rfl, B.out⟩
  | true =>
    have H1 := Lib.hid h1
    clear h1
    cases h2 : inB sb 0 ((n : Int) - 1) with
    | false =>
      have H2 := Lib.hid h2
      clear h2
      go_enter Try.func97, Try.ntmps97
      go_wp2_with fail
      refine (isIndex_any _ _ _).mono ?_
      rw [H1.out]
      rintro e w1 ⟨rfl, rfl⟩
      go_wp2_with fail
      refine (isIndex_any _ _ _).mono ?_
      rw [H2.out]
      rintro e w1 ⟨rfl, rfl⟩
      go_wp2
      go_ret
      exact ⟨rfl, B.out⟩
    | true =>
      have H2 := Lib.hid h2
      clear h2
      have go : ∀ r : Bool, r = (!(sa == sb) && decide (0 ≤ sd ∧ sd ≤ 3000) && decide (1 ≤ sm ∧ sm ≤ 240)) → Calls Try.prog 97 #[.agg #[.int .i64 sa, .int .i64 sb, .int .i64 sd, .int .i64 sm, .bool se], .int .i64 (n : Int)] w fun e w' => e = .returned (.bool r) ∧ Below w.heap.size w w' := by
        intro r hr
        have HR := Lib.hid hr
        clear hr
        cases h3 : (sa == sb) with
        | true =>
          have E := Lib.hid (show r = false by rw [HR.out, h3]; rfl)
          have h3' : (sa != sb) = false := by rw [bne, h3]; rfl
          clear HR
          go_enter Try.func97, Try.ntmps97
          go_wp2_with fail
          refine (isIndex_any _ _ _).mono ?_
          rw [H1.out]
          rintro e w1 ⟨rfl, rfl⟩
          go_wp2_with fail
          refine (isIndex_any _ _ _).mono ?_
          rw [H2.out]
          rintro e w1 ⟨rfl, rfl⟩
          go_wp2
          go_ret
          exact ⟨ret_bool E.out.symm, B.out⟩
        | false =>
          have h3' : (sa != sb) = true := by rw [bne, h3]; rfl
          by_cases h4 : 0 ≤ sd
          · by_cases h5 : sd ≤ 3000
            · by_cases h6 : 1 ≤ sm
              · by_cases h7 : sm ≤ 240
                · have E := Lib.hid (show r = true by rw [HR.out, h3, decide_eq_true ⟨h4, h5⟩, decide_eq_true ⟨h6, h7⟩]; rfl)
                  clear HR
                  go_enter Try.func97, Try.ntmps97
                  go_wp2_with fail
                  refine (isIndex_any _ _ _).mono ?_
                  rw [H1.out]
                  rintro e w1 ⟨rfl, rfl⟩
                  go_wp2_with fail
                  refine (isIndex_any _ _ _).mono ?_
                  rw [H2.out]
                  rintro e w1 ⟨rfl, rfl⟩
                  go_wp2
                  go_ret
                  exact ⟨ret_bool E.out.symm, B.out⟩
                · have E := Lib.hid (show r = false by rw [HR.out, decide_eq_false (p := 1 ≤ sm ∧ sm ≤ 240) (by omega)]; simp)
                  have h8 : decide (sm ≤ 240) = false := decide_eq_false h7
                  clear HR
                  go_enter Try.func97, Try.ntmps97
                  go_wp2_with fail
                  refine (isIndex_any _ _ _).mono ?_
                  rw [H1.out]
                  rintro e w1 ⟨rfl, rfl⟩
                  go_wp2_with fail
                  refine (isIndex_any _ _ _).mono ?_
                  rw [H2.out]
                  rintro e w1 ⟨rfl, rfl⟩
                  go_wp2
                  go_ret
                  exact ⟨ret_bool E.out.symm, B.out⟩
              · have E := Lib.hid (show r = false by rw [HR.out, decide_eq_false (p := 1 ≤ sm ∧ sm ≤ 240) (by omega)]; simp)
                have h8 : decide (1 ≤ sm) = false := decide_eq_false h6
                clear HR
                go_enter Try.func97, Try.ntmps97
                go_wp2_with fail
                refine (isIndex_any _ _ _).mono ?_
                rw [H1.out]
                rintro e w1 ⟨rfl, rfl⟩
                go_wp2_with fail
                refine (isIndex_any _ _ _).mono ?_
                rw [H2.out]
                rintro e w1 ⟨rfl, rfl⟩
                go_wp2
                go_ret
                exact ⟨ret_bool E.out.symm, B.out⟩
            · have E := Lib.hid (show r = false by rw [HR.out, decide_eq_false (p := 0 ≤ sd ∧ sd ≤ 3000) (by omega)]; simp)
              have h8 : decide (sd ≤ 3000) = false := decide_eq_false h5
              clear HR
              go_enter Try.func97, Try.ntmps97
              go_wp2_with fail
              refine (isIndex_any _ _ _).mono ?_
              rw [H1.out]
              rintro e w1 ⟨rfl, rfl⟩
              go_wp2_with fail
              refine (isIndex_any _ _ _).mono ?_
              rw [H2.out]
              rintro e w1 ⟨rfl, rfl⟩
              go_wp2
              go_ret
              exact ⟨ret_bool E.out.symm, B.out⟩
          · have E := Lib.hid (show r = false by rw [HR.out, decide_eq_false (p := 0 ≤ sd ∧ sd ≤ 3000) (by omega)]; simp)
            have h8 : decide (0 ≤ sd) = false := decide_eq_false h4
            clear HR
            go_enter Try.func97, Try.ntmps97
            go_wp2_with fail
            refine (isIndex_any _ _ _).mono ?_
            rw [H1.out]
            rintro e w1 ⟨rfl, rfl⟩
            go_wp2_with fail
            refine (isIndex_any _ _ _).mono ?_
            rw [H2.out]
            rintro e w1 ⟨rfl, rfl⟩
            go_wp2
            go_ret
            exact ⟨ret_bool E.out.symm, B.out⟩
      exact go _ rfl
/-- The closure of segmentJoining. -/
theorem joining1 (s : SegmentD) (a b : Int) (Ba Bb : Nat) (w : World) (ha : w.cell? ⟨Ba, 0, none⟩ = some (.int .i64 a)) (hb : w.cell? ⟨Bb, 0, none⟩ = some (.int .i64 b)) :
    Calls Try.prog 106 #[s.val, .pointer (some ⟨Ba, 0, none⟩), .pointer (some ⟨Bb, 0, none⟩)] w fun e w' => e = .returned (.bool (joinsB s a b)) ∧ Below w.heap.size w w' := by
  obtain ⟨sa, sb, sd, sm, se⟩ := s
  have B := Lib.hid (Joins.below_alloc1 w (.cells #[.int .i64 sa, .int .i64 sb, .int .i64 sd, .int .i64 sm, .bool se] 49))
  have E := Lib.hid (show joinsB ⟨sa, sb, sd, sm, se⟩ a b = ((sa == a && sb == b) || (sa == b && sb == a)) from rfl)
  rw [E.out]
  clear E
  have ya := (B.out.cell (p := ⟨Ba, 0, none⟩) (World.block_lt_of_cell? w _ ha)).trans ha
  have yb := (B.out.cell (p := ⟨Bb, 0, none⟩) (World.block_lt_of_cell? w _ hb)).trans hb
  clear ha hb
  cases h1 : (sa == a) <;> cases h2 : (sb == b) <;> cases h3 : (sa == b) <;> cases h4 : (sb == a)
  all_goals
    go_enter Try.func106, Try.ntmps106
    go_wp2
    go_ret
    exact ⟨rfl, B.out⟩
set_option maxHeartbeats 2000000 in
theorem indexFunc_any (v : Value) (l : List SegmentD) (a b : Int) (Ba Bb : Nat) (w : World) (h : SlSegment w v l) (ha : w.cell? ⟨Ba, 0, none⟩ = some (.int .i64 a)) (hb : w.cell? ⟨Bb, 0, none⟩ = some (.int .i64 b)) :
    Calls Try.prog 105 #[v, .func (.func 106) #[] #[.pointer (some ⟨Ba, 0, none⟩), .pointer (some ⟨Bb, 0, none⟩)]] w fun e w' => e = .returned (.int .i64 (firstI (fun s => joinsB s a b) l)) ∧ Below w.heap.size w w' := by
  have HS := Lib.hid h
  have hl := h.1
  obtain ⟨A1, c1, rfl⟩ := h.at
  have hla : Ba < w.heap.size := World.block_lt_of_cell? w _ ha
  have hlb : Bb < w.heap.size := World.block_lt_of_cell? w _ hb
  have HA := Lib.hid ha
  have HB := Lib.hid hb
  clear h ha hb
  go_enter Try.func105, Try.ntmps105
  go_wp2
  go_loopw [8] (fun i wr => ∃ k : Nat, k ≤ l.length ∧ i = .int .i64 k ∧ Hid (NoOne (fun s => joinsB s a b) l k) ∧ Hid (Below w.heap.size w wr)) (fun i _ => l.length - (intOf i).toNat)
  case atStart => exact ⟨0, Nat.zero_le _, rfl, Lib.hid (NoOne.zero _ _), Lib.hid (Below.refl _ _)⟩
  case round =>
    obtain ⟨k, hk, rfl, hN, hb⟩ := hrel
    by_cases hlt : k < l.length
    · obtain ⟨x, hx⟩ : ∃ x, l[k]? = some x := ⟨_, List.getElem?_eq_getElem hlt⟩
      rcases HS.out.2 with ⟨he, _⟩ | ⟨g, o, c, e, hpos, hcap, hc⟩
      · rw [he] at hlt; simp at hlt
      · injection e with hA _ hcp
        subst hA hcp
        obtain ⟨q0, q1, q2, q3, q4⟩ := SlSegment.cells hc k x hx
        have hg : g < w.heap.size := World.block_lt_of_cell? w ⟨g, o + k * 5, none⟩ q0
        have y0 := (hb.out.cell (p := ⟨g, o + k * 5, none⟩) hg).trans q0
        have y1 := (hb.out.cell (p := ⟨g, o + k * 5 + 1, none⟩) hg).trans q1
        have y2 := (hb.out.cell (p := ⟨g, o + k * 5 + 2, none⟩) hg).trans q2
        have y3 := (hb.out.cell (p := ⟨g, o + k * 5 + 3, none⟩) hg).trans q3
        have y4 := (hb.out.cell (p := ⟨g, o + k * 5 + 4, none⟩) hg).trans q4
        have YA := Lib.hid ((hb.out.cell (p := ⟨Ba, 0, none⟩) hla).trans HA.out)
        have YB := Lib.hid ((hb.out.cell (p := ⟨Bb, 0, none⟩) hlb).trans HB.out)
        have HX := Lib.hid hx
        clear q0 q1 q2 q3 q4 hx hc
        obtain ⟨t, ht⟩ : ∃ t, joinsB x a b = t := ⟨_, rfl⟩
        have HT := Lib.hid ht
        clear ht
        go_wp2_with fail
        refine (joining1 x a b Ba Bb _ YA.out YB.out).mono ?_
        rw [HT.out]
        rintro e w5 ⟨rfl, hb5⟩
        have hb6 := Lib.hid (hb.out.trans (hb5.mono hb.out.size))
        clear hb5 y0 y1 y2 y3 y4
        cases t with
        | true =>
          have E := Lib.hid (firstI_at hN.out HX.out HT.out)
          go_wp2
          go_ret
          exact ⟨ret_int E.out.symm, hb6.out⟩
        | false =>
          have N2 := Lib.hid (hN.out.next HX.out HT.out)
          go_wp2
          go_roundw
          case rel => exact ⟨k + 1, by omega, by go_num, N2, hb6⟩
          case measure => simp [intOf]; omega
    · obtain rfl : k = l.length := by omega
      have E := Lib.hid (firstI_none hN.out)
      go_wp2
      go_ret
      exact ⟨ret_int E.out.symm, hb.out⟩
theorem implJoining (v : Value) (l : List SegmentD) (a b : Int) (w : World) (h : SlSegment w v l) :
    Calls Try.prog 98 #[v, .int .i64 a, .int .i64 b] w fun e w' => e = .returned (.int .i64 (firstI (fun s => joinsB s a b) l)) ∧ Below w.heap.size w w' := by
  have B := Lib.hid (Joins.below_alloc2 w (.cells #[.int .i64 a] 3) (.cells #[.int .i64 b] 3))
  have HS := Lib.hid (SlSegment.below h B.out)
  obtain ⟨A1, c1, rfl⟩ := h.at
  have c0 : ((w.alloc (.cells #[.int .i64 a] 3)).alloc (.cells #[.int .i64 b] 3)).cell? ⟨w.heap.size, 0, none⟩ = some (.int .i64 a) := ((Blk.new w #[.int .i64 a] 3).below (Joins.below_alloc1 _ _)).cell 0
  have c1' : ((w.alloc (.cells #[.int .i64 a] 3)).alloc (.cells #[.int .i64 b] 3)).cell? ⟨w.heap.size + 1, 0, none⟩ = some (.int .i64 b) := by
    have := (Blk.new (w.alloc (.cells #[.int .i64 a] 3)) #[.int .i64 b] 3).cell 0
    rw [World.size_alloc] at this
    exact this
  have C0 := Lib.hid c0
  have C1 := Lib.hid c1'
  clear c0 c1' h
  go_enter Try.func98, Try.ntmps98
  go_wp2_with fail
  refine (indexFunc_any _ l a b _ _ _ HS.out C0.out C1.out).mono ?_
  rintro e w1 ⟨rfl, hb1⟩
  have B1 := Lib.hid (B.out.trans (hb1.mono B.out.size))
  clear hb1
  go_wp2
  go_ret
  exact ⟨rfl, B1.out⟩
end Go.Proofs.Ytpimcbhjkednpaa
namespace Go.Proofs.Ytpimcbhjkednpaa
open Go.RowKit
set_option maxRecDepth 100000
def shipB (d : ShipD) : Bool := nameB d.name && inB d.length 10 400 && inB d.draught 100 2000 && inB d.line 0 3 && inB d.tugs 0 4
theorem shipB_of {d : ShipD} {b0 b1 b2 b3 b4 : Bool} (h0 : nameB d.name = b0) (h1 : inB d.length 10 400 = b1) (h2 : inB d.draught 100 2000 = b2) (h3 : inB d.line 0 3 = b3) (h4 : inB d.tugs 0 4 = b4) : shipB d = (b0 && b1 && b2 && b3 && b4) := by unfold shipB; rw [h0, h1, h2, h3, h4]
theorem shipB_true {d : ShipD} (h : shipB d = true) : nameB d.name = true ∧ 10 ≤ d.length ∧ d.length ≤ 400 ∧ 100 ≤ d.draught ∧ d.draught ≤ 2000 ∧ 0 ≤ d.line ∧ d.line ≤ 3 ∧ 0 ≤ d.tugs ∧ d.tugs ≤ 4 := by
  unfold shipB inB at h
  simp only [Bool.and_eq_true, decide_eq_true_iff] at h
  obtain ⟨⟨⟨⟨h0, h1⟩, h2⟩, h3⟩, h4⟩ := h
  exact ⟨h0, h1.1, h1.2, h2.1, h2.2, h3.1, h3.2, h4.1, h4.2⟩
set_option maxHeartbeats 4000000 in
theorem implShipOk (d : ShipD) (w : World) (hw : d.wf) :
    Calls Try.prog 40 #[d.val] w fun e w' => e = .returned (.bool (shipB d)) ∧ Below w.heap.size w w' := by
  replace hw : d.name.size ≤ maxLen := hw.1
  obtain ⟨b0, h0⟩ : ∃ b, nameB d.name = b := ⟨_, rfl⟩
  obtain ⟨b1, h1⟩ : ∃ b, inB d.length 10 400 = b := ⟨_, rfl⟩
  obtain ⟨b2, h2⟩ : ∃ b, inB d.draught 100 2000 = b := ⟨_, rfl⟩
  obtain ⟨b3, h3⟩ : ∃ b, inB d.line 0 3 = b := ⟨_, rfl⟩
  obtain ⟨b4, h4⟩ : ∃ b, inB d.tugs 0 4 = b := ⟨_, rfl⟩
  rw [shipB_of h0 h1 h2 h3 h4]
  obtain ⟨na, le, dr, li, tu, sl⟩ := d
  dsimp only at h0 h1 h2 h3 h4 hw
  dsimp only [ShipD.val]
  have H0 := Lib.hid h0
  have H1 := Lib.hid h1
  have H2 := Lib.hid h2
  have H3 := Lib.hid h3
  have H4 := Lib.hid h4
  clear h0 h1 h2 h3 h4
  have B := Lib.hid (Joins.below_alloc1 w (.cells #[.string na, .int .i64 le, .int .i64 dr, .int .i64 li, .int .i64 tu, .bool sl] 36))
  have K := Lib.hid (Blk.new w #[.string na, .int .i64 le, .int .i64 dr, .int .i64 li, .int .i64 tu, .bool sl] 36)

  cases b0 with
  | false =>
    rw [show (false && b1 && b2 && b3 && b4) = false by simp]
    go_enter Try.func40, Try.ntmps40
    go_wp2_with fail
    refine (implIsName na _ hw).mono ?_
    rw [H0.out]
    rintro e w1 ⟨rfl, hb1⟩
    have B1 := Lib.hid (B.out.trans (hb1.mono B.out.size))
    have K1 := K.out.below hb1
    have z1 := K1.cell 1
    have z2 := K1.cell 2
    have z3 := K1.cell 3
    have z4 := K1.cell 4
    simp at z1 z2 z3 z4
    clear hb1 K1
    go_wp2
    go_ret
    exact ⟨rfl, B1.out⟩
  | true =>
    cases b1 with
    | false =>
      rw [show (true && false && b2 && b3 && b4) = false by simp]
      have g1 : ¬ (10 ≤ le ∧ le ≤ 400) := by have := H1.out; unfold inB at this; exact of_decide_eq_false this
      by_cases l1 : 10 ≤ le
      · have u1 : decide (le ≤ 400) = false := decide_eq_false (by omega)
        clear g1
        go_enter Try.func40, Try.ntmps40
        go_wp2_with fail
        refine (implIsName na _ hw).mono ?_
        rw [H0.out]
        rintro e w1 ⟨rfl, hb1⟩
        have B1 := Lib.hid (B.out.trans (hb1.mono B.out.size))
        have K1 := K.out.below hb1
        have z1 := K1.cell 1
        have z2 := K1.cell 2
        have z3 := K1.cell 3
        have z4 := K1.cell 4
        simp at z1 z2 z3 z4
        clear hb1 K1
        go_wp2
        go_ret
        exact ⟨rfl, B1.out⟩
      · have u1 : decide (10 ≤ le) = false := decide_eq_false l1
        clear g1
        go_enter Try.func40, Try.ntmps40
        go_wp2_with fail
        refine (implIsName na _ hw).mono ?_
        rw [H0.out]
        rintro e w1 ⟨rfl, hb1⟩
        have B1 := Lib.hid (B.out.trans (hb1.mono B.out.size))
        have K1 := K.out.below hb1
        have z1 := K1.cell 1
        have z2 := K1.cell 2
        have z3 := K1.cell 3
        have z4 := K1.cell 4
        simp at z1 z2 z3 z4
        clear hb1 K1
        go_wp2
        go_ret
        exact ⟨rfl, B1.out⟩
    | true =>
      have g1 : 10 ≤ le ∧ le ≤ 400 := by have := H1.out; unfold inB at this; exact of_decide_eq_true this
      obtain ⟨l1, u1⟩ := g1
      cases b2 with
      | false =>
        rw [show (true && true && false && b3 && b4) = false by simp]
        have g2 : ¬ (100 ≤ dr ∧ dr ≤ 2000) := by have := H2.out; unfold inB at this; exact of_decide_eq_false this
        by_cases l2 : 100 ≤ dr
        · have u2 : decide (dr ≤ 2000) = false := decide_eq_false (by omega)
          clear g2
          go_enter Try.func40, Try.ntmps40
          go_wp2_with fail
          refine (implIsName na _ hw).mono ?_
          rw [H0.out]
          rintro e w1 ⟨rfl, hb1⟩
          have B1 := Lib.hid (B.out.trans (hb1.mono B.out.size))
          have K1 := K.out.below hb1
          have z1 := K1.cell 1
          have z2 := K1.cell 2
          have z3 := K1.cell 3
          have z4 := K1.cell 4
          simp at z1 z2 z3 z4
          clear hb1 K1
          go_wp2
          go_ret
          exact ⟨rfl, B1.out⟩
        · have u2 : decide (100 ≤ dr) = false := decide_eq_false l2
          clear g2
          go_enter Try.func40, Try.ntmps40
          go_wp2_with fail
          refine (implIsName na _ hw).mono ?_
          rw [H0.out]
          rintro e w1 ⟨rfl, hb1⟩
          have B1 := Lib.hid (B.out.trans (hb1.mono B.out.size))
          have K1 := K.out.below hb1
          have z1 := K1.cell 1
          have z2 := K1.cell 2
          have z3 := K1.cell 3
          have z4 := K1.cell 4
          simp at z1 z2 z3 z4
          clear hb1 K1
          go_wp2
          go_ret
          exact ⟨rfl, B1.out⟩
      | true =>
        have g2 : 100 ≤ dr ∧ dr ≤ 2000 := by have := H2.out; unfold inB at this; exact of_decide_eq_true this
        obtain ⟨l2, u2⟩ := g2
        cases b3 with
        | false =>
          rw [show (true && true && true && false && b4) = false by simp]
          go_enter Try.func40, Try.ntmps40
          go_wp2_with fail
          refine (implIsName na _ hw).mono ?_
          rw [H0.out]
          rintro e w1 ⟨rfl, hb1⟩
          have B1 := Lib.hid (B.out.trans (hb1.mono B.out.size))
          have K1 := K.out.below hb1
          have z1 := K1.cell 1
          have z2 := K1.cell 2
          have z3 := K1.cell 3
          have z4 := K1.cell 4
          simp at z1 z2 z3 z4
          clear hb1 K1
          go_wp2_with fail
          refine (isIndex_any _ 4 _).mono ?_
          rw [show inB li 0 (((4 : Nat) : Int) - 1) = inB li 0 3 from rfl, H3.out]
          rintro e w4 ⟨rfl, rfl⟩
          go_wp2
          go_ret
          exact ⟨rfl, B1.out⟩
        | true =>
          cases b4 with
          | false =>
            rw [show (true && true && true && true && false) = false by simp]
            have g4 : ¬ (0 ≤ tu ∧ tu ≤ 4) := by have := H4.out; unfold inB at this; exact of_decide_eq_false this
            by_cases l4 : 0 ≤ tu
            · have u4 : decide (tu ≤ 4) = false := decide_eq_false (by omega)
              clear g4
              go_enter Try.func40, Try.ntmps40
              go_wp2_with fail
              refine (implIsName na _ hw).mono ?_
              rw [H0.out]
              rintro e w1 ⟨rfl, hb1⟩
              have B1 := Lib.hid (B.out.trans (hb1.mono B.out.size))
              have K1 := K.out.below hb1
              have z1 := K1.cell 1
              have z2 := K1.cell 2
              have z3 := K1.cell 3
              have z4 := K1.cell 4
              simp at z1 z2 z3 z4
              clear hb1 K1
              go_wp2_with fail
              refine (isIndex_any _ 4 _).mono ?_
              rw [show inB li 0 (((4 : Nat) : Int) - 1) = inB li 0 3 from rfl, H3.out]
              rintro e w4 ⟨rfl, rfl⟩
              go_wp2
              go_ret
              exact ⟨rfl, B1.out⟩
            · have u4 : decide (0 ≤ tu) = false := decide_eq_false l4
              clear g4
              go_enter Try.func40, Try.ntmps40
              go_wp2_with fail
              refine (implIsName na _ hw).mono ?_
              rw [H0.out]
              rintro e w1 ⟨rfl, hb1⟩
              have B1 := Lib.hid (B.out.trans (hb1.mono B.out.size))
              have K1 := K.out.below hb1
              have z1 := K1.cell 1
              have z2 := K1.cell 2
              have z3 := K1.cell 3
              have z4 := K1.cell 4
              simp at z1 z2 z3 z4
              clear hb1 K1
              go_wp2_with fail
              refine (isIndex_any _ 4 _).mono ?_
              rw [show inB li 0 (((4 : Nat) : Int) - 1) = inB li 0 3 from rfl, H3.out]
              rintro e w4 ⟨rfl, rfl⟩
              go_wp2
              go_ret
              exact ⟨rfl, B1.out⟩
          | true =>
            have g4 : 0 ≤ tu ∧ tu ≤ 4 := by have := H4.out; unfold inB at this; exact of_decide_eq_true this
            obtain ⟨l4, u4⟩ := g4
            rw [show (true && true && true && true && true) = true from rfl]
            go_enter Try.func40, Try.ntmps40
            go_wp2_with fail
            refine (implIsName na _ hw).mono ?_
            rw [H0.out]
            rintro e w1 ⟨rfl, hb1⟩
            have B1 := Lib.hid (B.out.trans (hb1.mono B.out.size))
            have K1 := K.out.below hb1
            have z1 := K1.cell 1
            have z2 := K1.cell 2
            have z3 := K1.cell 3
            have z4 := K1.cell 4
            simp at z1 z2 z3 z4
            clear hb1 K1
            go_wp2_with fail
            refine (isIndex_any _ 4 _).mono ?_
            rw [show inB li 0 (((4 : Nat) : Int) - 1) = inB li 0 3 from rfl, H3.out]
            rintro e w4 ⟨rfl, rfl⟩
            go_wp2
            go_ret
            exact ⟨rfl, B1.out⟩
end Go.Proofs.Ytpimcbhjkednpaa
namespace Go.Proofs.Ytpimcbhjkednpaa
set_option maxRecDepth 100000
def squatI (d : ShipD) : Int := if shipB d = true then (if d.slow = true then d.draught.tdiv 50 else d.draught.tdiv 20) else 0
end Go.Proofs.Ytpimcbhjkednpaa
namespace Go.Proofs.Ytpimcbhjkednpaa
open Go.RowKit
variable {α : Type} {k : Nat} {cs : α → List Value} {t : TypeId}
/-- The value v is a list over memory that is new since w; what w held is as it was. -/
def GathO (k : Nat) (cs : α → List Value) (t : TypeId) (w : World) (v : Value) (acc : List α) (wr : World) : Prop := OwnOf k cs t wr w.heap.size v acc ∧ Below w.heap.size w wr
theorem GathO.size {w wr : World} {v : Value} {acc : List α} (h : GathO k cs t w v acc wr) : w.heap.size ≤ wr.heap.size := h.2.size
theorem GathO.empty {w wr : World} (hb : Below w.heap.size w wr) : GathO k cs t w (.slice none 0 0) [] wr := ⟨⟨by simp, .inl ⟨rfl, rfl⟩⟩, hb⟩
theorem GathO.below {w wr W : World} {v : Value} {acc : List α} (h : GathO k cs t w v acc wr) (hb : Below wr.heap.size wr W) : GathO k cs t w v acc W :=
  ⟨own_below h.1 hb, h.2.trans (hb.mono h.size)⟩
theorem GathO.next {w W w4 : World} {v : Value} {acc : List α} {x : α} {g4 cap4 : Nat} (h : GathO k cs t w v acc W)
    (hown : w4.ownsRow w.heap.size t k (.slice (some ⟨g4, 0, none⟩) (acc.length + 1) cap4) (acc.length + 1) (acc.flatMap cs ++ cs x)) (hgr : W.grownBy w4 v.ownBlock) :
    GathO k cs t w (.slice (some ⟨g4, 0, none⟩) (acc.length + 1) cap4) (acc ++ [x]) w4 := by
  refine ⟨?_, h.2.grown hgr h.size (fun b hb => (World.ownsRow.lt h.1 b hb).1)⟩
  simpa [OwnOf] using hown
theorem GathO.form {w wr : World} {v : Value} {acc : List α} (h : GathO k cs t w v acc wr) : ∃ A c, v = .slice A acc.length c := own_form h.1
end Go.Proofs.Ytpimcbhjkednpaa
namespace Go.Proofs.Ytpimcbhjkednpaa
open Go.RowKit
set_option maxRecDepth 100000
theorem str_none (t : ByteArray) : t ++ ⟨#[]⟩ = t := by apply ba_ext; simp [ByteArray.data_append]
theorem specFormat1 (n : Int) (w : World) (h0 : 0 ≤ n) (h1 : n ≤ 9) :
    Calls Try.prog 64 #[.int .i64 n] w fun e w' => e = .returned (.string (strOfNums [48 + n])) ∧ Below w.heap.size w w' := by
  go_enter Try.func64, Try.ntmps64
  go_wp2
  go_loopw [0, 3] (fun i q wr => ∃ t : ByteArray, i = .int .i64 n ∧ q = .string t ∧ Hid (t = ⟨#[]⟩) ∧ t.size ≤ 21 ∧ Below w.heap.size w wr) (fun _ _ _ => 0)
  case atStart => exact ⟨_, rfl, rfl, Lib.hid rfl, by simp [ByteArray.size], Below.refl _ _⟩
  case round =>
    obtain ⟨t, rfl, rfl, he, htz, hb⟩ := hrel
    have hsz := hb.size
    have hcv := conv_one wr (48 + n)
    have hs1 := strOfNums_size [48 + n]
    simp only [List.length_cons, List.length_nil] at hs1
    go_wp2
    go_ret
    refine ⟨ret_str ?_, hb.alloc hsz _⟩
    rw [he.out, str_none]
def shipName (i : Nat) : ByteArray := ⟨#[115]⟩ ++ strOfNums [48 + (i : Int)]
def shipGood (i : Nat) (d : ShipD) : Prop := d.name = shipName i ∧ 40 ≤ d.length ∧ d.length < 240 ∧ 600 ≤ d.draught ∧ d.draught < 1100 ∧ 0 ≤ d.line ∧ d.line < 4 ∧ 0 ≤ d.tugs ∧ d.tugs < 3
/-- What a drawn ship leaves. -/
def DrawsShip (p i : Nat) (w : World) (e : Ending) (w' : World) : Prop := ∃ d : ShipD, e = .returned d.val ∧ shipGood i d ∧ Cursor w' p ∧ w.grownBy w' (some p)
set_option maxHeartbeats 2000000 in
theorem l06Ship_any (p i : Nat) (w : World) (hi : i ≤ 9) (hcur : Cursor w p) : Calls Try.prog 37 #[.pointer (some ⟨p, 0, none⟩), .int .i64 (i : Int)] w (DrawsShip p i w) := by
  have hb0 := Joins.below_alloc1 w (.cells #[.string ⟨#[]⟩, .int .i64 0, .int .i64 0, .int .i64 0, .int .i64 0, .bool false] 36)
  have hp := hcur.lt
  have G0 := Lib.hid (grown_alloc w (.cells #[.string ⟨#[]⟩, .int .i64 0, .int .i64 0, .int .i64 0, .int .i64 0, .bool false] 36) (some p))
  have K0 := Lib.hid (Blk.new w #[.string ⟨#[]⟩, .int .i64 0, .int .i64 0, .int .i64 0, .int .i64 0, .bool false] 36)
  have HC0 := Lib.hid (hcur.below hb0)
  have HNP := Lib.hid (show some w.heap.size ≠ some p by simp; omega)
  have hs1 := strOfNums_size [48 + (i : Int)]
  simp only [List.length_cons, List.length_nil] at hs1
  clear hcur hb0
  go_enter Try.func37, Try.ntmps37
  go_wp2_with fail
  refine (specFormat1 (i : Int) _ (by omega) (by omega)).mono ?_
  rintro e w1 ⟨rfl, hb1⟩
  have hsz1 : w.heap.size + 1 ≤ w1.heap.size := by have := hb1.size; simpa using this
  have HC1 := Lib.hid (HC0.out.below hb1)
  have G1 := Lib.hid (grown_trans G0.out (grown_of_below hb1 (some p)))
  have K1 := Lib.hid (K0.out.below hb1)
  clear hb1 HC0 G0 K0
  go_wp2_with fail
  refine (l01Below_any p 200 _ (by omega) (by omega) HC1.out).mono ?_
  rintro e w2 ⟨x, rfl, x0, x1, hc, hg⟩
  have hsz2 : w.heap.size + 1 ≤ w2.heap.size := Nat.le_trans hsz1 hg.size
  have HC2 := Lib.hid hc
  have G2 := Lib.hid (grown_trans G1.out hg)
  have K2 := Lib.hid (K1.out.grown hg HNP.out)
  clear hc hg HC1 G1 K1
  go_wp2_with fail
  refine (l01Below_any p 500 _ (by omega) (by omega) HC2.out).mono ?_
  rintro e w3 ⟨y, rfl, y0, y1, hc, hg⟩
  have hsz3 : w.heap.size + 1 ≤ w3.heap.size := Nat.le_trans hsz2 hg.size
  have HC3 := Lib.hid hc
  have G3 := Lib.hid (grown_trans G2.out hg)
  have K3 := Lib.hid (K2.out.grown hg HNP.out)
  clear hc hg HC2 G2 K2
  go_wp2_with fail
  refine (l01Below_any p 4 _ (by omega) (by omega) HC3.out).mono ?_
  rintro e w4 ⟨z, rfl, z0, z1, hc, hg⟩
  have hsz4 : w.heap.size + 1 ≤ w4.heap.size := Nat.le_trans hsz3 hg.size
  have HC4 := Lib.hid hc
  have G4 := Lib.hid (grown_trans G3.out hg)
  have K4 := Lib.hid (K3.out.grown hg HNP.out)
  clear hc hg HC3 G3 K3
  go_wp2_with fail
  refine (l01Below_any p 3 _ (by omega) (by omega) HC4.out).mono ?_
  rintro e w5 ⟨u, rfl, u0, u1, hc, hg⟩
  have hsz5 : w.heap.size + 1 ≤ w5.heap.size := Nat.le_trans hsz4 hg.size
  have HC5 := Lib.hid hc
  have G5 := Lib.hid (grown_trans G4.out hg)
  have K5 := Lib.hid (K4.out.grown hg HNP.out)
  clear hc hg HC4 G4 K4
  go_wp2_with fail
  refine (l01Once_any p 4 _ (by omega) (by omega) HC5.out).mono ?_
  rintro e w6 ⟨b, rfl, hc, hg⟩
  have HC6 := Lib.hid hc
  have G6 := Lib.hid (grown_trans G5.out hg)
  have K6 := K5.out.grown hg HNP.out
  have hsz6 : w.heap.size < w6.heap.size := K6.lt
  have k0 := K6.cell 0
  have f0 : w6.frozen? ⟨w.heap.size, 0, none⟩ = false := K6.free 0
  have k1 := K6.cell 1
  have f1 : w6.frozen? ⟨w.heap.size, 1, none⟩ = false := K6.free 1
  have k2 := K6.cell 2
  have f2 : w6.frozen? ⟨w.heap.size, 2, none⟩ = false := K6.free 2
  have k3 := K6.cell 3
  have f3 : w6.frozen? ⟨w.heap.size, 3, none⟩ = false := K6.free 3
  have k4 := K6.cell 4
  have f4 : w6.frozen? ⟨w.heap.size, 4, none⟩ = false := K6.free 4
  have k5 := K6.cell 5
  have f5 : w6.frozen? ⟨w.heap.size, 5, none⟩ = false := K6.free 5
  simp at k0 k1 k2 k3 k4 k5
  clear hc hg HC5 G5 K5 K6
  go_wp2
  refine bodyPost_ret (v := .agg #[.string (⟨#[115]⟩ ++ strOfNums [48 + (i : Int)]), .int .i64 (40 + x), .int .i64 (600 + y), .int .i64 z, .int .i64 u, .bool b]) (by simp [results, Try.results37, go_sem, *]) rfl ⟨⟨_, _, _, _, _, _⟩, rfl, ⟨rfl, by show 40 ≤ 40 + x; omega, by show 40 + x < 240; omega, by show 600 ≤ 600 + y; omega, by show 600 + y < 1100; omega, z0, z1, u0, u1⟩, ?_, ?_⟩
  · exact (((((HC6.out.set hp _ _).set hp _ _).set hp _ _).set hp _ _).set hp _ _).set hp _ _
  · exact grown_setNew (grown_setNew (grown_setNew (grown_setNew (grown_setNew (grown_setNew G6.out (Nat.le_refl _) _) (Nat.le_refl _) _) (Nat.le_refl _) _) (Nat.le_refl _) _) (Nat.le_refl _) _) (Nat.le_refl _) _
theorem names_digit (i : Nat) (hi : i ≤ 2) : nameB (shipName i) = true := by
  match i, hi with
  | 0, _ => show nameB (shipName 0) = true; kernel_rfl
  | 1, _ => show nameB (shipName 1) = true; kernel_rfl
  | 2, _ => show nameB (shipName 2) = true; kernel_rfl
end Go.Proofs.Ytpimcbhjkednpaa
