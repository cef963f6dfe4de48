
/- What ExactSailRoute and ExactFirstSail rests on, part 8: contracts and mathematics. -/
import Derived.Test.YtooeikimoheecaaGreatSf7
import Derived.Test.YtooeikimoheecaaGreatSf0
import Derived.Test.YtooeikimoheecaaGreatSf6
import Derived.OwnWalkIn
import Derived.Laws.AppendOwn
import Derived.RangeFuncNested
import Derived.Test.YtooeikimoheecaaGreatSf1
import Derived.Deep.AppendLies
import Derived.Deep.Upon
import Derived.Test.YtooeikimoheecaaGreatSf2
import Derived.IntWalk
namespace Go.Proofs.YtooeikimoheecaaGreat
open Go.RowKit
set_option maxRecDepth 100000
theorem take_all_parts {l : List PartD} {k : Nat} (h : ∀ j x, j < k → l[j]? = some x → partB x = true) (hk : l.length ≤ k) : ∀ x ∈ l, partB x = true := by
  intro x hx
  obtain ⟨j, hj⟩ := List.getElem?_of_mem hx
  exact h j x (Nat.lt_of_lt_of_le (List.getElem?_eq_some_iff.1 hj).1 hk) hj
/-- The first k parts are valid. -/
def FirstOk (l : List PartD) (k : Nat) : Prop := ∀ j x, j < k → l[j]? = some x → partB x = true
theorem FirstOk.next {l : List PartD} {k : Nat} {x : PartD} (h : FirstOk l k) (hx : l[k]? = some x) (hp : partB x = true) : FirstOk l (k + 1) := by
  intro j y hj hy
  by_cases e : j = k
  · subst e; rw [hx] at hy; rw [← Option.some.inj hy]; exact hp
  · exact h j y (by omega) hy
set_option maxHeartbeats 1000000 in
theorem implTideOk (m : Int) (v : Value) (l : List PartD) (w : World) (h : SlP w v l) :
    Calls Tryz.prog 148 #[.agg #[.int .i64 m, v]] w fun e w' => e = .returned (.bool (tideB m l)) ∧ Below w.heap.size w w' := by
  have H := Lib.hid h
  have hl := h.1
  by_cases h1 : m < -1000
  · obtain ⟨A, c, rfl⟩ := h.at
    have E := Lib.hid (tideB_no (m := m) (l := l) (by omega))
    clear h
    go_enter Tryz.func148, Tryz.ntmps148
    go_wp2
    go_ret
    exact ⟨ret_bool E.out.symm, Joins.below_alloc1 _ _⟩
  · by_cases h2 : 1000 < m
    · obtain ⟨A, c, rfl⟩ := h.at
      have E := Lib.hid (tideB_no (m := m) (l := l) (by omega))
      clear h
      go_enter Tryz.func148, Tryz.ntmps148
      go_wp2
      go_ret
      exact ⟨ret_bool E.out.symm, Joins.below_alloc1 _ _⟩
    · by_cases h3 : 4 < l.length
      · obtain ⟨A, c, rfl⟩ := h.at
        have E := Lib.hid (tideB_no (m := m) (l := l) (by omega))
        clear h
        go_enter Tryz.func148, Tryz.ntmps148
        go_wp2
        go_ret
        exact ⟨ret_bool E.out.symm, Joins.below_alloc1 _ _⟩
      · obtain ⟨_, h⟩ := h
        rcases h with ⟨rfl, A, c, rfl⟩ | ⟨g, o, c, rfl, hp, hcap, hc⟩
        · have E := Lib.hid (tideB_mk (m := m) (l := []) ⟨by omega, by omega, by simp, by simp⟩)
          go_enter Tryz.func148, Tryz.ntmps148
          go_wp2
          refine wp_loop_rounds 1 ?_
          rw [rounds_succ]
          go_wp2
          go_ret
          exact ⟨ret_bool E.out.symm, Joins.below_alloc1 _ _⟩
        · have HC := Lib.hid hc
          clear hc
          go_enter Tryz.func148, Tryz.ntmps148
          go_wp2
          go_loopw [22] (fun i wr => ∃ k : Nat, k ≤ l.length ∧ i = .int .i64 k ∧ Hid (FirstOk l k) ∧ Below w.heap.size w wr) (fun i _ => l.length - (intOf i).toNat)
          case atStart => exact ⟨0, Nat.zero_le _, rfl, Lib.hid (fun j x hj => absurd hj (by omega)), Joins.below_alloc1 _ _⟩
          case round =>
            obtain ⟨k, hk, rfl, hF, hb⟩ := hrel
            by_cases hlt : k < l.length
            · obtain ⟨x, hx⟩ : ∃ x, l[k]? = some x := ⟨_, List.getElem?_eq_getElem hlt⟩
              obtain ⟨p0, p1, p2⟩ := SlP.cells HC.out k x hx
              have hg : g < w.heap.size := World.block_lt_of_cell? w ⟨g, o + k * 3, none⟩ p0
              have a0 := (hb.cell (p := ⟨g, o + k * 3, none⟩) hg).trans p0
              have a1 := (hb.cell (p := ⟨g, o + k * 3 + 1, none⟩) hg).trans p1
              have a2 := (hb.cell (p := ⟨g, o + k * 3 + 2, none⟩) hg).trans p2
              have hbs := hb.size
              have HX := Lib.hid hx
              have hb' := Lib.hid hb
              clear p0 p1 p2 hx hb
              cases hpx : partB x with
              | false =>
                have E := Lib.hid (tideB_bad (m := m) x k HX.out hpx)
                have HPX := Lib.hid hpx
                clear hpx
                go_wp2_with fail
                refine (implPartOk x _).mono ?_
                rw [HPX.out]
                rintro e w1 ⟨rfl, hb1⟩
                have HB1 := Lib.hid hb1
                clear hb1
                go_wp2
                go_ret
                refine ⟨ret_bool E.out.symm, ?_⟩
                repeat (first | exact hb'.out | refine Below.setCell ?_ (by first | omega | (simp <;> omega)) _ | refine Below.alloc ?_ (by first | omega | (simp <;> omega)) _ | refine Below.trans ?_ (HB1.out.mono (by first | omega | (simp <;> omega))))
              | true =>
                have F := Lib.hid (hF.out.next HX.out hpx)
                have HPX := Lib.hid hpx
                clear hpx
                go_wp2_with fail
                refine (implPartOk x _).mono ?_
                rw [HPX.out]
                rintro e w1 ⟨rfl, hb1⟩
                have HB1 := Lib.hid hb1
                clear hb1
                go_wp2
                go_roundw
                case rel =>
                  refine ⟨k + 1, by omega, by go_num, F, ?_⟩
                  repeat (first | exact hb'.out | refine Below.setCell ?_ (by first | omega | (simp <;> omega)) _ | refine Below.alloc ?_ (by first | omega | (simp <;> omega)) _ | refine Below.trans ?_ (HB1.out.mono (by first | omega | (simp <;> omega))))
                case measure => simp [intOf]; omega
            · have E := Lib.hid (tideB_mk (m := m) (l := l) ⟨by omega, by omega, by omega, take_all_parts hF.out (by omega)⟩)
              go_wp2
              go_ret
              exact ⟨ret_bool E.out.symm, hb⟩
set_option maxHeartbeats 1000000 in
theorem specTideOk (m : Int) (v : Value) (l : List PartD) (w : World) (h : SlP w v l) :
    Calls Tryz.prog 82 #[.agg #[.int .i64 m, v]] w fun e w' => e = .returned (.bool (tideB m l)) ∧ Below w.heap.size w w' := by
  have H := Lib.hid h
  have hl := h.1
  by_cases h1 : m < -1000 ∨ 1000 < m
  · obtain ⟨A, c, rfl⟩ := h.at
    have E := Lib.hid (tideB_no (m := m) (l := l) (by omega))
    have E1 := Lib.hid (inB_no (x := m) (lo := -1000) (hi := 1000) h1)
    clear h h1
    go_enter Tryz.func82, Tryz.ntmps82
    go_wp2_with fail
    refine (l01In_any _ _ _ _).mono ?_
    rintro e w1 ⟨rfl, rfl⟩
    rw [E1.out]
    go_wp2
    go_ret
    exact ⟨ret_bool E.out.symm, Joins.below_alloc1 _ _⟩
  · have E1 := Lib.hid (inB_mk (x := m) (lo := -1000) (hi := 1000) (by omega) (by omega))
    have m0 : -1000 ≤ m := by omega
    have m1 : m ≤ 1000 := by omega
    clear h1
    by_cases h3 : 4 < l.length
    · obtain ⟨A, c, rfl⟩ := h.at
      have E := Lib.hid (tideB_no (m := m) (l := l) (by omega))
      clear h
      go_enter Tryz.func82, Tryz.ntmps82
      go_wp2_with fail
      refine (l01In_any _ _ _ _).mono ?_
      rintro e w1 ⟨rfl, rfl⟩
      rw [E1.out]
      go_wp2
      go_ret
      exact ⟨ret_bool E.out.symm, Joins.below_alloc1 _ _⟩
    · obtain ⟨_, h⟩ := h
      rcases h with ⟨rfl, A, c, rfl⟩ | ⟨g, o, c, rfl, hp, hcap, hc⟩
      · have E := Lib.hid (tideB_mk (m := m) (l := []) ⟨by omega, by omega, by simp, by simp⟩)
        go_enter Tryz.func82, Tryz.ntmps82
        go_wp2_with fail
        refine (l01In_any _ _ _ _).mono ?_
        rintro e w1 ⟨rfl, rfl⟩
        rw [E1.out]
        go_wp2
        refine wp_loop_rounds 1 ?_
        rw [rounds_succ]
        go_wp2
        go_ret
        exact ⟨ret_bool E.out.symm, Joins.below_alloc1 _ _⟩
      · have HC := Lib.hid hc
        clear hc
        go_enter Tryz.func82, Tryz.ntmps82
        go_wp2_with fail
        refine (l01In_any _ _ _ _).mono ?_
        rintro e w1 ⟨rfl, rfl⟩
        rw [E1.out]
        go_wp2
        go_loopw [18] (fun i wr => ∃ k : Nat, k ≤ l.length ∧ i = .int .i64 k ∧ Hid (FirstOk l k) ∧ Below w.heap.size w wr) (fun i _ => l.length - (intOf i).toNat)
        case atStart => exact ⟨0, Nat.zero_le _, rfl, Lib.hid (fun j x hj => absurd hj (by omega)), Joins.below_alloc1 _ _⟩
        case round =>
          obtain ⟨k, hk, rfl, hF, hb⟩ := hrel
          by_cases hlt : k < l.length
          · obtain ⟨x, hx⟩ : ∃ x, l[k]? = some x := ⟨_, List.getElem?_eq_getElem hlt⟩
            obtain ⟨p0, p1, p2⟩ := SlP.cells HC.out k x hx
            have hg : g < w.heap.size := World.block_lt_of_cell? w ⟨g, o + k * 3, none⟩ p0
            have a0 := (hb.cell (p := ⟨g, o + k * 3, none⟩) hg).trans p0
            have a1 := (hb.cell (p := ⟨g, o + k * 3 + 1, none⟩) hg).trans p1
            have a2 := (hb.cell (p := ⟨g, o + k * 3 + 2, none⟩) hg).trans p2
            have hbs := hb.size
            have HX := Lib.hid hx
            have hb' := Lib.hid hb
            clear p0 p1 p2 hx hb
            cases hpx : partB x with
            | false =>
              have E := Lib.hid (tideB_bad (m := m) x k HX.out hpx)
              have HPX := Lib.hid hpx
              clear hpx
              go_wp2_with fail
              refine (specPartOk x _).mono ?_
              rw [HPX.out]
              rintro e w1 ⟨rfl, hb1⟩
              have HB1 := Lib.hid hb1
              clear hb1
              go_wp2
              go_ret
              refine ⟨ret_bool E.out.symm, ?_⟩
              repeat (first | exact hb'.out | refine Below.setCell ?_ (by first | omega | (simp <;> omega)) _ | refine Below.alloc ?_ (by first | omega | (simp <;> omega)) _ | refine Below.trans ?_ (HB1.out.mono (by first | omega | (simp <;> omega))))
            | true =>
              have F := Lib.hid (hF.out.next HX.out hpx)
              have HPX := Lib.hid hpx
              clear hpx
              go_wp2_with fail
              refine (specPartOk x _).mono ?_
              rw [HPX.out]
              rintro e w1 ⟨rfl, hb1⟩
              have HB1 := Lib.hid hb1
              clear hb1
              go_wp2
              go_roundw
              case rel =>
                refine ⟨k + 1, by omega, by go_num, F, ?_⟩
                repeat (first | exact hb'.out | refine Below.setCell ?_ (by first | omega | (simp <;> omega)) _ | refine Below.alloc ?_ (by first | omega | (simp <;> omega)) _ | refine Below.trans ?_ (HB1.out.mono (by first | omega | (simp <;> omega))))
              case measure => simp [intOf]; omega
          · have E := Lib.hid (tideB_mk (m := m) (l := l) ⟨by omega, by omega, by omega, take_all_parts hF.out (by omega)⟩)
            go_wp2
            go_ret
            exact ⟨ret_bool E.out.symm, hb⟩
end Go.Proofs.YtooeikimoheecaaGreat
namespace Go.Proofs.YtooeikimoheecaaGreat
open Go.ChangeShapes Go.WideShapes Go.ChangeAt Go.Deep Go.RowKit
set_option maxRecDepth 100000
section
variable {H : Type} {enc : TypeId × Value → H} {w : World} {base : Nat} {spare : Nat → Bool} {held : Bool}
def PartD.wf (d : PartD) : Prop := (Lit.int .i64 d.amp).wf = true ∧ (Lit.int .i64 d.per).wf = true ∧ (Lit.int .i64 d.pha).wf = true
theorem dec_part (n : Nat) (cs : List Value) (y : DataW H × List MemPlace) (h : DataW.trod enc Tryz.prog w base spare held n 150 cs = some y) : ∃ d : PartD, cs = d.cells ∧ d.wf := by
  obtain ⟨hl, hf⟩ := struct_cells Tryz.underlying150 (by kernel_rfl) (by kernel_rfl) h
  obtain ⟨v0, n0, y0, e0, h0⟩ := hf 0 _ rfl
  obtain ⟨v1, n1, y1, e1, h1⟩ := hf 1 _ rfl
  obtain ⟨v2, n2, y2, e2, h2⟩ := hf 2 _ rfl
  obtain ⟨a, ha, _, wa⟩ := DataW.trod_int Tryz.underlying3 h0
  obtain ⟨p, hp, _, wp⟩ := DataW.trod_int Tryz.underlying3 h1
  obtain ⟨q, hq, _, wq⟩ := DataW.trod_int Tryz.underlying3 h2
  simp only [List.cons.injEq, and_true] at ha hp hq
  subst ha hp hq
  refine ⟨⟨a, p, q⟩, ?_, wa, wp, wq⟩
  match cs, hl with
  | [c0, c1, c2], _ =>
    simp at e0 e1 e2
    subst e0 e1 e2
    rfl
theorem open_parts {fuel : Nat} {v : Value} {x : DataW H × List MemPlace} (h : DataW.trod enc Tryz.prog w base (fun _ => true) held fuel 22 [v] = some x) :
    ∃ A c l, v = .slice A l.length c ∧ l.length ≤ maxLen ∧ (l.length ≤ 1000000000 → SlP w (.slice A l.length c) l) ∧ ∀ d ∈ l, PartD.wf d :=
  open_elems PartD.cells 3 PartD.wf Tryz.underlying22 (by kernel_rfl) partLen (by omega) dec_part h
end
end Go.Proofs.YtooeikimoheecaaGreat
namespace Go.Proofs.YtooeikimoheecaaGreat
open Go.RowKit
set_option maxRecDepth 100000
theorem info_windowS : ∃ i0, Tryz.prog.info? 111 = some i0 ∧ i0.zero = some (.slice none 0 0) ∧ i0.size = 1 ∧ i0.bytes = 24 := by
  have h : (Tryz.prog.info? 111).map (fun i => (i.zero, i.size, i.bytes)) = some (some (.slice none 0 0), 1, 24) := by kernel_rfl
  exact info_parts h
section
variable (w : World)
end
end Go.Proofs.YtooeikimoheecaaGreat
namespace Go.Proofs.YtooeikimoheecaaGreat
open Go.RowKit
set_option maxRecDepth 100000
/-- The index of the first point of a name, or -1. -/
def namedI (l : List PointD) (s : ByteArray) : Int := match l.findIdx? (fun p => p.name.toList == s.toList) with | some i => (i : Int) | none => -1
def NoName (l : List PointD) (s : ByteArray) (k : Nat) : Prop := ∀ j, j < k → ∀ y, l[j]? = some y → (y.name.toList == s.toList) = false
theorem NoName.zero (l : List PointD) (s : ByteArray) : NoName l s 0 := fun j hj => absurd hj (by omega)
theorem NoName.next {l : List PointD} {s : ByteArray} {k : Nat} {x : PointD} (h : NoName l s k) (hx : l[k]? = some x) (hn : (x.name.toList == s.toList) = false) : NoName l s (k + 1) := fun j hj y hy => by
  by_cases e : j = k
  · subst e; rw [hx] at hy; cases hy; exact hn
  · exact h j (by omega) y hy
theorem namedI_at {l : List PointD} {s : ByteArray} {k : Nat} {x : PointD} (h : NoName l s k) (hx : l[k]? = some x) (hn : (x.name.toList == s.toList) = true) : namedI l s = k := by
  have : l.findIdx? (fun p => p.name.toList == s.toList) = some k := by
    rw [List.findIdx?_eq_some_iff_getElem]
    obtain ⟨hk, rfl⟩ := List.getElem?_eq_some_iff.1 hx
    exact ⟨hk, hn, fun j hj => by rw [h j hj _ (List.getElem?_eq_getElem (by omega))]; simp⟩
  unfold namedI; rw [this]
theorem namedI_none {l : List PointD} {s : ByteArray} (h : NoName l s l.length) : namedI l s = -1 := by
  have : l.findIdx? (fun p => p.name.toList == s.toList) = none := by
    rw [List.findIdx?_eq_none_iff]
    intro x hx
    obtain ⟨j, hj⟩ := List.getElem?_of_mem hx
    exact h j (List.getElem?_eq_some_iff.1 hj).1 x hj
  unfold namedI; rw [this]
/-- The segment joins the two points. -/
def joinsB (s : SegmentD) (a b : Int) : Bool := (s.a == a && s.b == b) || (s.a == b && s.b == a)
/-- The other end of a segment, or -1. -/
def otherI (s : SegmentD) (p : Int) : Int := if p = s.a then s.b else if p = s.b then s.a else -1
set_option maxHeartbeats 1000000 in
theorem specPointNamed (v0 v1 : Value) (d : ChartD) (s : ByteArray) (w : World) (h : RdChart w v0 v1 d) (_ : ∀ x ∈ d.points, PointD.wf x) :
    Calls Tryz.prog 92 #[.agg #[v0, v1], .string s] w fun e w' => e = .returned (.int .i64 (namedI d.points s)) ∧ Below w.heap.size w w' := by
  obtain ⟨h0, h1⟩ := h
  obtain ⟨A1, c1, rfl⟩ := h1.at
  obtain ⟨hl, h0⟩ := h0
  rcases h0 with ⟨he, A, c, rfl⟩ | ⟨g, o, c, rfl, hp, hcap, hc⟩
  · have E := Lib.hid (namedI_none (l := d.points) (s := s) (by rw [he]; exact NoName.zero _ _))
    have B := Lib.hid (Joins.below_alloc1 w (.cells #[.slice A 0 c, .slice A1 d.segs.length c1] 49))
    clear he hl h1
    go_enter Tryz.func92, Tryz.ntmps92
    go_wp2
    refine wp_loop_rounds 1 ?_
    rw [rounds_succ]
    go_wp2
    go_ret
    exact ⟨ret_int E.out.symm, B.out⟩
  · have HC := Lib.hid hc
    have B := Lib.hid (Joins.below_alloc1 w (.cells #[.slice (some ⟨g, o, none⟩) d.points.length c, .slice A1 d.segs.length c1] 49))
    clear hc h1
    go_enter Tryz.func92, Tryz.ntmps92
    go_wp2
    go_loopw [10] (fun i wr => ∃ k : Nat, k ≤ d.points.length ∧ i = .int .i64 k ∧ Hid (NoName d.points s k) ∧ Below w.heap.size w wr) (fun i _ => d.points.length - (intOf i).toNat)
    case atStart => exact ⟨0, Nat.zero_le _, rfl, Lib.hid (NoName.zero _ _), B.out⟩
    case round =>
      obtain ⟨k, hk, rfl, hN, hb⟩ := hrel
      by_cases hlt : k < d.points.length
      · obtain ⟨x, hx⟩ : ∃ x, d.points[k]? = some x := ⟨_, List.getElem?_eq_getElem hlt⟩
        obtain ⟨q0, q1⟩ := SlPoint.cells HC.out k x hx
        have hg : g < w.heap.size := World.block_lt_of_cell? w ⟨g, o + k * 2, none⟩ q0
        have c0 := (hb.cell (p := ⟨g, o + k * 2, none⟩) hg).trans q0
        have c1 := (hb.cell (p := ⟨g, o + k * 2 + 1, none⟩) hg).trans q1
        have HX := Lib.hid hx
        have hzs := hb.size
        clear q0 q1 hx
        cases hn : (x.name.toList == s.toList) with
        | true =>
          have E := Lib.hid (namedI_at hN.out HX.out hn)
          go_wp2
          go_ret
          exact ⟨ret_int E.out.symm, hb.alloc hzs _⟩
        | false =>
          have N2 := Lib.hid (hN.out.next HX.out hn)
          go_wp2
          go_roundw
          case rel => exact ⟨k + 1, by omega, by go_num, N2, hb.alloc hzs _⟩
          case measure => simp [intOf]; omega
      · obtain rfl : k = d.points.length := by omega
        have E := Lib.hid (namedI_none hN.out)
        go_wp2
        go_ret
        exact ⟨ret_int E.out.symm, hb⟩
theorem specJoins (s : SegmentD) (a b : Int) (w : World) :
    Calls Tryz.prog 93 #[s.val, .int .i64 a, .int .i64 b] w fun e w' => e = .returned (.bool (joinsB s a b)) ∧ Below w.heap.size w w' := by
  obtain ⟨sa, sb, sd, sm, se⟩ := s
  have B := Lib.hid (Joins.below_alloc1 w (.cells #[.int .i64 sa, .int .i64 sb, .int .i64 sd, .int .i64 sm, .bool se] 121))
  have E := Lib.hid (show joinsB ⟨sa, sb, sd, sm, se⟩ a b = ((sa == a && sb == b) || (sa == b && sb == a)) from rfl)
  rw [E.out]
  clear E
  cases h1 : (sa == a) <;> cases h2 : (sb == b) <;> cases h3 : (sa == b) <;> cases h4 : (sb == a)
  all_goals
    go_enter Tryz.func93, Tryz.ntmps93
    go_wp2
    go_ret
    exact ⟨rfl, B.out⟩
theorem specOther (s : SegmentD) (p : Int) (w : World) :
    Calls Tryz.prog 106 #[s.val, .int .i64 p] w fun e w' => e = .returned (.int .i64 (otherI s p)) ∧ Below w.heap.size w w' := by
  obtain ⟨sa, sb, sd, sm, se⟩ := s
  have B := Lib.hid (Joins.below_alloc1 w (.cells #[.int .i64 sa, .int .i64 sb, .int .i64 sd, .int .i64 sm, .bool se] 121))
  by_cases h1 : p = sa
  · have E := Lib.hid (show otherI ⟨sa, sb, sd, sm, se⟩ p = sb from if_pos h1)
    subst h1
    go_enter Tryz.func106, Tryz.ntmps106
    go_wp2
    go_ret
    exact ⟨ret_int E.out.symm, B.out⟩
  · have e1 : (p == sa) = false := by simpa using h1
    by_cases h2 : p = sb
    · have E := Lib.hid (show otherI ⟨sa, sb, sd, sm, se⟩ p = sa from by unfold otherI; rw [if_neg h1, if_pos h2])
      subst h2
      go_enter Tryz.func106, Tryz.ntmps106
      go_wp2
      go_ret
      exact ⟨ret_int E.out.symm, B.out⟩
    · have e2 : (p == sb) = false := by simpa using h2
      have E := Lib.hid (show otherI ⟨sa, sb, sd, sm, se⟩ p = -1 from by unfold otherI; rw [if_neg h1, if_neg h2])
      clear h1 h2
      go_enter Tryz.func106, Tryz.ntmps106
      go_wp2
      go_ret
      exact ⟨ret_int E.out.symm, B.out⟩
end Go.Proofs.YtooeikimoheecaaGreat
namespace Go.Proofs.YtooeikimoheecaaGreat
open Go.RowKit
set_option maxRecDepth 100000
/-- What a part adds at the minute t. -/
def addI (t : Int) (x : PartD) : Int := (x.amp * waveI (t + x.pha) x.per).tdiv 10000
def levI (m : Int) (l : List PartD) (t : Int) : Int := l.foldl (fun s x => s + addI t x) m
def ampI (l : List PartD) : Int := l.foldl (fun s x => s + x.amp) 0
theorem tdiv_le {a y : Int} (h0 : -(a * 10000) ≤ y) (h1 : y ≤ a * 10000) : -a ≤ y.tdiv 10000 ∧ y.tdiv 10000 ≤ a := by
  rcases Int.le_total 0 y with h | h
  · rw [Int.tdiv_eq_ediv_of_nonneg h]; omega
  · have e : y.tdiv 10000 = -((-y).tdiv 10000) := by rw [Int.neg_tdiv, Int.neg_neg]
    rw [e, Int.tdiv_eq_ediv_of_nonneg (by omega)]; omega
theorem mul_le {a y : Int} (ha : 0 ≤ a) (h0 : -10000 ≤ y) (h1 : y ≤ 10000) : -(a * 10000) ≤ a * y ∧ a * y ≤ a * 10000 := by
  have u := Int.mul_le_mul_of_nonneg_left h1 ha
  have v := Int.mul_le_mul_of_nonneg_left h0 ha
  have e : a * -10000 = -(a * 10000) := by omega
  omega
theorem addI_num {t : Int} {x : PartD} (hx : partB x = true) : -10000000 ≤ x.amp * waveI (t + x.pha) x.per ∧ x.amp * waveI (t + x.pha) x.per ≤ 10000000 := by
  obtain ⟨a0, a1, _⟩ := partB_true hx
  obtain ⟨w0, w1⟩ := waveI_le (t + x.pha) x.per
  have := mul_le a0 w0 w1
  omega
theorem addI_le {t : Int} {x : PartD} (hx : partB x = true) : -x.amp ≤ addI t x ∧ addI t x ≤ x.amp := by
  obtain ⟨a0, a1, _⟩ := partB_true hx
  obtain ⟨w0, w1⟩ := waveI_le (t + x.pha) x.per
  obtain ⟨u, v⟩ := mul_le a0 w0 w1
  exact tdiv_le u v
theorem levI_snoc (m : Int) (l : List PartD) (t : Int) (x : PartD) : levI m (l ++ [x]) t = levI m l t + addI t x := by simp [levI]
theorem ampI_snoc (l : List PartD) (x : PartD) : ampI (l ++ [x]) = ampI l + x.amp := by simp [ampI]
theorem sum_bounds (m t : Int) (l : List PartD) (h : ∀ x ∈ l, partB x = true) (k : Nat) (hk : k ≤ l.length) : 0 ≤ ampI (l.take k) ∧ ampI (l.take k) ≤ 1000 * k ∧ m - ampI (l.take k) ≤ levI m (l.take k) t ∧ levI m (l.take k) t ≤ m + ampI (l.take k) := by
  induction k with
  | zero => simp [ampI, levI]
  | succ k ih =>
    obtain ⟨x, hx⟩ : ∃ x, l[k]? = some x := ⟨_, List.getElem?_eq_getElem (by omega)⟩
    have hp := h x (List.mem_of_getElem? hx)
    obtain ⟨a0, a1, _⟩ := partB_true hp
    have := addI_le (t := t) hp
    have := ih (by omega)
    rw [take_snoc' l k x hx, levI_snoc, ampI_snoc]
    omega
theorem levI_le (m t : Int) (l : List PartD) (h : ∀ x ∈ l, partB x = true) : 0 ≤ ampI l ∧ ampI l ≤ 1000 * l.length ∧ m - ampI l ≤ levI m l t ∧ levI m l t ≤ m + ampI l := by
  have := sum_bounds m t l h l.length (Nat.le_refl _)
  rwa [List.take_length] at this
theorem implWaveQ (n p : Int) (w : World) (k : Nat) : Calls Tryz.prog 158 #[.int .i64 n, .int .i64 p] (w.drewN k) fun e w' => e = .returned (.int .i64 (waveI n p)) ∧ w' = w.drewN k :=
  (implWave n p (w.drewN k)).mono fun _ _ ⟨he, hw⟩ => ⟨he, hw.symm⟩
theorem specWaveQ (n p : Int) (w : World) (k : Nat) : Calls Tryz.prog 138 #[.int .i64 n, .int .i64 p] (w.drewN k) fun e w' => e = .returned (.int .i64 (waveI n p)) ∧ w' = w.drewN k :=
  (specWave n p (w.drewN k)).mono fun _ _ ⟨he, hw⟩ => ⟨he, hw.symm⟩
set_option maxHeartbeats 2000000 in
theorem levelOf_any (m : Int) (v : Value) (l : List PartD) (t : Int) (w : World) (h : SlP w v l) (hv : tideB m l = true) (t0 : 0 ≤ t) (t1 : t ≤ 2880) :
    Calls Tryz.prog 157 #[.agg #[.int .i64 m, v], .int .i64 t] w fun e w' => e = .returned (.int .i64 (levI m l t)) ∧ Below w.heap.size w w' := by
  obtain ⟨m0, m1, hlen, hall⟩ := tideB_true hv
  have HALL := Lib.hid hall
  clear hv hall
  obtain ⟨_, h⟩ := h
  rcases h with ⟨rfl, A, c, rfl⟩ | ⟨g, o, c, rfl, hp, hcap, hc⟩
  · go_enter Tryz.func157, Tryz.ntmps157
    go_wp2
    refine wp_loop_rounds 1 ?_
    rw [rounds_succ]
    go_wp2
    go_ret
    exact ⟨rfl, Joins.below_alloc1 _ _⟩
  · have HC := Lib.hid hc
    clear hc
    have X0 : (w.alloc (.cells #[.int .i64 m, .slice (some ⟨g, o, none⟩) l.length c] 41)).cell? ⟨w.heap.size, 1, none⟩ = some (.slice (some ⟨g, o, none⟩) l.length c) := by
      rw [World.cell?_alloc_at _ _ _ _ rfl]; rfl
    have HX0 := Lib.hid X0
    clear X0
    go_enter Tryz.func157, Tryz.ntmps157
    go_wp2
    go_loopw [5, 13] (fun s i wr => ∃ k : Nat, k ≤ l.length ∧ i = .int .i64 k ∧ s = .int .i64 (levI m (l.take k) t) ∧ Hid (wr.cell? ⟨w.heap.size, 1, none⟩ = some (.slice (some ⟨g, o, none⟩) l.length c)) ∧ Hid (Below w.heap.size w wr) ∧ w.heap.size < wr.heap.size) (fun _ i _ => l.length - (intOf i).toNat)
    case atStart => exact ⟨0, Nat.zero_le _, rfl, rfl, HX0, Lib.hid (Joins.below_alloc1 _ _), by simp⟩
    case round =>
      obtain ⟨k, hk, rfl, rfl, hbox, hb, hsz⟩ := hrel
      obtain ⟨s0, s1, s2, s3⟩ := sum_bounds m t l HALL.out k hk
      by_cases hlt : k < l.length
      · obtain ⟨x, hx⟩ : ∃ x, l[k]? = some x := ⟨_, List.getElem?_eq_getElem hlt⟩
        obtain ⟨p0, p1, p2⟩ := SlP.cells HC.out k x hx
        have hg : g < w.heap.size := World.block_lt_of_cell? w ⟨g, o + k * 3, none⟩ p0
        have a0 := (hb.out.cell (p := ⟨g, o + k * 3, none⟩) hg).trans p0
        have a1 := (hb.out.cell (p := ⟨g, o + k * 3 + 1, none⟩) hg).trans p1
        have a2 := (hb.out.cell (p := ⟨g, o + k * 3 + 2, none⟩) hg).trans p2
        have bx := hbox.out
        have hpx := HALL.out x (List.mem_of_getElem? hx)
        obtain ⟨n0, n1⟩ := addI_num (t := t) hpx
        obtain ⟨d0, d1⟩ := addI_le (t := t) hpx
        obtain ⟨y0, y1, yp, y3, y4⟩ := partB_true hpx
        obtain ⟨q0, q1, _⟩ := perB_true yp
        have HN := Lib.hid ((congrArg (levI m · t) (take_snoc' l k x hx)).trans (levI_snoc m (l.take k) t x))
        unfold addI at d0 d1
        clear p0 p1 p2 hx hpx yp
        go_wp2
        go_quiet ((go_at_call 158; exact Calls.quiet_of_same (implWaveQ _ _ _ _)))
        go_wp2
        go_roundw
        case rel =>
          refine ⟨k + 1, by omega, by go_num, ?_, ?_, ?_, ?_⟩
          · rw [HN.out]; rfl
          · refine Lib.hid ((Below.cell (B := wr.heap.size) (w := wr) ?_ hsz).trans hbox.out)
            repeat (first | exact Below.refl _ _ | refine below_drewN ?_ _ | refine Below.setCell ?_ (by first | omega | (simp <;> omega)) _ | refine Below.alloc ?_ (by first | omega | (simp <;> omega)) _)
          · refine Lib.hid ?_
            repeat (first | exact hb.out | refine below_drewN ?_ _ | refine Below.setCell ?_ (by first | omega | (simp <;> omega)) _ | refine Below.alloc ?_ (by first | omega | (simp <;> omega)) _)
          · simp; omega
        case measure => simp [intOf]; omega
      · go_wp2
        go_ret
        obtain rfl : k = l.length := by omega
        rw [List.take_length]
        exact ⟨rfl, hb.out⟩
set_option maxHeartbeats 2000000 in
theorem l02Level_any (m : Int) (v : Value) (l : List PartD) (t : Int) (w : World) (h : SlP w v l) (hv : tideB m l = true) (t0 : 0 ≤ t) (t1 : t ≤ 2880) :
    Calls Tryz.prog 127 #[.agg #[.int .i64 m, v], .int .i64 t] w fun e w' => e = .returned (.int .i64 (levI m l t)) ∧ Below w.heap.size w w' := by
  obtain ⟨m0, m1, hlen, hall⟩ := tideB_true hv
  have HALL := Lib.hid hall
  clear hv hall
  obtain ⟨_, h⟩ := h
  rcases h with ⟨rfl, A, c, rfl⟩ | ⟨g, o, c, rfl, hp, hcap, hc⟩
  · go_enter Tryz.func127, Tryz.ntmps127
    go_wp2
    refine wp_loop_rounds 1 ?_
    rw [rounds_succ]
    go_wp2
    go_ret
    exact ⟨rfl, Joins.below_alloc1 _ _⟩
  · have HC := Lib.hid hc
    clear hc
    go_enter Tryz.func127, Tryz.ntmps127
    go_wp2
    go_loopw [5, 13] (fun s i wr => ∃ k : Nat, k ≤ l.length ∧ i = .int .i64 k ∧ s = .int .i64 (levI m (l.take k) t) ∧ Hid (Below w.heap.size w wr) ∧ w.heap.size < wr.heap.size) (fun _ i _ => l.length - (intOf i).toNat)
    case atStart => exact ⟨0, Nat.zero_le _, rfl, rfl, Lib.hid (Joins.below_alloc1 _ _), by simp⟩
    case round =>
      obtain ⟨k, hk, rfl, rfl, hb, hsz⟩ := hrel
      obtain ⟨s0, s1, s2, s3⟩ := sum_bounds m t l HALL.out k hk
      by_cases hlt : k < l.length
      · obtain ⟨x, hx⟩ : ∃ x, l[k]? = some x := ⟨_, List.getElem?_eq_getElem hlt⟩
        obtain ⟨p0, p1, p2⟩ := SlP.cells HC.out k x hx
        have hg : g < w.heap.size := World.block_lt_of_cell? w ⟨g, o + k * 3, none⟩ p0
        have a0 := (hb.out.cell (p := ⟨g, o + k * 3, none⟩) hg).trans p0
        have a1 := (hb.out.cell (p := ⟨g, o + k * 3 + 1, none⟩) hg).trans p1
        have a2 := (hb.out.cell (p := ⟨g, o + k * 3 + 2, none⟩) hg).trans p2
        have hpx := HALL.out x (List.mem_of_getElem? hx)
        obtain ⟨n0, n1⟩ := addI_num (t := t) hpx
        obtain ⟨d0, d1⟩ := addI_le (t := t) hpx
        obtain ⟨y0, y1, yp, y3, y4⟩ := partB_true hpx
        obtain ⟨q0, q1, _⟩ := perB_true yp
        have HN := Lib.hid ((congrArg (levI m · t) (take_snoc' l k x hx)).trans (levI_snoc m (l.take k) t x))
        unfold addI at d0 d1
        clear p0 p1 p2 hx hpx yp
        go_wp2
        go_quiet ((go_at_call 138; exact Calls.quiet_of_same (specWaveQ _ _ _ _)))
        go_wp2
        go_roundw
        case rel =>
          refine ⟨k + 1, by omega, by go_num, ?_, ?_, ?_⟩
          · rw [HN.out]; rfl
          · refine Lib.hid ?_
            repeat (first | exact hb.out | refine below_drewN ?_ _ | refine Below.setCell ?_ (by first | omega | (simp <;> omega)) _ | refine Below.alloc ?_ (by first | omega | (simp <;> omega)) _)
          · simp; omega
        case measure => simp [intOf]; omega
      · go_wp2
        go_ret
        obtain rfl : k = l.length := by omega
        rw [List.take_length]
        exact ⟨rfl, hb.out⟩
/-- LevelAt's answer. -/
def atI (m : Int) (l : List PartD) (t : Int) : Int := if tideB m l = true ∧ 0 ≤ t ∧ t ≤ 2880 then levI m l t else 0
theorem atI_yes {m : Int} {l : List PartD} {t : Int} (h : tideB m l = true) (t0 : 0 ≤ t) (t1 : t ≤ 2880) : atI m l t = levI m l t := if_pos ⟨h, t0, t1⟩
theorem atI_no {m : Int} {l : List PartD} {t : Int} (h : ¬ (tideB m l = true ∧ 0 ≤ t ∧ t ≤ 2880)) : atI m l t = 0 := if_neg h
theorem isMinute_any (t : Int) (w : World) : Calls Tryz.prog 74 #[.int .i64 t] w fun e w' => e = .returned (.bool (inB t 0 2880)) ∧ w = w' := by
  by_cases h1 : 0 ≤ t
  · by_cases h2 : t ≤ 2880
    · have H := Lib.hid (inB_mk h1 h2)
      go_enter Tryz.func74, Tryz.ntmps74
      go_wp2
      go_ret
      exact ⟨ret_bool H.out.symm, rfl⟩
    · have H := Lib.hid (inB_no (x := t) (lo := 0) (hi := 2880) (.inr (by omega)))
      have h3 : decide (t ≤ 2880) = false := decide_eq_false h2
      go_enter Tryz.func74, Tryz.ntmps74
      go_wp2
      go_ret
      exact ⟨ret_bool H.out.symm, rfl⟩
  · have H := Lib.hid (inB_no (x := t) (lo := 0) (hi := 2880) (.inl (by omega)))
    have h3 : decide (0 ≤ t) = false := decide_eq_false h1
    go_enter Tryz.func74, Tryz.ntmps74
    go_wp2
    go_ret
    exact ⟨ret_bool H.out.symm, rfl⟩
set_option maxHeartbeats 1000000 in
theorem implLevelAt (m : Int) (v : Value) (l : List PartD) (t : Int) (w : World) (h : SlP w v l) :
    Calls Tryz.prog 154 #[.agg #[.int .i64 m, v], .int .i64 t] w fun e w' => e = .returned (.int .i64 (atI m l t)) ∧ Below w.heap.size w w' := by
  have H := Lib.hid h
  obtain ⟨A, c, rfl⟩ := h.at
  have hb0 := Joins.below_alloc1 w (.cells #[.int .i64 m, .slice A l.length c] 41)
  have B0 := Lib.hid hb0
  have C := Lib.hid (implTideOk m _ l _ (H.out.below hb0))
  clear h hb0
  cases hv : tideB m l with
  | false =>
    have E := Lib.hid (atI_no (m := m) (l := l) (t := t) (by simp [hv]))
    rw [hv] at C
    clear hv
    go_enter Tryz.func154, Tryz.ntmps154
    go_wp2_with fail
    refine C.out.mono ?_
    rintro e w1 ⟨rfl, hb1⟩
    have B1 := Lib.hid (B0.out.trans (hb1.mono (by simp)))
    clear hb1
    go_wp2
    go_ret
    exact ⟨ret_int E.out.symm, B1.out⟩
  | true =>
    by_cases h1 : 0 ≤ t ∧ t ≤ 2880
    · have E := Lib.hid (atI_yes (m := m) (l := l) (t := t) hv h1.1 h1.2)
      have E1 := Lib.hid (inB_mk h1.1 h1.2)
      have HV := Lib.hid hv
      obtain ⟨t0, t1⟩ := h1
      rw [hv] at C
      clear hv
      go_enter Tryz.func154, Tryz.ntmps154
      go_wp2_with fail
      refine C.out.mono ?_
      rintro e w1 ⟨rfl, hb1⟩
      obtain ⟨hc, hf⟩ := bcell hb1
      have B1 := Lib.hid (B0.out.trans (hb1.mono (by simp)))
      clear hb1
      go_wp2_with fail
      refine (isMinute_any _ _).mono ?_
      rintro e w2 ⟨rfl, rfl⟩
      rw [E1.out]
      go_wp2_with fail
      refine (levelOf_any m _ l t w1 (H.out.below B1.out) HV.out (by omega) (by omega)).mono ?_
      rintro e w2 ⟨rfl, hb2⟩
      have B2 := Lib.hid (B1.out.trans (hb2.mono B1.out.size))
      clear hb2 hc hf
      go_wp2
      go_ret
      exact ⟨ret_int E.out.symm, B2.out⟩
    · have E := Lib.hid (atI_no (m := m) (l := l) (t := t) (by omega))
      have E1 := Lib.hid (inB_no (x := t) (lo := 0) (hi := 2880) (by omega))
      rw [hv] at C
      clear hv h1
      go_enter Tryz.func154, Tryz.ntmps154
      go_wp2_with fail
      refine C.out.mono ?_
      rintro e w1 ⟨rfl, hb1⟩
      have B1 := Lib.hid (B0.out.trans (hb1.mono (by simp)))
      clear hb1
      go_wp2_with fail
      refine (isMinute_any _ _).mono ?_
      rintro e w2 ⟨rfl, rfl⟩
      rw [E1.out]
      go_wp2
      go_ret
      exact ⟨ret_int E.out.symm, B1.out⟩
end Go.Proofs.YtooeikimoheecaaGreat
