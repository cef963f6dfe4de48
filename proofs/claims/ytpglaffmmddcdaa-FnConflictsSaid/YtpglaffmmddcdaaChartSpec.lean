
/- Charts in the model: spec.PointNamed, l05Joins, l05Other: contracts. -/
import Derived.Test.YtpglaffmmddcdaaChartC
import Derived.Test.YtpglaffmmddcdaaPart
namespace Go.Proofs.Ytpglaffmmddcdaa
open Go.RowKit
set_option maxRecDepth 100000

/-- The index of the first point of a name, or -1. -/
def namedI (l : List PointD) (s : ByteArray) : Int := match l.findIdx? (fun p => p.name.toList == s.toList) with | some i => (i : Int) | none => -1
def NoName (l : List PointD) (s : ByteArray) (k : Nat) : Prop := ∀ j, j < k → ∀ y, l[j]? = some y → (y.name.toList == s.toList) = false
theorem NoName.zero (l : List PointD) (s : ByteArray) : NoName l s 0 := fun j hj => absurd hj (by omega)
theorem NoName.next {l : List PointD} {s : ByteArray} {k : Nat} {x : PointD} (h : NoName l s k) (hx : l[k]? = some x) (hn : (x.name.toList == s.toList) = false) : NoName l s (k + 1) := fun j hj y hy => by
  by_cases e : j = k
  · subst e; rw [hx] at hy; cases hy; exact hn
  · exact h j (by omega) y hy
theorem namedI_at {l : List PointD} {s : ByteArray} {k : Nat} {x : PointD} (h : NoName l s k) (hx : l[k]? = some x) (hn : (x.name.toList == s.toList) = true) : namedI l s = k := by
  have : l.findIdx? (fun p => p.name.toList == s.toList) = some k := by
    rw [List.findIdx?_eq_some_iff_getElem]
    obtain ⟨hk, rfl⟩ := List.getElem?_eq_some_iff.1 hx
    exact ⟨hk, hn, fun j hj => by rw [h j hj _ (List.getElem?_eq_getElem (by omega))]; simp⟩
  unfold namedI; rw [this]
theorem namedI_none {l : List PointD} {s : ByteArray} (h : NoName l s l.length) : namedI l s = -1 := by
  have : l.findIdx? (fun p => p.name.toList == s.toList) = none := by
    rw [List.findIdx?_eq_none_iff]
    intro x hx
    obtain ⟨j, hj⟩ := List.getElem?_of_mem hx
    exact h j (List.getElem?_eq_some_iff.1 hj).1 x hj
  unfold namedI; rw [this]

/-- The segment joins the two points. -/
def joinsB (s : SegmentD) (a b : Int) : Bool := (s.a == a && s.b == b) || (s.a == b && s.b == a)
/-- The other end of a segment, or -1. -/
def otherI (s : SegmentD) (p : Int) : Int := if p = s.a then s.b else if p = s.b then s.a else -1

set_option maxHeartbeats 1000000 in
theorem specPointNamed (v0 v1 : Value) (d : ChartD) (s : ByteArray) (w : World) (h : RdChart w v0 v1 d) (_ : ∀ x ∈ d.points, PointD.wf x) :
    Calls Try.prog 70 #[.agg #[v0, v1], .string s] w fun e w' => e = .returned (.int .i64 (namedI d.points s)) ∧ Below w.heap.size w w' := by
  obtain ⟨h0, h1⟩ := h
  obtain ⟨A1, c1, rfl⟩ := h1.at
  obtain ⟨hl, h0⟩ := h0
  rcases h0 with ⟨he, A, c, rfl⟩ | ⟨g, o, c, rfl, hp, hcap, hc⟩
  · have E := Lib.hid (namedI_none (l := d.points) (s := s) (by rw [he]; exact NoName.zero _ _))
    have B := Lib.hid (Joins.below_alloc1 w (.cells #[.slice A 0 c, .slice A1 d.segs.length c1] 26))
    clear he hl h1
    go_enter Try.func70, Try.ntmps70
    go_wp2
    refine wp_loop_rounds 1 ?_
    rw [rounds_succ]
    go_wp2
    go_ret
    exact ⟨ret_int E.out.symm, B.out⟩
  · have HC := Lib.hid hc
    have B := Lib.hid (Joins.below_alloc1 w (.cells #[.slice (some ⟨g, o, none⟩) d.points.length c, .slice A1 d.segs.length c1] 26))
    clear hc h1
    go_enter Try.func70, Try.ntmps70
    go_wp2
    go_loopw [10] (fun i wr => ∃ k : Nat, k ≤ d.points.length ∧ i = .int .i64 k ∧ Hid (NoName d.points s k) ∧ Below w.heap.size w wr) (fun i _ => d.points.length - (intOf i).toNat)
    case atStart => exact ⟨0, Nat.zero_le _, rfl, Lib.hid (NoName.zero _ _), B.out⟩
    case round =>
      obtain ⟨k, hk, rfl, hN, hb⟩ := hrel
      by_cases hlt : k < d.points.length
      · obtain ⟨x, hx⟩ : ∃ x, d.points[k]? = some x := ⟨_, List.getElem?_eq_getElem hlt⟩
        obtain ⟨q0, q1⟩ := SlPoint.cells HC.out k x hx
        have hg : g < w.heap.size := World.block_lt_of_cell? w ⟨g, o + k * 2, none⟩ q0
        have c0 := (hb.cell (p := ⟨g, o + k * 2, none⟩) hg).trans q0
        have c1 := (hb.cell (p := ⟨g, o + k * 2 + 1, none⟩) hg).trans q1
        have HX := Lib.hid hx
        have hzs := hb.size
        clear q0 q1 hx
        cases hn : (x.name.toList == s.toList) with
        | true =>
          have E := Lib.hid (namedI_at hN.out HX.out hn)
          go_wp2
          go_ret
          exact ⟨ret_int E.out.symm, hb.alloc hzs _⟩
        | false =>
          have N2 := Lib.hid (hN.out.next HX.out hn)
          go_wp2
          go_roundw
          case rel => exact ⟨k + 1, by omega, by go_num, N2, hb.alloc hzs _⟩
          case measure => simp [intOf]; omega
      · obtain rfl : k = d.points.length := by omega
        have E := Lib.hid (namedI_none hN.out)
        go_wp2
        go_ret
        exact ⟨ret_int E.out.symm, hb⟩

theorem specJoins (s : SegmentD) (a b : Int) (w : World) :
    Calls Try.prog 71 #[s.val, .int .i64 a, .int .i64 b] w fun e w' => e = .returned (.bool (joinsB s a b)) ∧ Below w.heap.size w w' := by
  obtain ⟨sa, sb, sd, sm, se⟩ := s
  have B := Lib.hid (Joins.below_alloc1 w (.cells #[.int .i64 sa, .int .i64 sb, .int .i64 sd, .int .i64 sm, .bool se] 90))
  have E := Lib.hid (show joinsB ⟨sa, sb, sd, sm, se⟩ a b = ((sa == a && sb == b) || (sa == b && sb == a)) from rfl)
  rw [E.out]
  clear E
  cases h1 : (sa == a) <;> cases h2 : (sb == b) <;> cases h3 : (sa == b) <;> cases h4 : (sb == a)
  all_goals
    go_enter Try.func71, Try.ntmps71
    go_wp2
    go_ret
    exact ⟨rfl, B.out⟩

end Go.Proofs.Ytpglaffmmddcdaa
