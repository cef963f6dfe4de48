
/- What AfloatLaw rests on, part 9: contracts and mathematics. -/
import Derived.Test.YtpimcbhjkednpaaAf6
import Derived.Test.YtpimcbhjkednpaaAf7
import Derived.Test.YtpimcbhjkednpaaAf8
import Derived.StillTailTactics
import Derived.Test.YtpimcbhjkednpaaAf0
import Derived.Test.YtpimcbhjkednpaaAf2
namespace Go.Proofs.Ytpimcbhjkednpaa
open Go.RowKit
set_option maxRecDepth 100000
/-- The minutes of a valid ship on a segment. -/
def onMin (g : SegmentD) (s : ShipD) : Int := if s.slow = true then 2 * g.minutes else g.minutes
def minOn (d : ChartD) (i : Int) (s : ShipD) : Int := if chartB d = true ∧ shipB s = true then (match segAt d i with | some g => onMin g s | none => 0) else 0
theorem minOn_bad {d : ChartD} {i : Int} {s : ShipD} (h : chartB d = false ∨ shipB s = false) : minOn d i s = 0 := if_neg (by rintro ⟨h1, h2⟩; rcases h with h | h <;> simp_all)
theorem minOn_off {d : ChartD} {i : Int} {s : ShipD} (h : segAt d i = none) : minOn d i s = 0 := by unfold minOn; split <;> simp [h]
theorem minOn_ok {d : ChartD} {i : Int} {s : ShipD} {g : SegmentD} (h1 : chartB d = true) (h2 : shipB s = true) (h : segAt d i = some g) : minOn d i s = onMin g s := by unfold minOn; rw [if_pos ⟨h1, h2⟩, h]
/-- The chart, the segment and the ship are valid. -/
def sailB (d : ChartD) (i : Int) (s : ShipD) : Bool := chartB d && shipB s && inB i 0 ((d.segs.length : Int) - 1)
theorem sailB_true {d : ChartD} {i : Int} {s : ShipD} (h : sailB d i s = true) : chartB d = true ∧ shipB s = true ∧ ∃ g, segAt d i = some g ∧ d.segs[i.toNat]? = some g ∧ 0 ≤ i ∧ i.toNat < d.segs.length ∧ segB d.points.length g = true := by
  unfold sailB at h
  simp only [Bool.and_eq_true] at h
  obtain ⟨⟨h1, h2⟩, h3⟩ := h
  obtain ⟨g, hg, hx, i0, il⟩ := segAt_in h3
  exact ⟨h1, h2, g, hg, hx, i0, il, chartB_seg h1 hx⟩
theorem minOn_no {d : ChartD} {i : Int} {s : ShipD} (h : sailB d i s = false) : minOn d i s = 0 := by
  cases h1 : chartB d with
  | false => exact minOn_bad (.inl h1)
  | true =>
    cases h2 : shipB s with
    | false => exact minOn_bad (.inr h2)
    | true =>
      refine minOn_off (segAt_out ?_)
      unfold sailB at h
      rw [h1, h2] at h
      simpa using h
set_option maxHeartbeats 4000000 in
theorem implSail (v0 v1 : Value) (d : ChartD) (i : Int) (s : ShipD) (w : World) (h : RdChart w v0 v1 d) (hw : ∀ x ∈ d.points, PointD.wf x) (hs : s.wf) :
    Calls Try.prog 39 #[.agg #[v0, v1], .int .i64 i, s.val] w fun e w' => e = .returned (.bool (sailB d i s)) ∧ Below w.heap.size w w' := by
  have HR := Lib.hid h
  have HWF := Lib.hid hw
  have WS := Lib.hid hs
  obtain ⟨h0, h1⟩ := h
  obtain ⟨A0, c0, rfl⟩ := h0.at
  obtain ⟨A1, c1, rfl⟩ := h1.at
  obtain ⟨W0, hW0⟩ : ∃ W0, W0 = ((w.alloc (.cells #[.slice A0 d.points.length c0, .slice A1 d.segs.length c1] 33)).alloc (.cells #[.string s.name, .int .i64 s.length, .int .i64 s.draught, .int .i64 s.line, .int .i64 s.tugs, .bool s.slow] 36)) := ⟨_, rfl⟩
  have B := Lib.hid (Joins.below_alloc2 w (.cells #[.slice A0 d.points.length c0, .slice A1 d.segs.length c1] 33) (.cells #[.string s.name, .int .i64 s.length, .int .i64 s.draught, .int .i64 s.line, .int .i64 s.tugs, .bool s.slow] 36))
  have BC := Lib.hid ((Blk.new w #[.slice A0 d.points.length c0, .slice A1 d.segs.length c1] 33).below (Joins.below_alloc1 _ (.cells #[.string s.name, .int .i64 s.length, .int .i64 s.draught, .int .i64 s.line, .int .i64 s.tugs, .bool s.slow] 36)))
  have BS := Lib.hid (Blk.new (w.alloc (.cells #[.slice A0 d.points.length c0, .slice A1 d.segs.length c1] 33)) #[.string s.name, .int .i64 s.length, .int .i64 s.draught, .int .i64 s.line, .int .i64 s.tugs, .bool s.slow] 36)
  rw [World.size_alloc] at BS
  have HW0 := Lib.hid hW0
  rw [← hW0] at B BC BS
  have H1 := Lib.hid h1
  have hl1 := h1.1
  clear h0 h1 hw hs hW0
  obtain ⟨b1, hb1⟩ : ∃ b, chartB d = b := ⟨_, rfl⟩
  obtain ⟨b2, hb2⟩ : ∃ b, shipB s = b := ⟨_, rfl⟩
  obtain ⟨b3, hb3⟩ : ∃ b, inB i 0 ((d.segs.length : Int) - 1) = b := ⟨_, rfl⟩
  rw [show sailB d i s = (b1 && b2 && b3) by unfold sailB; rw [hb1, hb2, hb3]]
  have H1' := Lib.hid hb1
  have H2' := Lib.hid hb2
  have H3' := Lib.hid hb3
  clear hb1 hb2 hb3
  have p0 : W0.cell? ⟨w.heap.size, 0, none⟩ = some (.slice A0 d.points.length c0) := BC.out.cell 0
  have p1 : W0.cell? ⟨w.heap.size, 1, none⟩ = some (.slice A1 d.segs.length c1) := BC.out.cell 1
  cases b1 with
  | false =>
    rw [show (false && b2 && b3) = false by simp]
    go_enter Try.func39, Try.ntmps39
    go_wp2_with fail
    rw [← HW0.out]
    refine (implChartOk _ _ d _ (HR.out.below B.out) HWF.out).mono ?_
    rw [H1'.out]
    rintro e w1 ⟨rfl, hbk⟩
    have B1 := Lib.hid (B.out.trans (hbk.mono B.out.size))
    clear hbk p0 p1
    go_wp2
    go_ret
    exact ⟨rfl, B1.out⟩
  | true =>
  cases b2 with
  | false =>
    rw [show (true && false && b3) = false by simp]
    go_enter Try.func39, Try.ntmps39
    go_wp2_with fail
    rw [← HW0.out]
    refine (implChartOk _ _ d _ (HR.out.below B.out) HWF.out).mono ?_
    rw [H1'.out]
    rintro e w1 ⟨rfl, hbk⟩
    have B1 := Lib.hid (B.out.trans (hbk.mono B.out.size))
    have s0 : w1.cell? ⟨w.heap.size + 1, 0, none⟩ = some (.string s.name) := (BS.out.below hbk).cell 0
    have s1 : w1.cell? ⟨w.heap.size + 1, 1, none⟩ = some (.int .i64 s.length) := (BS.out.below hbk).cell 1
    have s2 : w1.cell? ⟨w.heap.size + 1, 2, none⟩ = some (.int .i64 s.draught) := (BS.out.below hbk).cell 2
    have s3 : w1.cell? ⟨w.heap.size + 1, 3, none⟩ = some (.int .i64 s.line) := (BS.out.below hbk).cell 3
    have s4 : w1.cell? ⟨w.heap.size + 1, 4, none⟩ = some (.int .i64 s.tugs) := (BS.out.below hbk).cell 4
    have s5 : w1.cell? ⟨w.heap.size + 1, 5, none⟩ = some (.bool s.slow) := (BS.out.below hbk).cell 5
    have BC1 := Lib.hid (BC.out.below hbk)
    clear hbk p0 p1
    go_wp2_with fail
    refine (implShipOk s _ WS.out).mono ?_
    rw [H2'.out]
    rintro e w2 ⟨rfl, hbk⟩
    have B2 := Lib.hid (B1.out.trans (hbk.mono B1.out.size))
    have p1 : w2.cell? ⟨w.heap.size, 1, none⟩ = some (.slice A1 d.segs.length c1) := (BC1.out.below hbk).cell 1
    clear hbk s0 s1 s2 s3 s4 s5
    go_wp2
    go_ret
    exact ⟨rfl, B2.out⟩
  | true =>
  rw [show (true && true && b3) = b3 by simp]
  go_enter Try.func39, Try.ntmps39
  go_wp2_with fail
  rw [← HW0.out]
  refine (implChartOk _ _ d _ (HR.out.below B.out) HWF.out).mono ?_
  rw [H1'.out]
  rintro e w1 ⟨rfl, hbk⟩
  have B1 := Lib.hid (B.out.trans (hbk.mono B.out.size))
  have s0 : w1.cell? ⟨w.heap.size + 1, 0, none⟩ = some (.string s.name) := (BS.out.below hbk).cell 0
  have s1 : w1.cell? ⟨w.heap.size + 1, 1, none⟩ = some (.int .i64 s.length) := (BS.out.below hbk).cell 1
  have s2 : w1.cell? ⟨w.heap.size + 1, 2, none⟩ = some (.int .i64 s.draught) := (BS.out.below hbk).cell 2
  have s3 : w1.cell? ⟨w.heap.size + 1, 3, none⟩ = some (.int .i64 s.line) := (BS.out.below hbk).cell 3
  have s4 : w1.cell? ⟨w.heap.size + 1, 4, none⟩ = some (.int .i64 s.tugs) := (BS.out.below hbk).cell 4
  have s5 : w1.cell? ⟨w.heap.size + 1, 5, none⟩ = some (.bool s.slow) := (BS.out.below hbk).cell 5
  have BC1 := Lib.hid (BC.out.below hbk)
  clear hbk p0 p1
  go_wp2_with fail
  refine (implShipOk s _ WS.out).mono ?_
  rw [H2'.out]
  rintro e w2 ⟨rfl, hbk⟩
  have B2 := Lib.hid (B1.out.trans (hbk.mono B1.out.size))
  have p1 : w2.cell? ⟨w.heap.size, 1, none⟩ = some (.slice A1 d.segs.length c1) := (BC1.out.below hbk).cell 1
  clear hbk s0 s1 s2 s3 s4 s5
  go_wp2_with fail
  refine (isIndex_any _ _ _).mono ?_
  rw [H3'.out]
  rintro e w3 ⟨rfl, rfl⟩
  go_wp2
  go_ret
  exact ⟨rfl, B2.out⟩
set_option maxHeartbeats 4000000 in
theorem implMinutesOn (v0 v1 : Value) (d : ChartD) (i : Int) (s : ShipD) (w : World) (h : RdChart w v0 v1 d) (hw : ∀ x ∈ d.points, PointD.wf x) (hs : s.wf) :
    Calls Try.prog 12 #[.agg #[v0, v1], .int .i64 i, s.val] w fun e w' => e = .returned (.int .i64 (minOn d i s)) ∧ Below w.heap.size w w' := by
  have HR := Lib.hid h
  have HWF := Lib.hid hw
  have WS := Lib.hid hs
  obtain ⟨h0, h1⟩ := h
  obtain ⟨A0, c0, rfl⟩ := h0.at
  obtain ⟨A1, c1, rfl⟩ := h1.at
  obtain ⟨W0, hW0⟩ : ∃ W0, W0 = ((w.alloc (.cells #[.slice A0 d.points.length c0, .slice A1 d.segs.length c1] 33)).alloc (.cells #[.string s.name, .int .i64 s.length, .int .i64 s.draught, .int .i64 s.line, .int .i64 s.tugs, .bool s.slow] 36)) := ⟨_, rfl⟩
  have B := Lib.hid (Joins.below_alloc2 w (.cells #[.slice A0 d.points.length c0, .slice A1 d.segs.length c1] 33) (.cells #[.string s.name, .int .i64 s.length, .int .i64 s.draught, .int .i64 s.line, .int .i64 s.tugs, .bool s.slow] 36))
  have BC := Lib.hid ((Blk.new w #[.slice A0 d.points.length c0, .slice A1 d.segs.length c1] 33).below (Joins.below_alloc1 _ (.cells #[.string s.name, .int .i64 s.length, .int .i64 s.draught, .int .i64 s.line, .int .i64 s.tugs, .bool s.slow] 36)))
  have BS := Lib.hid (Blk.new (w.alloc (.cells #[.slice A0 d.points.length c0, .slice A1 d.segs.length c1] 33)) #[.string s.name, .int .i64 s.length, .int .i64 s.draught, .int .i64 s.line, .int .i64 s.tugs, .bool s.slow] 36)
  rw [World.size_alloc] at BS
  have HW0 := Lib.hid hW0
  rw [← hW0] at B BC BS
  have H1 := Lib.hid h1
  have hl1 := h1.1
  clear h0 h1 hw hs hW0
  obtain ⟨t, ht⟩ : ∃ t, sailB d i s = t := ⟨_, rfl⟩
  have HT := Lib.hid ht
  have p0 : W0.cell? ⟨w.heap.size, 0, none⟩ = some (.slice A0 d.points.length c0) := BC.out.cell 0
  have p1 : W0.cell? ⟨w.heap.size, 1, none⟩ = some (.slice A1 d.segs.length c1) := BC.out.cell 1
  have s0 : W0.cell? ⟨w.heap.size + 1, 0, none⟩ = some (.string s.name) := BS.out.cell 0
  have s1 : W0.cell? ⟨w.heap.size + 1, 1, none⟩ = some (.int .i64 s.length) := BS.out.cell 1
  have s2 : W0.cell? ⟨w.heap.size + 1, 2, none⟩ = some (.int .i64 s.draught) := BS.out.cell 2
  have s3 : W0.cell? ⟨w.heap.size + 1, 3, none⟩ = some (.int .i64 s.line) := BS.out.cell 3
  have s4 : W0.cell? ⟨w.heap.size + 1, 4, none⟩ = some (.int .i64 s.tugs) := BS.out.cell 4
  have s5 : W0.cell? ⟨w.heap.size + 1, 5, none⟩ = some (.bool s.slow) := BS.out.cell 5
  cases t with
  | false =>
    have E := Lib.hid (minOn_no ht)
    clear ht
    go_enter Try.func12, Try.ntmps12
    go_wp2_with fail
    rw [← HW0.out]
    clear p0 p1 s0 s1 s2 s3 s4 s5
    refine (implSail _ _ d i s _ (HR.out.below B.out) HWF.out WS.out).mono ?_
    rw [HT.out]
    rintro e w1 ⟨rfl, hbk⟩
    have B1 := Lib.hid (B.out.trans (hbk.mono B.out.size))
    clear hbk
    go_wp2
    go_ret
    exact ⟨ret_int E.out.symm, B1.out⟩
  | true =>
    obtain ⟨ok1, ok2, g, hg, hx, i0, il, hsb⟩ := sailB_true ht
    have E := Lib.hid (minOn_ok ok1 ok2 hg)
    obtain ⟨-, -, -, -, -, -, -, m0, m1⟩ := segB_true hsb
    have hwr : IntKind.i64.wrap (2 * g.minutes) = 2 * g.minutes := by rw [IntKind.wrap_i64]; omega
    obtain ⟨k, rfl⟩ : ∃ n : Nat, i = (n : Int) := ⟨i.toNat, by omega⟩
    simp only [Int.toNat_natCast] at hx il
    obtain ⟨g', o', e', FD0⟩ : ∃ g' o', A1 = some ⟨g', o', none⟩ ∧ w.cell? ⟨g', o' + k * 5 + 3, none⟩ = some (.int .i64 g.minutes) := by
      rcases H1.out.2 with ⟨he, _⟩ | ⟨g', o', c', e, _, _, hc⟩
      · rw [he] at hx; simp at hx
      · injection e with hA _ _
        exact ⟨g', o', hA, (SlSegment.cells hc k g hx).2.2.2.1⟩
    subst e'
    clear ht hg hx hsb ok1 ok2 i0 m0 m1
    go_enter Try.func12, Try.ntmps12
    go_wp2_with fail
    rw [← HW0.out]
    clear p0 p1 s0 s1 s2 s3 s4 s5
    refine (implSail _ _ d (k : Int) s _ (HR.out.below B.out) HWF.out WS.out).mono ?_
    rw [HT.out]
    rintro e w1 ⟨rfl, hbk⟩
    have B1 := Lib.hid (B.out.trans (hbk.mono B.out.size))
    have FD := cell_onV FD0 B1.out
    have p0 : w1.cell? ⟨w.heap.size, 0, none⟩ = some (.slice A0 d.points.length c0) := (BC.out.below hbk).cell 0
    have p1 : w1.cell? ⟨w.heap.size, 1, none⟩ = some (.slice (some ⟨g', o', none⟩) d.segs.length c1) := (BC.out.below hbk).cell 1
    have s0 : w1.cell? ⟨w.heap.size + 1, 0, none⟩ = some (.string s.name) := (BS.out.below hbk).cell 0
    have s1 : w1.cell? ⟨w.heap.size + 1, 1, none⟩ = some (.int .i64 s.length) := (BS.out.below hbk).cell 1
    have s2 : w1.cell? ⟨w.heap.size + 1, 2, none⟩ = some (.int .i64 s.draught) := (BS.out.below hbk).cell 2
    have s3 : w1.cell? ⟨w.heap.size + 1, 3, none⟩ = some (.int .i64 s.line) := (BS.out.below hbk).cell 3
    have s4 : w1.cell? ⟨w.heap.size + 1, 4, none⟩ = some (.int .i64 s.tugs) := (BS.out.below hbk).cell 4
    have s5 : w1.cell? ⟨w.heap.size + 1, 5, none⟩ = some (.bool s.slow) := (BS.out.below hbk).cell 5
    clear hbk FD0
    cases hsl : s.slow with
    | true =>
      rw [hsl] at s5
      have E3 := Lib.hid (show minOn d (k : Int) s = 2 * g.minutes from E.out.trans (if_pos hsl))
      clear hsl E
      go_wp2
      go_ret
      exact ⟨ret_int E3.out.symm, B1.out⟩
    | false =>
      rw [hsl] at s5
      have E3 := Lib.hid (show minOn d (k : Int) s = g.minutes from E.out.trans (if_neg (by rw [hsl]; simp)))
      clear hsl E
      go_wp2
      go_ret
      exact ⟨ret_int E3.out.symm, B1.out⟩
end Go.Proofs.Ytpimcbhjkednpaa
namespace Go.Proofs.Ytpimcbhjkednpaa
open Go.ChangeShapes Go.WideShapes Go.ChangeAt Go.Deep Go.RowKit
set_option maxRecDepth 100000
structure WindowD where
  fr : Int
  tt : Int
@[reducible] def WindowD.val (d : WindowD) : Value := .agg #[.int .i64 d.fr, .int .i64 d.tt]
@[reducible] def WindowD.cells (d : WindowD) : List Value := [.int .i64 d.fr, .int .i64 d.tt]
theorem windowLen (d : WindowD) : d.cells.length = 2 := rfl
def SlWindow : World → Value → List WindowD → Prop := SlOf 2 WindowD.cells
def OwnWindow : World → Nat → Value → List WindowD → Prop := OwnOf 2 WindowD.cells 80
def NewWindow : List WindowD → World → Ending → World → Prop := NewOf 2 WindowD.cells 80
theorem SlWindow.at {w : World} {v : Value} {l : List WindowD} (h : SlWindow w v l) : ∃ A c, v = .slice A l.length c := SlOf.form h
theorem SlWindow.below {w w' : World} {v : Value} {l : List WindowD} (h : SlWindow w v l) (hb : Below w.heap.size w w') : SlWindow w' v l := SlOf.below h hb
theorem OwnWindow.sl {w : World} {base : Nat} {v : Value} {l : List WindowD} (h : OwnWindow w base v l) (hl : l.length ≤ 1000000000) : SlWindow w v l := own_sl windowLen h hl
theorem SlWindow.cells {w : World} {l : List WindowD} {g o : Nat} (hc : ∀ i x, l[i]? = some x → ∀ j u, (WindowD.cells x)[j]? = some u → w.cell? ⟨g, o + i * 2 + j, none⟩ = some u) (i : Nat) (x : WindowD) (hx : l[i]? = some x) :
    w.cell? ⟨g, o + i * 2, none⟩ = some (.int .i64 x.fr) ∧ w.cell? ⟨g, o + i * 2 + 1, none⟩ = some (.int .i64 x.tt) :=
  ⟨hc i x hx 0 _ rfl, hc i x hx 1 _ rfl⟩
theorem info_window : (Try.prog.info? 80).map (fun i => (i.zero, i.size, i.bytes)) = some (some (.agg #[.int .i64 0, .int .i64 0]), 2, 16) := by kernel_rfl
section
variable {H : Type} {enc : TypeId × Value → H} {w : World} {base : Nat} {spare : Nat → Bool} {held : Bool}
def WindowD.wf (d : WindowD) : Prop := (Lit.int .i64 d.fr).wf = true ∧ (Lit.int .i64 d.tt).wf = true
end
end Go.Proofs.Ytpimcbhjkednpaa
namespace Go.Proofs.Ytpimcbhjkednpaa
open Go.RowKit
set_option maxRecDepth 100000
/-- A window whose minutes lie in time. -/
def wB (x : WindowD) : Bool := decide (0 ≤ x.fr ∧ x.fr ≤ x.tt ∧ x.tt ≤ 2880)
/-- The window at a place lies in time and, behind another one, at least one minute later. -/
def wokB (l : List WindowD) (k : Nat) : Bool :=
  match l[k]? with
  | none => true
  | some x => wB x && (match k with | 0 => true | j + 1 => match l[j]? with | none => true | some y => decide (y.tt + 1 < x.fr))
def winB (l : List WindowD) : Bool := (List.range l.length).all (wokB l)
/-- The first k windows are valid. -/
def FirstW (l : List WindowD) (k : Nat) : Prop := ∀ j, j < k → wokB l j = true
theorem FirstW.zero (l : List WindowD) : FirstW l 0 := fun j hj => absurd hj (by omega)
theorem FirstW.next {l : List WindowD} {k : Nat} (h : FirstW l k) (hk : wokB l k = true) : FirstW l (k + 1) := fun j hj => by
  by_cases e : j = k
  · rw [e]; exact hk
  · exact h j (by omega)
theorem winB_mk {l : List WindowD} (h : FirstW l l.length) : winB l = true := List.all_eq_true.2 fun j hj => h j (List.mem_range.1 hj)
theorem winB_true {l : List WindowD} (h : winB l = true) : FirstW l l.length := fun j hj => List.all_eq_true.1 h j (List.mem_range.2 hj)
theorem winB_bad {l : List WindowD} (k : Nat) (hk : k < l.length) (h : wokB l k = false) : winB l = false := by
  rw [Bool.eq_false_iff]
  intro e
  rw [winB_true e k hk] at h
  cases h
theorem wokB_bad {l : List WindowD} {k : Nat} {x : WindowD} (hx : l[k]? = some x) (h : ¬ (0 ≤ x.fr ∧ x.fr ≤ x.tt ∧ x.tt ≤ 2880)) : wokB l k = false := by
  unfold wokB wB; rw [hx]; simp only [decide_eq_false h, Bool.false_and]
theorem wokB_zero {l : List WindowD} {k : Nat} {x : WindowD} (hk : k = 0) (hx : l[k]? = some x) (h : 0 ≤ x.fr ∧ x.fr ≤ x.tt ∧ x.tt ≤ 2880) : wokB l k = true := by
  subst hk; unfold wokB wB; rw [hx]; simp only [decide_eq_true h, Bool.and_self]
theorem wokB_succ {l : List WindowD} {k j : Nat} {x y : WindowD} (hk : k = j + 1) (hx : l[k]? = some x) (hy : l[j]? = some y) (h : 0 ≤ x.fr ∧ x.fr ≤ x.tt ∧ x.tt ≤ 2880) : wokB l k = decide (y.tt + 1 < x.fr) := by
  subst hk; unfold wokB wB; rw [hx]; simp only [decide_eq_true h, hy, Bool.true_and]
theorem wokB_time {l : List WindowD} {k : Nat} {x : WindowD} (hx : l[k]? = some x) (h : wokB l k = true) : 0 ≤ x.fr ∧ x.fr ≤ x.tt ∧ x.tt ≤ 2880 := by
  by_cases hx2 : 0 ≤ x.fr ∧ x.fr ≤ x.tt ∧ x.tt ≤ 2880
  · exact hx2
  · rw [wokB_bad hx hx2] at h; cases h
theorem FirstW.time {l : List WindowD} {k j : Nat} {x : WindowD} (h : FirstW l k) (hj : j < k) (hx : l[j]? = some x) : 0 ≤ x.fr ∧ x.fr ≤ x.tt ∧ x.tt ≤ 2880 := wokB_time hx (h j hj)
set_option maxHeartbeats 10000000 in
theorem implWindowsOk (v : Value) (l : List WindowD) (w : World) (h : SlWindow w v l) :
    Calls Try.prog 45 #[v] w fun e w' => e = .returned (.bool (winB l)) ∧ Below w.heap.size w w' := by
  obtain ⟨hl, h⟩ := h
  rcases h with ⟨rfl, A, c, rfl⟩ | ⟨g, o, c, rfl, hp, hcap, hc⟩
  · have E := Lib.hid (winB_mk (l := []) (FirstW.zero _))
    go_enter Try.func45, Try.ntmps45
    go_wp2
    refine wp_loop_rounds 1 ?_
    rw [rounds_succ]
    go_wp2
    go_ret
    exact ⟨ret_bool E.out.symm, Below.refl _ _⟩
  · have HC := Lib.hid hc
    clear hc
    go_enter Try.func45, Try.ntmps45
    go_wp2
    go_loopw [7] (fun i wr => ∃ k : Nat, k ≤ l.length ∧ i = .int .i64 k ∧ Hid (FirstW l k) ∧ Hid (Below w.heap.size w wr) ∧ w.heap.size ≤ wr.heap.size) (fun i _ => l.length - (intOf i).toNat)
    case atStart => exact ⟨0, Nat.zero_le _, rfl, Lib.hid (FirstW.zero _), Lib.hid (Below.refl _ _), Nat.le_refl _⟩
    case round =>
      obtain ⟨k, hk, rfl, hF, hb', hsz⟩ := hrel
      by_cases hlt : k < l.length
      rotate_left
      · obtain rfl : k = l.length := by omega
        have E := Lib.hid (winB_mk hF.out)
        go_wp2
        go_ret
        exact ⟨ret_bool E.out.symm, hb'.out⟩
      · obtain ⟨x, hx⟩ : ∃ x, l[k]? = some x := ⟨_, List.getElem?_eq_getElem hlt⟩
        obtain ⟨p0, p1⟩ := SlWindow.cells HC.out k x hx
        have hg : g < w.heap.size := World.block_lt_of_cell? w ⟨g, o + k * 2, none⟩ p0
        have a0 := (hb'.out.cell (p := ⟨g, o + k * 2, none⟩) hg).trans p0
        have a1 := (hb'.out.cell (p := ⟨g, o + k * 2 + 1, none⟩) hg).trans p1
        have HX := Lib.hid hx
        have hgr : g < wr.heap.size := by omega
        clear p0 p1 hx
        by_cases h1 : x.fr < 0
        · have E := Lib.hid (winB_bad k hlt (wokB_bad HX.out (by omega)))
          go_wp2
          go_quiet (fail)
          go_wp2
          go_ret
          refine ⟨ret_bool E.out.symm, ?_⟩
          repeat (first | exact hb'.out | refine below_drewN ?_ _ | refine Below.drew ?_ | refine Below.setCell ?_ (by first | omega | (simp <;> omega)) _ | refine Below.alloc ?_ (by first | omega | (simp <;> omega)) _)
        have d1 : decide (x.fr < 0) = false := decide_eq_false h1
        by_cases h2 : x.tt < x.fr
        · have E := Lib.hid (winB_bad k hlt (wokB_bad HX.out (by omega)))
          go_wp2
          go_quiet (fail)
          go_wp2
          go_ret
          refine ⟨ret_bool E.out.symm, ?_⟩
          repeat (first | exact hb'.out | refine below_drewN ?_ _ | refine Below.drew ?_ | refine Below.setCell ?_ (by first | omega | (simp <;> omega)) _ | refine Below.alloc ?_ (by first | omega | (simp <;> omega)) _)
        have d2 : decide (x.tt < x.fr) = false := decide_eq_false h2
        by_cases h3 : 2880 < x.tt
        · have E := Lib.hid (winB_bad k hlt (wokB_bad HX.out (by omega)))
          go_wp2
          go_quiet (fail)
          go_wp2
          go_ret
          refine ⟨ret_bool E.out.symm, ?_⟩
          repeat (first | exact hb'.out | refine below_drewN ?_ _ | refine Below.drew ?_ | refine Below.setCell ?_ (by first | omega | (simp <;> omega)) _ | refine Below.alloc ?_ (by first | omega | (simp <;> omega)) _)
        have d3 : decide (2880 < x.tt) = false := decide_eq_false h3
        have ok : 0 ≤ x.fr ∧ x.fr ≤ x.tt ∧ x.tt ≤ 2880 := by omega
        have OK := Lib.hid ok
        clear ok h1 h2 h3
        by_cases hk0 : k = 0
        · have FF := Lib.hid (hF.out.next (wokB_zero hk0 HX.out OK.out))
          have hd : decide (0 < k) = false := decide_eq_false (by omega)
          clear hk0
          go_wp2
          go_quiet (fail)
          go_wp2
          go_roundw
          case rel =>
            refine ⟨k + 1, by omega, by go_num, FF, Lib.hid ?_, ?_⟩
            · repeat (first | exact hb'.out | refine below_drewN ?_ _ | refine Below.drew ?_ | refine Below.setCell ?_ (by first | omega | (simp <;> omega)) _ | refine Below.alloc ?_ (by first | omega | (simp <;> omega)) _)
            · simp <;> omega
          case measure => simp [intOf]; omega
        obtain ⟨j, hj⟩ : ∃ j, k = j + 1 := ⟨k - 1, by omega⟩
        obtain ⟨y, hy⟩ : ∃ y, l[j]? = some y := ⟨_, List.getElem?_eq_getElem (by omega)⟩
        obtain ⟨_, r1⟩ := SlWindow.cells HC.out j y hy
        have y1 := (hb'.out.cell (p := ⟨g, o + j * 2 + 1, none⟩) hg).trans r1
        obtain ⟨t0, t1, t2⟩ := hF.out.time (show j < k by omega) hy
        have hw1 : IntKind.i64.wrap ((k : Int) - 1) = (j : Int) := by rw [IntWalk.i64_in _ (by omega)]; omega
        have hw2 : IntKind.i64.wrap (y.tt + 1) = y.tt + 1 := IntWalk.i64_in _ (by omega)
        have HE := Lib.hid (wokB_succ hj HX.out hy OK.out)
        have hd : decide (0 < k) = true := decide_eq_true (by omega)
        have hjl : j < l.length := by omega
        have HJ := Lib.hid hj
        clear hj hy r1 hk0 t0 t1 t2
        by_cases hyx : x.fr ≤ y.tt + 1
        · have hd2 : decide (x.fr ≤ y.tt + 1) = true := decide_eq_true hyx
          have E := Lib.hid (winB_bad k hlt (HE.out.trans (decide_eq_false (by omega))))
          go_wp2
          go_quiet (fail)
          go_wp2
          go_ret
          refine ⟨ret_bool E.out.symm, ?_⟩
          repeat (first | exact hb'.out | refine below_drewN ?_ _ | refine Below.drew ?_ | refine Below.setCell ?_ (by first | omega | (simp <;> omega)) _ | refine Below.alloc ?_ (by first | omega | (simp <;> omega)) _)
        · have hd2 : decide (x.fr ≤ y.tt + 1) = false := decide_eq_false hyx
          have FF := Lib.hid (hF.out.next (HE.out.trans (decide_eq_true (by omega))))
          go_wp2
          go_quiet (fail)
          go_wp2
          go_roundw
          case rel =>
            refine ⟨k + 1, by omega, by go_num, FF, Lib.hid ?_, ?_⟩
            · repeat (first | exact hb'.out | refine below_drewN ?_ _ | refine Below.drew ?_ | refine Below.setCell ?_ (by first | omega | (simp <;> omega)) _ | refine Below.alloc ?_ (by first | omega | (simp <;> omega)) _)
            · simp <;> omega
          case measure => simp [intOf]; omega
end Go.Proofs.Ytpimcbhjkednpaa
namespace Go.Proofs.Ytpimcbhjkednpaa
open Go.RowKit
set_option maxRecDepth 100000
def atB (t : Int) (x : WindowD) : Bool := inB t x.fr x.tt
def hasB (l : List WindowD) (t : Int) : Bool := l.any (atB t)
/-- None of the first k windows holds the minute. -/
def FirstN (l : List WindowD) (t : Int) (k : Nat) : Prop := ∀ x ∈ l.take k, atB t x = false
theorem FirstN.zero {l : List WindowD} {t : Int} {z : Nat} (hz : z = 0 := by simp) : FirstN l t z := by subst hz; intro x hx; simp at hx
theorem FirstN.next {l : List WindowD} {t : Int} {k : Nat} {x : WindowD} (h : FirstN l t k) (hx : l[k]? = some x) (hp : atB t x = false) : FirstN l t (k + 1) := by
  intro y hy
  rw [take_snoc' l k x hx, List.mem_append, List.mem_singleton] at hy
  rcases hy with hy | rfl
  · exact h y hy
  · exact hp
theorem hasB_no {l : List WindowD} {t : Int} (h : FirstN l t l.length) : hasB l t = false := by
  unfold hasB
  rw [List.any_eq_false]
  intro x hx
  have := h x (by rw [List.take_length]; exact hx)
  simp [this]
theorem hasB_yes {l : List WindowD} {t : Int} {k : Nat} {x : WindowD} (hx : l[k]? = some x) (hp : atB t x = true) : hasB l t = true := by
  unfold hasB
  rw [List.any_eq_true]
  exact ⟨x, List.mem_of_getElem? hx, hp⟩
set_option maxHeartbeats 2000000 in
theorem hasClosure (x : WindowD) (t : Int) (B : Nat) (w : World) (hB : B < w.heap.size) (hc : w.cell? ⟨B, 0, none⟩ = some (.int .i64 t)) :
    Calls Try.prog 71 #[.agg #[.int .i64 x.fr, .int .i64 x.tt], .pointer (some ⟨B, 0, none⟩)] w fun e w' => e = .returned (.bool (atB t x)) ∧ Below w.heap.size w w' := by
  have hne : B ≠ w.heap.size := by omega
  have EB : Hid (atB t x = (decide (x.fr ≤ t) && decide (t ≤ x.tt))) := Lib.hid (by unfold atB inB; simp [Bool.decide_and])
  by_cases h1 : x.fr ≤ t
  · by_cases h2 : t ≤ x.tt
    · have E : Hid (atB t x = true) := Lib.hid (by rw [EB.out]; simp [h1, h2])
      go_enter Try.func71, Try.ntmps71
      go_wp2
      go_ret
      exact ⟨ret_bool E.out.symm, Joins.below_alloc1 w _⟩
    · have E : Hid (atB t x = false) := Lib.hid (by rw [EB.out]; simp [h2])
      go_enter Try.func71, Try.ntmps71
      go_wp2
      go_ret
      exact ⟨ret_bool E.out.symm, Joins.below_alloc1 w _⟩
  · have E : Hid (atB t x = false) := Lib.hid (by rw [EB.out]; simp [h1])
    go_enter Try.func71, Try.ntmps71
    go_wp2
    go_ret
    exact ⟨ret_bool E.out.symm, Joins.below_alloc1 w _⟩
/-- What the search leaves: a place, or -1. -/
def IdxPost (l : List WindowD) (t : Int) (w : World) (e : Ending) (w' : World) : Prop := ∃ r : Int, e = .returned (.int .i64 r) ∧ decide (0 ≤ r) = hasB l t ∧ Below w.heap.size w w'
set_option maxHeartbeats 4000000 in
theorem hasIndex (v : Value) (l : List WindowD) (t : Int) (B : Nat) (w : World) (h : SlWindow w v l) (hB : B < w.heap.size) (hc : w.cell? ⟨B, 0, none⟩ = some (.int .i64 t)) :
    Calls Try.prog 93 #[v, .func (.func 71) #[] #[.pointer (some ⟨B, 0, none⟩)]] w (IdxPost l t w) := by
  have HB := Lib.hid hc
  clear hc
  obtain ⟨hl, h⟩ := h
  rcases h with ⟨rfl, A, c, rfl⟩ | ⟨g, o, c, rfl, hp, hcap, hc⟩
  · go_enter Try.func93, Try.ntmps93
    go_wp2
    refine wp_loop_rounds 1 ?_
    rw [rounds_succ]
    go_wp2
    go_ret
    exact ⟨-1, rfl, rfl, Below.refl _ _⟩
  · have HC := Lib.hid hc
    clear hc
    go_enter Try.func93, Try.ntmps93
    go_wp2
    go_loopw [5, 8] (fun _ i wr => ∃ k : Nat, k ≤ l.length ∧ i = .int .i64 k ∧ Hid (FirstN l t k) ∧ Hid (Below w.heap.size w wr) ∧ w.heap.size ≤ wr.heap.size) (fun _ i _ => l.length - (intOf i).toNat)
    case atStart => exact ⟨0, Nat.zero_le _, rfl, Lib.hid FirstN.zero, Lib.hid (Below.refl _ _), Nat.le_refl _⟩
    case round =>
      obtain ⟨k, hk, rfl, hN, hb', hsz⟩ := hrel
      by_cases hlt : k < l.length
      rotate_left
      · obtain rfl : k = l.length := by omega
        have E := Lib.hid (hasB_no hN.out)
        go_wp2
        go_ret
        exact ⟨-1, rfl, by rw [E.out]; rfl, hb'.out⟩
      · obtain ⟨x, hx⟩ : ∃ x, l[k]? = some x := ⟨_, List.getElem?_eq_getElem hlt⟩
        obtain ⟨p0, p1⟩ := SlWindow.cells HC.out k x hx
        have hg : g < w.heap.size := World.block_lt_of_cell? w ⟨g, o + k * 2, none⟩ p0
        have a0 := (hb'.out.cell (p := ⟨g, o + k * 2, none⟩) hg).trans p0
        have a1 := (hb'.out.cell (p := ⟨g, o + k * 2 + 1, none⟩) hg).trans p1
        have HX := Lib.hid hx
        have hgr : g < wr.heap.size := by omega
        have HBW := Lib.hid ((hb'.out.cell (p := ⟨B, 0, none⟩) hB).trans HB.out)
        clear p0 p1 hx
        have HCL := fun W h1 h2 => Lib.hid (hasClosure x t B W h1 h2)
        cases hq : atB t x with
        | true =>
          have E := Lib.hid (hasB_yes HX.out hq)
          rw [hq] at HCL
          clear hq
          go_wp2_with fail
          refine (HCL _ (by omega) HBW.out).out.mono ?_
          rintro e w1 ⟨rfl, hb1⟩
          have B1 := Lib.hid (hb'.out.trans (hb1.mono hsz))
          clear hb1
          go_wp2
          go_ret
          exact ⟨k, rfl, by rw [E.out]; simp, B1.out⟩
        | false =>
          have HN2 := Lib.hid (hN.out.next HX.out hq)
          rw [hq] at HCL
          clear hq
          go_wp2_with fail
          refine (HCL _ (by omega) HBW.out).out.mono ?_
          rintro e w1 ⟨rfl, hb1⟩
          have B1 := Lib.hid (hb'.out.trans (hb1.mono hsz))
          have hz1 := hb1.size
          clear hb1
          go_wp2
          go_roundw
          case rel => exact ⟨k + 1, by omega, by go_num, HN2, B1, by omega⟩
          case measure => simp [intOf]; omega
set_option maxHeartbeats 2000000 in
theorem hasContains (v : Value) (l : List WindowD) (t : Int) (B : Nat) (w : World) (h : SlWindow w v l) (hB : B < w.heap.size) (hc : w.cell? ⟨B, 0, none⟩ = some (.int .i64 t)) :
    Calls Try.prog 70 #[v, .func (.func 71) #[] #[.pointer (some ⟨B, 0, none⟩)]] w fun e w' => e = .returned (.bool (hasB l t)) ∧ Below w.heap.size w w' := by
  have HI := Lib.hid (hasIndex v l t B w h hB hc)
  obtain ⟨A, c, rfl⟩ := h.at
  clear h hc
  go_enter Try.func70, Try.ntmps70
  go_wp2_with fail
  refine HI.out.mono ?_
  rintro e w1 ⟨r, rfl, hr, hb1⟩
  have B1 := Lib.hid hb1
  have HR := Lib.hid hr
  clear hb1 hr
  go_wp2
  go_ret
  exact ⟨ret_bool HR.out, B1.out⟩
set_option maxHeartbeats 2000000 in
theorem implHasMinute (v : Value) (l : List WindowD) (t : Int) (w : World) (h : SlWindow w v l) :
    Calls Try.prog 44 #[v, .int .i64 t] w fun e w' => e = .returned (.bool (hasB l t)) ∧ Below w.heap.size w w' := by
  have hal := Joins.below_alloc1 w (.cells #[.int .i64 t] 3)
  have HI := Lib.hid (hasContains v l t w.heap.size _ (h.below hal) (by simp) (by simp))
  have B0 := Lib.hid hal
  obtain ⟨A, c, rfl⟩ := h.at
  clear h hal
  go_enter Try.func44, Try.ntmps44
  go_wp2_with fail
  refine HI.out.mono ?_
  rintro e w1 ⟨rfl, hb1⟩
  have B1 := Lib.hid (B0.out.trans (hb1.mono B0.out.size))
  clear hb1
  go_wp2
  go_ret
  exact ⟨rfl, B1.out⟩
end Go.Proofs.Ytpimcbhjkednpaa
