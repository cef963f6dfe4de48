
/- What ExactSailRoute and ExactFirstSail rests on, part 13: contracts and mathematics. -/
import Derived.Test.YtooeikimoheecaaGreatSf11
import Derived.Test.YtooeikimoheecaaGreatSf8
import Derived.Deep.RegionHeld3
import Derived.Test.YtooeikimoheecaaGreatSf10
import Derived.Test.YtooeikimoheecaaGreatSf6
import Derived.StillTailTactics
namespace Go.Proofs.YtooeikimoheecaaGreat
open Go.ChangeShapes Go.WideShapes Go.ChangeAt Go.Deep Go.RowKit
set_option maxRecDepth 100000
/-- Two slices in different blocks. -/
def Apart (v u : Value) : Prop := ∀ g, v.ownBlock = some g → u.ownBlock ≠ some g
theorem toTide_own (m : Int) (v : Value) (l : List PartD) (w : World) (h : SlP w v l) :
    Calls Tryz.prog 36 #[.agg #[.int .i64 m, v]] w fun e w' => ∃ v', e = .returned (.agg #[.int .i64 m, v']) ∧ OwnP w' w.heap.size v' l ∧ Below w.heap.size w w' := by
  have H := Lib.hid h
  have hl := h.1
  obtain ⟨A, c, rfl⟩ := h.at
  clear h
  go_enter Tryz.func36, Tryz.ntmps36
  go_wp2_with fail
  refine (toPartS_any _ l _ (H.out.below ?_)).mono ?_
  · repeat (first | exact Below.refl _ _ | refine Below.setCell ?_ (by simp <;> omega) _ | refine Below.alloc ?_ (by simp <;> omega) _)
  rintro e w1 ⟨v1, rfl, ho, hb⟩
  obtain ⟨A1, c1, rfl⟩ := own_form ho
  have S1 := Lib.hid ho
  obtain ⟨hc, hf⟩ := bcell hb
  have hz : w.heap.size + 2 < w1.heap.size := by have := hb.size; simp at this; omega
  clear ho
  go_wp2
  refine bodyPost_ret (v := .agg #[.int .i64 m, .slice A1 l.length c1]) (by simp [results, Tryz.results36, go_sem, hc]) rfl ⟨_, rfl, ?_, ?_⟩
  · refine own_lo (base := w.heap.size + 3) ?_ (by omega)
    repeat (first | exact Joins.ownsRow_le S1.out (by simp) | refine set_under ?_ (by simp <;> omega) _)
  · repeat (first | exact Below.refl _ _ | refine Below.setCell ?_ (by simp <;> omega) _ | refine Below.alloc ?_ (by simp <;> omega) _ | refine Below.trans ?_ (hb.mono (by simp <;> omega)))
/-- What toForecast leaves: a forecast over two new lists. -/
def NewFc (m : Int) (l : List PartD) (s : List SurgeD) (w : World) (e : Ending) (w' : World) : Prop :=
  ∃ v u, e = .returned (.agg #[.int .i64 m, v, u]) ∧ OwnP w' w.heap.size v l ∧ OwnSurge w' w.heap.size u s ∧ Apart v u ∧ Below w.heap.size w w'
set_option maxHeartbeats 1000000 in
theorem toForecast_any (m : Int) (v u : Value) (l : List PartD) (s : List SurgeD) (w : World) (h : SlP w v l) (h' : SlSurge w u s) :
    Calls Tryz.prog 10 #[.agg #[.int .i64 m, v, u]] w (NewFc m l s w) := by
  have H := Lib.hid h
  have H' := Lib.hid h'
  obtain ⟨A, c, rfl⟩ := h.at
  obtain ⟨A', c', rfl⟩ := h'.at
  clear h h'
  go_enter Tryz.func10, Tryz.ntmps10
  go_wp2_with fail
  refine (toTide_own m _ l _ (H.out.below ?_)).mono ?_
  · repeat (first | exact Below.refl _ _ | refine Below.setCell ?_ (by simp <;> omega) _ | refine Below.alloc ?_ (by simp <;> omega) _)
  rintro e w1 ⟨v1, rfl, ho, hb⟩
  obtain ⟨A1, c1, rfl⟩ := own_form ho
  have S1 := Lib.hid (own_lo ho (base' := w.heap.size + 3) (by simp))
  have L1 := Lib.hid (World.ownsRow.lt ho)
  obtain ⟨hc, hf⟩ := bcell hb
  have hz : w.heap.size + 2 < w1.heap.size := by have := hb.size; simp at this; omega
  have hz1 : w.heap.size + 1 < w1.heap.size := by omega
  have B1 : Hid (Below w.heap.size w w1) := by
    refine Lib.hid ?_
    repeat (first | exact Below.refl _ _ | refine Below.setCell ?_ (by simp <;> omega) _ | refine Below.alloc ?_ (by simp <;> omega) _ | refine Below.trans ?_ (hb.mono (by simp <;> omega)))
  clear ho
  go_wp2_with fail
  refine (toSurgeS_any _ s _ (H'.out.below ?_)).mono ?_
  · repeat (first | exact B1.out | refine Below.setCell ?_ (by simp <;> omega) _ | refine Below.alloc ?_ (by simp <;> omega) _)
  rintro e w2 ⟨v2, rfl, ho2, hb2⟩
  obtain ⟨A2, c2, rfl⟩ := own_form ho2
  have S2 := Lib.hid (own_lo ho2 (base' := w.heap.size + 3) (by simp; omega))
  have L2 := Lib.hid (World.ownsRow.lt ho2)
  obtain ⟨hc2, hf2⟩ := bcell hb2
  have hz2 : w1.heap.size ≤ w2.heap.size := by have := hb2.size; simp at this; omega
  clear ho2
  go_wp2
  refine bodyPost_ret (v := .agg #[.int .i64 m, .slice A1 l.length c1, .slice A2 s.length c2]) (by simp [results, Tryz.results10, go_sem, *]) rfl ⟨_, _, rfl, ?_, ?_, ?_, ?_⟩
  · refine own_lo (base := w.heap.size + 3) ?_ (by omega)
    repeat (first | exact S1.out | refine set_under ?_ (by simp <;> omega) _ | refine own_below ?_ hb2)
  · refine own_lo (base := w.heap.size + 3) ?_ (by omega)
    repeat (first | exact S2.out | refine own_set_under ?_ (by simp <;> omega) _)
  · intro g hg hg'
    have h1 := (L1.out g hg).2
    have h2 := (L2.out g hg').1
    simp at h2
    omega
  · repeat (first | exact B1.out | refine Below.setCell ?_ (by simp <;> omega) _ | refine Below.alloc ?_ (by simp <;> omega) _ | refine Below.trans ?_ (hb2.mono (by simp <;> omega)))
set_option maxHeartbeats 1000000 in
theorem eqForecast_same (m : Int) (va ua vb ub : Value) (l : List PartD) (s : List SurgeD) (w : World) (ha : SlP w va l) (ha' : SlSurge w ua s) (hb : SlP w vb l) (hb' : SlSurge w ub s) :
    Calls Tryz.prog 15 #[.agg #[.int .i64 m, va, ua], .agg #[.int .i64 m, vb, ub]] w fun e w' => e = .returned (.bool true) ∧ Below w.heap.size w w' := by
  have HA := Lib.hid ha
  have HB := Lib.hid hb
  have HA' := Lib.hid ha'
  have HB' := Lib.hid hb'
  obtain ⟨A, c, rfl⟩ := ha.at
  obtain ⟨A', c', rfl⟩ := hb.at
  obtain ⟨D, d, rfl⟩ := ha'.at
  obtain ⟨D', d', rfl⟩ := hb'.at
  clear ha hb ha' hb'
  have hb0 := Joins.below_alloc2 w (.cells #[.int .i64 m, .slice A l.length c, .slice D s.length d] 44) (.cells #[.int .i64 m, .slice A' l.length c', .slice D' s.length d'] 44)
  have B0 := Lib.hid hb0
  clear hb0
  go_enter Tryz.func15, Tryz.ntmps15
  go_wp2_with fail
  refine (eqTide_same m _ _ l _ (HA.out.below B0.out) (HB.out.below B0.out)).mono ?_
  rintro e w1 ⟨rfl, hb1⟩
  have B1 := Lib.hid (B0.out.trans (hb1.mono B0.out.size))
  obtain ⟨hc, hf⟩ := bcell hb1
  clear hb1
  go_wp2_with fail
  refine (eqSurgeS_same _ _ s _ (HA'.out.below B1.out) (HB'.out.below B1.out)).mono ?_
  rintro e w2 ⟨rfl, hb2⟩
  have B2 := Lib.hid (B1.out.trans (hb2.mono B1.out.size))
  clear hb2 hc hf
  go_wp2
  go_ret
  exact ⟨rfl, B2.out⟩
/-- The block b holds the forecast of mean m over the slices v and u, which read as l and s. -/
def FBox (w : World) (b : Nat) (m : Int) (v u : Value) (l : List PartD) (s : List SurgeD) : Prop :=
  w.cell? ⟨b, 0, none⟩ = some (.int .i64 m) ∧ w.cell? ⟨b, 1, none⟩ = some v ∧ w.cell? ⟨b, 2, none⟩ = some u ∧ SlP w v l ∧ SlSurge w u s
theorem FBox.below {w w' : World} {b : Nat} {m : Int} {v u : Value} {l : List PartD} {s : List SurgeD} (h : FBox w b m v u l s) (hb : Below w.heap.size w w') : FBox w' b m v u l s := by
  obtain ⟨h0, h1, h2, h3, h4⟩ := h
  exact ⟨(hb.cell (World.block_lt_of_cell? w _ h0)).trans h0, (hb.cell (World.block_lt_of_cell? w _ h1)).trans h1, (hb.cell (World.block_lt_of_cell? w _ h2)).trans h2, h3.below hb, h4.below hb⟩
theorem FBox.new {w : World} {m : Int} {v u : Value} {l : List PartD} {s : List SurgeD} (t : TypeId) (h : SlP w v l) (h' : SlSurge w u s) : FBox (w.alloc (.cells #[.int .i64 m, v, u] t)) w.heap.size m v u l s := by
  refine ⟨?_, ?_, ?_, h.below (Joins.below_alloc1 _ _), h'.below (Joins.below_alloc1 _ _)⟩
  · rw [World.cell?_alloc_at _ _ _ _ rfl]; rfl
  · rw [World.cell?_alloc_at _ _ _ _ rfl]; rfl
  · rw [World.cell?_alloc_at _ _ _ _ rfl]; rfl
theorem NewFc.sl {m : Int} {l : List PartD} {s : List SurgeD} {w w' : World} {e : Ending} (h : NewFc m l s w e w') (hl : l.length ≤ 1000000000) (hs : s.length ≤ 1000000000) :
    ∃ A c A' c', e = .returned (.agg #[.int .i64 m, .slice A l.length c, .slice A' s.length c']) ∧ SlP w' (.slice A l.length c) l ∧ SlSurge w' (.slice A' s.length c') s ∧ Below w.heap.size w w' := by
  obtain ⟨v, u, rfl, h1, h2, _, hb⟩ := h
  obtain ⟨A, c, rfl⟩ := own_form h1
  obtain ⟨A', c', rfl⟩ := own_form h2
  exact ⟨A, c, A', c', rfl, h1.sl hl, h2.sl hs, hb⟩
section
variable {H : Type} {enc : TypeId × Value → H} {w : World} {base : Nat} {spare : Nat → Bool} {held : Bool}
def FcIn (w : World) (m : Int) (A : Option Addr) (c : Nat) (l : List PartD) (A' : Option Addr) (c' : Nat) (s : List SurgeD) : Prop :=
  (Lit.int .i64 m).wf = true ∧ l.length ≤ maxLen ∧ s.length ≤ maxLen ∧ (l.length ≤ 1000000000 → SlP w (.slice A l.length c) l) ∧ (s.length ≤ 1000000000 → SlSurge w (.slice A' s.length c') s) ∧ (∀ d ∈ l, PartD.wf d) ∧ ∀ d ∈ s, SurgeD.wf d
end
end Go.Proofs.YtooeikimoheecaaGreat
namespace Go.Proofs.YtooeikimoheecaaGreat
open Go.RowKit
set_option maxRecDepth 100000
/-- One segment more: the points so far, or none where the route breaks. -/
def stepP (d : ChartD) (acc : Option (List Int)) (i : Int) : Option (List Int) :=
  match acc, segAt d i with
  | some out, some s => if otherI s (out.getLast?.getD 0) < 0 ∨ out.any (· == otherI s (out.getLast?.getD 0)) = true then none else some (out ++ [otherI s (out.getLast?.getD 0)])
  | _, _ => none
def ptsO (d : ChartD) (fr : Int) (l : List Int) : Option (List Int) := l.foldl (stepP d) (some [fr])
theorem ptsO_snoc (d : ChartD) (fr : Int) (l : List Int) (i : Int) : ptsO d fr (l ++ [i]) = stepP d (ptsO d fr l) i := by unfold ptsO; rw [List.foldl_append]; rfl
theorem fold_none (d : ChartD) : ∀ l : List Int, l.foldl (stepP d) none = none := by
  intro l; induction l with
  | nil => rfl
  | cons i l ih => exact ih
theorem ptsO_cut {d : ChartD} {fr : Int} {l : List Int} (k : Nat) (h : ptsO d fr (l.take k) = none) : ptsO d fr l = none := by
  have e : l = l.take k ++ l.drop k := (List.take_append_drop k l).symm
  rw [e]
  unfold ptsO at h ⊢
  rw [List.foldl_append, h, fold_none]
theorem ptsO_next {d : ChartD} {fr : Int} {l : List Int} {k : Nat} {i : Int} (hx : l[k]? = some i) : ptsO d fr (l.take (k + 1)) = stepP d (ptsO d fr (l.take k)) i := by
  rw [take_snoc' l k i hx, ptsO_snoc]
theorem ptsO_len {d : ChartD} {fr : Int} (l : List Int) : ∀ {out : List Int}, ptsO d fr l = some out → out.length = l.length + 1 := by
  refine snocInd (P := fun l => ∀ {out : List Int}, ptsO d fr l = some out → out.length = l.length + 1) ?_ ?_ l
  · intro out h; simp [ptsO] at h; subst h; rfl
  · intro l i ih out h
    rw [ptsO_snoc] at h
    cases hp : ptsO d fr l with
    | none => rw [hp] at h; cases h
    | some o =>
      rw [hp] at h
      unfold stepP at h
      cases hs : segAt d i with
      | none => rw [hs] at h; cases h
      | some s =>
        rw [hs] at h
        simp only at h
        split at h
        · cases h
        · simp at h; subst h; have := ih hp; simp; omega
theorem stepP_out {d : ChartD} {out : List Int} {i : Int} (h : segAt d i = none) : stepP d (some out) i = none := by unfold stepP; rw [h]
theorem stepP_bad {d : ChartD} {out : List Int} {i n z : Int} {s : SegmentD} (h : segAt d i = some s) (hz : out.getLast? = some z) (hn : otherI s z = n) (hb : n < 0 ∨ out.any (· == n) = true) : stepP d (some out) i = none := by
  unfold stepP; rw [h]; simp only [hz, Option.getD_some, hn]; rw [if_pos hb]
theorem stepP_good {d : ChartD} {out : List Int} {i n z : Int} {s : SegmentD} (h : segAt d i = some s) (hz : out.getLast? = some z) (hn : otherI s z = n) (hb : ¬ n < 0) (ha : out.any (· == n) = false) : stepP d (some out) i = some (out ++ [n]) := by
  unfold stepP; rw [h]; simp only [hz, Option.getD_some, hn]; rw [if_neg (by rw [ha]; simp; omega)]
/-- What l05Points leaves. -/
def PtsPost (d : ChartD) (fr : Int) (l : List Int) (w : World) (e : Ending) (w' : World) : Prop :=
  ∃ v, e = .returned (.tuple #[v, .bool (ptsO d fr l).isSome]) ∧ OwnInt w' w.heap.size v ((ptsO d fr l).getD []) ∧ Below w.heap.size w w'
theorem PtsPost.no {d : ChartD} {fr : Int} {l : List Int} {w w' : World} (h : ptsO d fr l = none) (hb : Below w.heap.size w w') : PtsPost d fr l w (.returned (.tuple #[.slice none 0 0, .bool false])) w' := by
  refine ⟨_, by rw [h]; rfl, ?_, hb⟩
  rw [h]
  exact (GathO.empty (cs := intCells) (t := 3) (k := 1) hb).1
set_option maxHeartbeats 8000000 in
theorem specPoints (v0 v1 : Value) (d : ChartD) (fr : Int) (v : Value) (l : List Int) (w : World) (h : RdChart w v0 v1 d) (hl : SlInt w v l) (hsl : d.segs.length ≤ 1000) :
    Calls Tryz.prog 85 #[.agg #[v0, v1], .int .i64 fr, v] w (PtsPost d fr l w) := by
  obtain ⟨h0, h1⟩ := h
  obtain ⟨A0, c0, rfl⟩ := h0.at
  obtain ⟨A1, c1, rfl⟩ := h1.at
  have HL := Lib.hid hl
  have hll := hl.1
  obtain ⟨A2, c2, rfl⟩ := hl.at
  have B := Lib.hid (Joins.below_alloc1 w (.cells #[.slice A0 d.points.length c0, .slice A1 d.segs.length c1] 49))
  have BB := Lib.hid (Blk.new w #[.slice A0 d.points.length c0, .slice A1 d.segs.length c1] 49)
  have H1 := Lib.hid h1
  have hl1 := h1.1
  obtain ⟨i0, hin, hz0, hzs, hz2⟩ := info1_int
  have HI := Lib.hid hin
  clear h0 h1 hl hin
  obtain ⟨W0, hW0⟩ : ∃ W0, W0 = (w.alloc (.cells #[.slice A0 d.points.length c0, .slice A1 d.segs.length c1] 49)) := ⟨_, rfl⟩
  have hW0s : W0.heap.size = w.heap.size + 1 := by rw [hW0]; simp
  rw [← hW0] at B BB
  have G0 := Lib.hid (GathO.one (cs := intCells) (t := 3) (k := 1) (x := fr) (Below.refl W0.heap.size W0) rfl)
  have HW0 := Lib.hid hW0
  clear hW0
  go_enter Tryz.func85, Tryz.ntmps85
  go_wp2
  rw [← HW0.out]
  clear HW0
  go_loopw [8, 16] (fun q i wr => ∃ (k : Nat) (out : List Int), k ≤ l.length ∧ out.length = k + 1 ∧ i = .int .i64 k ∧ Hid (ptsO d fr (l.take k) = some out) ∧ Hid (GathO 1 intCells 3 W0 q out wr)) (fun _ i _ => l.length - (intOf i).toNat)
  case atStart =>
    refine ⟨0, [fr], Nat.zero_le _, rfl, rfl, rfl, ?_⟩
    rw [hW0s] at G0
    exact G0
  case round =>
    clear G0
    obtain ⟨k, out, hk, hol, rfl, hP, hG⟩ := hrel
    have hgs := hG.out.size
    have hbw : Hid (Below w.heap.size w wr) := Lib.hid (B.out.trans (hG.out.2.mono (by omega)))
    have z1 := (BB.out.below hG.out.2).cell 1
    simp at z1
    by_cases hlt : k < l.length
    rotate_left
    · obtain rfl : k = l.length := by omega
      have E := Lib.hid (show ptsO d fr l = some out by have := hP.out; rw [List.take_length] at this; exact this)
      have OW := Lib.hid (own_lo hG.out.1 (base' := w.heap.size) (by omega))
      obtain ⟨Q, cq, rfl⟩ := hG.out.form
      go_wp2
      refine bodyPost_ret (v := .tuple #[.slice Q out.length cq, .bool true]) (by simp [results, Tryz.results85, go_sem, *]) rfl ⟨_, by rw [E.out]; rfl, by rw [E.out]; exact OW.out, hbw.out⟩
    · obtain ⟨i, hi⟩ : ∃ i, l[k]? = some i := ⟨_, List.getElem?_eq_getElem hlt⟩
      rcases HL.out.2 with ⟨he, _⟩ | ⟨g, o, c, e, hpos, hcap, hc⟩
      · rw [he] at hlt; simp at hlt
      · injection e with hA _ hcp
        subst hA hcp
        have q0 := SlInt.cells hc k i hi
        have hg : g < w.heap.size := World.block_lt_of_cell? w ⟨g, o + k, none⟩ q0
        have y0 := (hbw.out.cell (p := ⟨g, o + k, none⟩) hg).trans q0
        have HX := Lib.hid hi
        clear q0 hi hc
        cases hin : inB i 0 ((d.segs.length : Int) - 1) with
        | false =>
          have HIN := Lib.hid hin
          have E := Lib.hid (ptsO_cut (k + 1) (show ptsO d fr (l.take (k + 1)) = none by rw [ptsO_next HX.out, hP.out, stepP_out (segAt_out hin)]))
          clear hin
          go_wp2_with fail
          refine (l01In_any _ _ _ _).mono ?_
          rw [HIN.out]
          rintro e w2 ⟨rfl, rfl⟩
          go_wp2
          refine bodyPost_ret (v := .tuple #[.slice none 0 0, .bool false]) (by simp [results, Tryz.results85, go_sem, *]) rfl (PtsPost.no E.out hbw.out)
        | true =>
          have HIN := Lib.hid hin
          obtain ⟨s, hs, hx, i0', ilt⟩ := segAt_in hin
          have HS := Lib.hid hs
          obtain ⟨n, rfl⟩ : ∃ n : Nat, i = (n : Int) := ⟨i.toNat, by omega⟩
          simp only [Int.toNat_natCast] at hx ilt
          clear hin hs i0'
          rcases H1.out.2 with ⟨he, _⟩ | ⟨g', o', c', e', hpos', hcap', hc'⟩
          · rw [he] at ilt; simp at ilt
          · injection e' with hA' _ hcp'
            subst hA' hcp'
            obtain ⟨p0, p1, p2, p3, p4⟩ := SlSegment.cells hc' n s hx
            have hg' : g' < w.heap.size := World.block_lt_of_cell? w ⟨g', o' + n * 5, none⟩ p0
            have s0 := (hbw.out.cell (p := ⟨g', o' + n * 5, none⟩) hg').trans p0
            have s1 := (hbw.out.cell (p := ⟨g', o' + n * 5 + 1, none⟩) hg').trans p1
            have s2 := (hbw.out.cell (p := ⟨g', o' + n * 5 + 2, none⟩) hg').trans p2
            have s3 := (hbw.out.cell (p := ⟨g', o' + n * 5 + 3, none⟩) hg').trans p3
            have s4 := (hbw.out.cell (p := ⟨g', o' + n * 5 + 4, none⟩) hg').trans p4
            clear p0 p1 p2 p3 p4 hx hc'
            -- the last point
            obtain ⟨z, hz⟩ : ∃ z, out[k]? = some z := ⟨_, List.getElem?_eq_getElem (by omega)⟩
            have hzl : out.getLast? = some z := by rw [List.getLast?_eq_getElem?, show out.length - 1 = k by omega]; exact hz
            have HZ := Lib.hid hzl
            obtain ⟨Q, cq, hQ⟩ := hG.out.form
            subst hQ
            have hsl2 := own_sl intLen hG.out.1 (by omega)
            rcases hsl2.2 with ⟨he, _⟩ | ⟨g2, o2, c2', e2, _, hcap2, hc2⟩
            · rw [he] at hol; simp at hol
            · injection e2 with hA2 _ hcp2
              subst hA2 hcp2
              have l0 := SlInt.cells hc2 k z hz
              clear hc2 hsl2 hz hzl
              have hol1 : IntKind.i64.wrap ((out.length : Int) - 1) = (k : Int) := by rw [IntKind.wrap_i64]; omega
              have hko : k < out.length := by omega
              have HOL := Lib.hid hol
              have hob : out.length ≤ 1000000000 := by omega
              clear hol
              go_wp2_with fail
              refine (l01In_any _ _ _ _).mono ?_
              rw [HIN.out]
              rintro e w2 ⟨rfl, rfl⟩
              go_wp2
              go_still_tail 11, (by kernel_rfl)
              change wpList _ _ _ _ _ wr.drew
              have hG2 := Lib.hid (hG.out.below (Below.refl wr.heap.size wr).drew)
              have hbw2 := Lib.hid (hbw.out.trans ((Below.refl wr.heap.size wr).drew.mono hbw.out.size))
              generalize wr.drew = w2 at hG2 hbw2 ⊢
              clear hG hbw z1 y0 s0 s1 s2 s3 s4 l0 hgs
              obtain ⟨t, ht⟩ : ∃ t, otherI s z = t := ⟨_, rfl⟩
              have HT := Lib.hid ht
              clear ht
              go_wp2_with fail
              refine (specOther s z _).mono ?_
              rw [HT.out]
              rintro e w3 ⟨rfl, hb3⟩
              have hG3 := Lib.hid (hG2.out.below hb3)
              have hbw3 := Lib.hid (hbw2.out.trans (hb3.mono hbw2.out.size))
              clear hb3 hG2 hbw2
              by_cases hneg : t < 0
              · have E := Lib.hid (ptsO_cut (k + 1) (show ptsO d fr (l.take (k + 1)) = none by rw [ptsO_next HX.out, hP.out, stepP_bad HS.out HZ.out HT.out (.inl hneg)]))
                go_wp2
                refine bodyPost_ret (v := .tuple #[.slice none 0 0, .bool false]) (by simp [results, Tryz.results85, go_sem, *]) rfl (PtsPost.no E.out hbw3.out)
              · have hng : 0 ≤ t := by omega
                obtain ⟨b, hb⟩ : ∃ b, out.any (· == t) = b := ⟨_, rfl⟩
                have HB := Lib.hid hb
                clear hb
                go_wp2_with fail
                refine (specHas _ out t _ (own_sl intLen hG3.out.1 (by omega))).mono ?_
                rw [HB.out]
                rintro e w4 ⟨rfl, rfl⟩
                cases b with
                | true =>
                  have E := Lib.hid (ptsO_cut (k + 1) (show ptsO d fr (l.take (k + 1)) = none by rw [ptsO_next HX.out, hP.out, stepP_bad HS.out HZ.out HT.out (.inr HB.out)]))
                  go_wp2
                  refine bodyPost_ret (v := .tuple #[.slice none 0 0, .bool false]) (by simp [results, Tryz.results85, go_sem, *]) rfl (PtsPost.no E.out hbw3.out)
                | false =>
                  have P2 := Lib.hid (show ptsO d fr (l.take (k + 1)) = some (out ++ [t]) by rw [ptsO_next HX.out, hP.out, stepP_good HS.out HZ.out HT.out (by omega) HB.out])
                  have GW := Lib.hid (hG3.out.below (Joins.below_alloc1 w3 (.cells #[.int .i64 t] 3)))
                  have HN := Lib.hid (World.news_of_block (heap_alloc_new w3 (.cells #[.int .i64 t] 3)))
                  have hs3 := hG3.out.size
                  have HN' := Lib.hid (show ∀ j u, (intCells t)[j]? = some u → (w3.alloc (.cells #[.int .i64 t] 3)).cell? ((⟨w3.heap.size, 0, none⟩ : Addr).add j) = some u from fun j u hu => HN.out j u (by simpa [intCells] using hu))
                  go_wp2_with (at_builtin; refine wpList_append_lies _ rfl _ _ _ rfl W0.heap.size 3 i0 _ 1 8 Tryz.underlying61 HI.out hz0 (by assumption) hz2 rfl (by omega) (.slice (some ⟨g2, o2, none⟩) out.length cq) out.length (out.flatMap intCells) rfl GW.out.1 ⟨w3.heap.size, 0, none⟩ 1 1 (intCells t) (by first | rfl | simp) rfl HN'.out (int_one _) (by omega) (by unfold maxLen; omega) (by omega) (by first | omega | (simp; done) | (simp; omega)) _ rfl ?_; intro g4 cap4 w4 hown4 hgrow4 hor4 hlt4; have GX := Lib.hid (GW.out.next hown4 hgrow4); clear hown4 hgrow4 hor4 hlt4)
                  go_roundw
                  case rel => exact ⟨k + 1, out ++ [t], by omega, by have := HOL.out; simp; omega, by go_num, P2, GX⟩
                  case measure => simp [intOf]; omega
def routeB (d : ChartD) (fr : Int) (l : List Int) : Bool := chartB d && inB fr 0 ((d.points.length : Int) - 1) && (ptsO d fr l).isSome
def rteL (d : ChartD) (fr : Int) (l : List Int) : List Int := if routeB d fr l = true then (ptsO d fr l).getD [] else []
theorem routeB_bad {d : ChartD} {fr : Int} {l : List Int} (h : chartB d = false) : routeB d fr l = false := by unfold routeB; rw [h]; rfl
theorem routeB_off {d : ChartD} {fr : Int} {l : List Int} (h : inB fr 0 ((d.points.length : Int) - 1) = false) : routeB d fr l = false := by unfold routeB; rw [h]; simp
theorem routeB_ok {d : ChartD} {fr : Int} {l : List Int} (h : chartB d = true) (h' : inB fr 0 ((d.points.length : Int) - 1) = true) : routeB d fr l = (ptsO d fr l).isSome := by unfold routeB; rw [h, h']; rfl
set_option maxHeartbeats 4000000 in
theorem specRouteOk (v0 v1 : Value) (d : ChartD) (fr : Int) (v : Value) (l : List Int) (w : World) (h : RdChart w v0 v1 d) (hl : SlInt w v l) (hw : ∀ x ∈ d.points, PointD.wf x) :
    Calls Tryz.prog 49 #[.agg #[v0, v1], .int .i64 fr, v] w fun e w' => e = .returned (.bool (routeB d fr l)) ∧ Below w.heap.size w w' := by
  have HR := Lib.hid h
  have HWF := Lib.hid hw
  obtain ⟨h0, h1⟩ := h
  have hl1 := h1.1
  obtain ⟨A0, c0, rfl⟩ := h0.at
  obtain ⟨A1, c1, rfl⟩ := h1.at
  have HL := Lib.hid hl
  obtain ⟨A2, c2, rfl⟩ := hl.at
  have hl0 := h0.1
  have B := Lib.hid (Joins.below_alloc1 w (.cells #[.slice A0 d.points.length c0, .slice A1 d.segs.length c1] 49))
  have BB := Lib.hid (Blk.new w #[.slice A0 d.points.length c0, .slice A1 d.segs.length c1] 49)
  clear h0 h1 hw hl
  cases hok : chartB d with
  | false =>
    have HOK := Lib.hid hok
    have E := Lib.hid (routeB_bad (fr := fr) (l := l) hok)
    clear hok
    go_enter Tryz.func49, Tryz.ntmps49
    go_wp2_with fail
    refine (specChartOk _ _ d _ (HR.out.below B.out) HWF.out).mono ?_
    rw [HOK.out]
    rintro e w1 ⟨rfl, hb1⟩
    have B1 := Lib.hid (B.out.trans (hb1.mono B.out.size))
    clear hb1
    go_wp2
    go_ret
    exact ⟨ret_bool E.out.symm, B1.out⟩
  | true =>
    have HOK := Lib.hid hok
    cases hin : inB fr 0 ((d.points.length : Int) - 1) with
    | false =>
      have HIN := Lib.hid hin
      have E := Lib.hid (routeB_off (l := l) hin)
      clear hok hin
      go_enter Tryz.func49, Tryz.ntmps49
      go_wp2_with fail
      refine (specChartOk _ _ d _ (HR.out.below B.out) HWF.out).mono ?_
      rw [HOK.out]
      rintro e w1 ⟨rfl, hb1⟩
      have B1 := Lib.hid (B.out.trans (hb1.mono B.out.size))
      have z0 := (BB.out.below hb1).cell 0
      simp at z0
      clear hb1
      go_wp2_with fail
      refine (l01In_any _ _ _ _).mono ?_
      rw [HIN.out]
      rintro e w2 ⟨rfl, rfl⟩
      go_wp2
      go_ret
      exact ⟨ret_bool E.out.symm, B1.out⟩
    | true =>
      have HIN := Lib.hid hin
      have E := Lib.hid (routeB_ok (l := l) hok hin)
      have hsl : d.segs.length ≤ 1000 := by have := (chartB_true hok).2.1; omega
      clear hok hin
      go_enter Tryz.func49, Tryz.ntmps49
      go_wp2_with fail
      refine (specChartOk _ _ d _ (HR.out.below B.out) HWF.out).mono ?_
      rw [HOK.out]
      rintro e w1 ⟨rfl, hb1⟩
      have B1 := Lib.hid (B.out.trans (hb1.mono B.out.size))
      have z0 := (BB.out.below hb1).cell 0
      have z1 := (BB.out.below hb1).cell 1
      simp at z0 z1
      clear hb1
      go_wp2_with fail
      refine (l01In_any _ _ _ _).mono ?_
      rw [HIN.out]
      rintro e w2 ⟨rfl, rfl⟩
      go_wp2_with fail
      refine (specPoints _ _ d fr _ l _ (HR.out.below B1.out) (HL.out.below B1.out) hsl).mono ?_
      rintro e w3 ⟨u, rfl, _, hb3⟩
      have B3 := Lib.hid (B1.out.trans (hb3.mono B1.out.size))
      clear hb3 z0 z1
      go_wp2
      go_ret
      exact ⟨ret_bool E.out.symm, B3.out⟩
set_option maxHeartbeats 4000000 in
theorem specRoutePoints (v0 v1 : Value) (d : ChartD) (fr : Int) (v : Value) (l : List Int) (w : World) (h : RdChart w v0 v1 d) (hl : SlInt w v l) (hw : ∀ x ∈ d.points, PointD.wf x) :
    Calls Tryz.prog 51 #[.agg #[v0, v1], .int .i64 fr, v] w (NewInt (rteL d fr l) w) := by
  have HR := Lib.hid h
  have HWF := Lib.hid hw
  obtain ⟨h0, h1⟩ := h
  obtain ⟨A0, c0, rfl⟩ := h0.at
  obtain ⟨A1, c1, rfl⟩ := h1.at
  have HL := Lib.hid hl
  obtain ⟨A2, c2, rfl⟩ := hl.at
  have B := Lib.hid (Joins.below_alloc1 w (.cells #[.slice A0 d.points.length c0, .slice A1 d.segs.length c1] 49))
  have BB := Lib.hid (Blk.new w #[.slice A0 d.points.length c0, .slice A1 d.segs.length c1] 49)
  clear h0 h1 hw hl
  obtain ⟨b, hb⟩ : ∃ b, routeB d fr l = b := ⟨_, rfl⟩
  have HB := Lib.hid hb
  cases b with
  | false =>
    have E := Lib.hid (show rteL d fr l = [] from if_neg (by rw [hb]; simp))
    rw [E.out]
    clear hb
    go_enter Tryz.func51, Tryz.ntmps51
    go_wp2_with fail
    refine (specRouteOk _ _ d fr _ l _ (HR.out.below B.out) (HL.out.below B.out) HWF.out).mono ?_
    rw [HB.out]
    rintro e w1 ⟨rfl, hb1⟩
    have B1 := Lib.hid (B.out.trans (hb1.mono B.out.size))
    clear hb1
    go_wp2
    go_ret
    exact ⟨_, rfl, (GathO.empty (cs := intCells) (t := 3) (k := 1) B1.out).1, B1.out⟩
  | true =>
    have E := Lib.hid (show rteL d fr l = (ptsO d fr l).getD [] from if_pos hb)
    rw [E.out]
    have hsl : d.segs.length ≤ 1000 := by
      unfold routeB at hb
      rw [Bool.and_eq_true, Bool.and_eq_true] at hb
      have := (chartB_true hb.1.1).2.1
      omega
    clear hb
    go_enter Tryz.func51, Tryz.ntmps51
    go_wp2_with fail
    refine (specRouteOk _ _ d fr _ l _ (HR.out.below B.out) (HL.out.below B.out) HWF.out).mono ?_
    rw [HB.out]
    rintro e w1 ⟨rfl, hb1⟩
    have B1 := Lib.hid (B.out.trans (hb1.mono B.out.size))
    have z0 := (BB.out.below hb1).cell 0
    have z1 := (BB.out.below hb1).cell 1
    simp at z0 z1
    clear hb1
    go_wp2_with fail
    refine (specPoints _ _ d fr _ l _ (HR.out.below B1.out) (HL.out.below B1.out) hsl).mono ?_
    rintro e w3 ⟨u, rfl, ho, hb3⟩
    have B3 := Lib.hid (B1.out.trans (hb3.mono B1.out.size))
    have HO := Lib.hid (own_lo ho (base' := w.heap.size) B1.out.size)
    obtain ⟨Q, q, rfl⟩ := own_form ho
    clear hb3 z0 z1 ho
    go_wp2
    go_ret
    exact ⟨_, rfl, HO.out, B3.out⟩
end Go.Proofs.YtooeikimoheecaaGreat
