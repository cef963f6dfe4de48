
/- What ExactIsSafePassage and ExactSailRoute and ExactFirstSail rests on, part 12: contracts and mathematics. -/
import Derived.Test.YtooeikimoheecaaGreatGr9
import Derived.Test.YtooeikimoheecaaGreatGr6
import Derived.StillTailTactics
import Derived.Test.YtooeikimoheecaaGreatGr10
import Derived.Test.YtooeikimoheecaaGreatGr0
import Derived.Test.YtooeikimoheecaaGreatGr1
import Derived.Test.YtooeikimoheecaaGreatGr11
namespace Go.Proofs.YtooeikimoheecaaGreat
open Go.RowKit
set_option maxRecDepth 100000
/-- One segment more: the points so far, or none where the route breaks. -/
def stepP (d : ChartD) (acc : Option (List Int)) (i : Int) : Option (List Int) :=
  match acc, segAt d i with
  | some out, some s => if otherI s (out.getLast?.getD 0) < 0 ∨ out.any (· == otherI s (out.getLast?.getD 0)) = true then none else some (out ++ [otherI s (out.getLast?.getD 0)])
  | _, _ => none
def ptsO (d : ChartD) (fr : Int) (l : List Int) : Option (List Int) := l.foldl (stepP d) (some [fr])
theorem ptsO_snoc (d : ChartD) (fr : Int) (l : List Int) (i : Int) : ptsO d fr (l ++ [i]) = stepP d (ptsO d fr l) i := by unfold ptsO; rw [List.foldl_append]; rfl
theorem fold_none (d : ChartD) : ∀ l : List Int, l.foldl (stepP d) none = none := by
  intro l; induction l with
  | nil => rfl
  | cons i l ih => exact ih
theorem ptsO_cut {d : ChartD} {fr : Int} {l : List Int} (k : Nat) (h : ptsO d fr (l.take k) = none) : ptsO d fr l = none := by
  have e : l = l.take k ++ l.drop k := (List.take_append_drop k l).symm
  rw [e]
  unfold ptsO at h ⊢
  rw [List.foldl_append, h, fold_none]
theorem ptsO_next {d : ChartD} {fr : Int} {l : List Int} {k : Nat} {i : Int} (hx : l[k]? = some i) : ptsO d fr (l.take (k + 1)) = stepP d (ptsO d fr (l.take k)) i := by
  rw [take_snoc' l k i hx, ptsO_snoc]
theorem ptsO_len {d : ChartD} {fr : Int} (l : List Int) : ∀ {out : List Int}, ptsO d fr l = some out → out.length = l.length + 1 := by
  refine snocInd (P := fun l => ∀ {out : List Int}, ptsO d fr l = some out → out.length = l.length + 1) ?_ ?_ l
  · intro out h; simp [ptsO] at h; subst h; rfl
  · intro l i ih out h
    rw [ptsO_snoc] at h
    cases hp : ptsO d fr l with
    | none => rw [hp] at h; cases h
    | some o =>
      rw [hp] at h
      unfold stepP at h
      cases hs : segAt d i with
      | none => rw [hs] at h; cases h
      | some s =>
        rw [hs] at h
        simp only at h
        split at h
        · cases h
        · simp at h; subst h; have := ih hp; simp; omega
theorem stepP_out {d : ChartD} {out : List Int} {i : Int} (h : segAt d i = none) : stepP d (some out) i = none := by unfold stepP; rw [h]
theorem stepP_bad {d : ChartD} {out : List Int} {i n z : Int} {s : SegmentD} (h : segAt d i = some s) (hz : out.getLast? = some z) (hn : otherI s z = n) (hb : n < 0 ∨ out.any (· == n) = true) : stepP d (some out) i = none := by
  unfold stepP; rw [h]; simp only [hz, Option.getD_some, hn]; rw [if_pos hb]
theorem stepP_good {d : ChartD} {out : List Int} {i n z : Int} {s : SegmentD} (h : segAt d i = some s) (hz : out.getLast? = some z) (hn : otherI s z = n) (hb : ¬ n < 0) (ha : out.any (· == n) = false) : stepP d (some out) i = some (out ++ [n]) := by
  unfold stepP; rw [h]; simp only [hz, Option.getD_some, hn]; rw [if_neg (by rw [ha]; simp; omega)]
/-- What l05Points leaves. -/
def PtsPost (d : ChartD) (fr : Int) (l : List Int) (w : World) (e : Ending) (w' : World) : Prop :=
  ∃ v, e = .returned (.tuple #[v, .bool (ptsO d fr l).isSome]) ∧ OwnInt w' w.heap.size v ((ptsO d fr l).getD []) ∧ Below w.heap.size w w'
theorem PtsPost.no {d : ChartD} {fr : Int} {l : List Int} {w w' : World} (h : ptsO d fr l = none) (hb : Below w.heap.size w w') : PtsPost d fr l w (.returned (.tuple #[.slice none 0 0, .bool false])) w' := by
  refine ⟨_, by rw [h]; rfl, ?_, hb⟩
  rw [h]
  exact (GathO.empty (cs := intCells) (t := 3) (k := 1) hb).1
set_option maxHeartbeats 8000000 in
theorem specPoints (v0 v1 : Value) (d : ChartD) (fr : Int) (v : Value) (l : List Int) (w : World) (h : RdChart w v0 v1 d) (hl : SlInt w v l) (hsl : d.segs.length ≤ 1000) :
    Calls Tryz.prog 85 #[.agg #[v0, v1], .int .i64 fr, v] w (PtsPost d fr l w) := by
  obtain ⟨h0, h1⟩ := h
  obtain ⟨A0, c0, rfl⟩ := h0.at
  obtain ⟨A1, c1, rfl⟩ := h1.at
  have HL := Lib.hid hl
  have hll := hl.1
  obtain ⟨A2, c2, rfl⟩ := hl.at
  have B := Lib.hid (Joins.below_alloc1 w (.cells #[.slice A0 d.points.length c0, .slice A1 d.segs.length c1] 49))
  have BB := Lib.hid (Blk.new w #[.slice A0 d.points.length c0, .slice A1 d.segs.length c1] 49)
  have H1 := Lib.hid h1
  have hl1 := h1.1
  obtain ⟨i0, hin, hz0, hzs, hz2⟩ := info1_int
  have HI := Lib.hid hin
  clear h0 h1 hl hin
  obtain ⟨W0, hW0⟩ : ∃ W0, W0 = (w.alloc (.cells #[.slice A0 d.points.length c0, .slice A1 d.segs.length c1] 49)) := ⟨_, rfl⟩
  have hW0s : W0.heap.size = w.heap.size + 1 := by rw [hW0]; simp
  rw [← hW0] at B BB
  have G0 := Lib.hid (GathO.one (cs := intCells) (t := 3) (k := 1) (x := fr) (Below.refl W0.heap.size W0) rfl)
  have HW0 := Lib.hid hW0
  clear hW0
  go_enter Tryz.func85, Tryz.ntmps85
  go_wp2
  rw [← HW0.out]
  clear HW0
  go_loopw [8, 16] (fun q i wr => ∃ (k : Nat) (out : List Int), k ≤ l.length ∧ out.length = k + 1 ∧ i = .int .i64 k ∧ Hid (ptsO d fr (l.take k) = some out) ∧ Hid (GathO 1 intCells 3 W0 q out wr)) (fun _ i _ => l.length - (intOf i).toNat)
  case atStart =>
    refine ⟨0, [fr], Nat.zero_le _, rfl, rfl, rfl, ?_⟩
    rw [hW0s] at G0
    exact G0
  case round =>
    clear G0
    obtain ⟨k, out, hk, hol, rfl, hP, hG⟩ := hrel
    have hgs := hG.out.size
    have hbw : Hid (Below w.heap.size w wr) := Lib.hid (B.out.trans (hG.out.2.mono (by omega)))
    have z1 := (BB.out.below hG.out.2).cell 1
    simp at z1
    by_cases hlt : k < l.length
    rotate_left
    · obtain rfl : k = l.length := by omega
      have E := Lib.hid (show ptsO d fr l = some out by have := hP.out; rw [List.take_length] at this; exact this)
      have OW := Lib.hid (own_lo hG.out.1 (base' := w.heap.size) (by omega))
      obtain ⟨Q, cq, rfl⟩ := hG.out.form
      go_wp2
      refine bodyPost_ret (v := .tuple #[.slice Q out.length cq, .bool true]) (by simp [results, Tryz.results85, go_sem, *]) rfl ⟨_, by rw [E.out]; rfl, by rw [E.out]; exact OW.out, hbw.out⟩
    · obtain ⟨i, hi⟩ : ∃ i, l[k]? = some i := ⟨_, List.getElem?_eq_getElem hlt⟩
      rcases HL.out.2 with ⟨he, _⟩ | ⟨g, o, c, e, hpos, hcap, hc⟩
      · rw [he] at hlt; simp at hlt
      · injection e with hA _ hcp
        subst hA hcp
        have q0 := SlInt.cells hc k i hi
        have hg : g < w.heap.size := World.block_lt_of_cell? w ⟨g, o + k, none⟩ q0
        have y0 := (hbw.out.cell (p := ⟨g, o + k, none⟩) hg).trans q0
        have HX := Lib.hid hi
        clear q0 hi hc
        cases hin : inB i 0 ((d.segs.length : Int) - 1) with
        | false =>
          have HIN := Lib.hid hin
          have E := Lib.hid (ptsO_cut (k + 1) (show ptsO d fr (l.take (k + 1)) = none by rw [ptsO_next HX.out, hP.out, stepP_out (segAt_out hin)]))
          clear hin
          go_wp2_with fail
          refine (l01In_any _ _ _ _).mono ?_
          rw [HIN.out]
          rintro e w2 ⟨rfl, rfl⟩
          go_wp2
          refine bodyPost_ret (v := .tuple #[.slice none 0 0, .bool false]) (by simp [results, Tryz.results85, go_sem, *]) rfl (PtsPost.no E.out hbw.out)
        | true =>
          have HIN := Lib.hid hin
          obtain ⟨s, hs, hx, i0', ilt⟩ := segAt_in hin
          have HS := Lib.hid hs
          obtain ⟨n, rfl⟩ : ∃ n : Nat, i = (n : Int) := ⟨i.toNat, by omega⟩
          simp only [Int.toNat_natCast] at hx ilt
          clear hin hs i0'
          rcases H1.out.2 with ⟨he, _⟩ | ⟨g', o', c', e', hpos', hcap', hc'⟩
          · rw [he] at ilt; simp at ilt
          · injection e' with hA' _ hcp'
            subst hA' hcp'
            obtain ⟨p0, p1, p2, p3, p4⟩ := SlSegment.cells hc' n s hx
            have hg' : g' < w.heap.size := World.block_lt_of_cell? w ⟨g', o' + n * 5, none⟩ p0
            have s0 := (hbw.out.cell (p := ⟨g', o' + n * 5, none⟩) hg').trans p0
            have s1 := (hbw.out.cell (p := ⟨g', o' + n * 5 + 1, none⟩) hg').trans p1
            have s2 := (hbw.out.cell (p := ⟨g', o' + n * 5 + 2, none⟩) hg').trans p2
            have s3 := (hbw.out.cell (p := ⟨g', o' + n * 5 + 3, none⟩) hg').trans p3
            have s4 := (hbw.out.cell (p := ⟨g', o' + n * 5 + 4, none⟩) hg').trans p4
            clear p0 p1 p2 p3 p4 hx hc'
            -- the last point
            obtain ⟨z, hz⟩ : ∃ z, out[k]? = some z := ⟨_, List.getElem?_eq_getElem (by omega)⟩
            have hzl : out.getLast? = some z := by rw [List.getLast?_eq_getElem?, show out.length - 1 = k by omega]; exact hz
            have HZ := Lib.hid hzl
            obtain ⟨Q, cq, hQ⟩ := hG.out.form
            subst hQ
            have hsl2 := own_sl intLen hG.out.1 (by omega)
            rcases hsl2.2 with ⟨he, _⟩ | ⟨g2, o2, c2', e2, _, hcap2, hc2⟩
            · rw [he] at hol; simp at hol
            · injection e2 with hA2 _ hcp2
              subst hA2 hcp2
              have l0 := SlInt.cells hc2 k z hz
              clear hc2 hsl2 hz hzl
              have hol1 : IntKind.i64.wrap ((out.length : Int) - 1) = (k : Int) := by rw [IntKind.wrap_i64]; omega
              have hko : k < out.length := by omega
              have HOL := Lib.hid hol
              have hob : out.length ≤ 1000000000 := by omega
              clear hol
              go_wp2_with fail
              refine (l01In_any _ _ _ _).mono ?_
              rw [HIN.out]
              rintro e w2 ⟨rfl, rfl⟩
              go_wp2
              go_still_tail 11, (by kernel_rfl)
              change wpList _ _ _ _ _ wr.drew
              have hG2 := Lib.hid (hG.out.below (Below.refl wr.heap.size wr).drew)
              have hbw2 := Lib.hid (hbw.out.trans ((Below.refl wr.heap.size wr).drew.mono hbw.out.size))
              generalize wr.drew = w2 at hG2 hbw2 ⊢
              clear hG hbw z1 y0 s0 s1 s2 s3 s4 l0 hgs
              obtain ⟨t, ht⟩ : ∃ t, otherI s z = t := ⟨_, rfl⟩
              have HT := Lib.hid ht
              clear ht
              go_wp2_with fail
              refine (specOther s z _).mono ?_
              rw [HT.out]
              rintro e w3 ⟨rfl, hb3⟩
              have hG3 := Lib.hid (hG2.out.below hb3)
              have hbw3 := Lib.hid (hbw2.out.trans (hb3.mono hbw2.out.size))
              clear hb3 hG2 hbw2
              by_cases hneg : t < 0
              · have E := Lib.hid (ptsO_cut (k + 1) (show ptsO d fr (l.take (k + 1)) = none by rw [ptsO_next HX.out, hP.out, stepP_bad HS.out HZ.out HT.out (.inl hneg)]))
                go_wp2
                refine bodyPost_ret (v := .tuple #[.slice none 0 0, .bool false]) (by simp [results, Tryz.results85, go_sem, *]) rfl (PtsPost.no E.out hbw3.out)
              · have hng : 0 ≤ t := by omega
                obtain ⟨b, hb⟩ : ∃ b, out.any (· == t) = b := ⟨_, rfl⟩
                have HB := Lib.hid hb
                clear hb
                go_wp2_with fail
                refine (specHas _ out t _ (own_sl intLen hG3.out.1 (by omega))).mono ?_
                rw [HB.out]
                rintro e w4 ⟨rfl, rfl⟩
                cases b with
                | true =>
                  have E := Lib.hid (ptsO_cut (k + 1) (show ptsO d fr (l.take (k + 1)) = none by rw [ptsO_next HX.out, hP.out, stepP_bad HS.out HZ.out HT.out (.inr HB.out)]))
                  go_wp2
                  refine bodyPost_ret (v := .tuple #[.slice none 0 0, .bool false]) (by simp [results, Tryz.results85, go_sem, *]) rfl (PtsPost.no E.out hbw3.out)
                | false =>
                  have P2 := Lib.hid (show ptsO d fr (l.take (k + 1)) = some (out ++ [t]) by rw [ptsO_next HX.out, hP.out, stepP_good HS.out HZ.out HT.out (by omega) HB.out])
                  have GW := Lib.hid (hG3.out.below (Joins.below_alloc1 w3 (.cells #[.int .i64 t] 3)))
                  have HN := Lib.hid (World.news_of_block (heap_alloc_new w3 (.cells #[.int .i64 t] 3)))
                  have hs3 := hG3.out.size
                  have HN' := Lib.hid (show ∀ j u, (intCells t)[j]? = some u → (w3.alloc (.cells #[.int .i64 t] 3)).cell? ((⟨w3.heap.size, 0, none⟩ : Addr).add j) = some u from fun j u hu => HN.out j u (by simpa [intCells] using hu))
                  go_wp2_with (at_builtin; refine wpList_append_lies _ rfl _ _ _ rfl W0.heap.size 3 i0 _ 1 8 Tryz.underlying61 HI.out hz0 (by assumption) hz2 rfl (by omega) (.slice (some ⟨g2, o2, none⟩) out.length cq) out.length (out.flatMap intCells) rfl GW.out.1 ⟨w3.heap.size, 0, none⟩ 1 1 (intCells t) (by first | rfl | simp) rfl HN'.out (int_one _) (by omega) (by unfold maxLen; omega) (by omega) (by first | omega | (simp; done) | (simp; omega)) _ rfl ?_; intro g4 cap4 w4 hown4 hgrow4 hor4 hlt4; have GX := Lib.hid (GW.out.next hown4 hgrow4); clear hown4 hgrow4 hor4 hlt4)
                  go_roundw
                  case rel => exact ⟨k + 1, out ++ [t], by omega, by have := HOL.out; simp; omega, by go_num, P2, GX⟩
                  case measure => simp [intOf]; omega
def routeB (d : ChartD) (fr : Int) (l : List Int) : Bool := chartB d && inB fr 0 ((d.points.length : Int) - 1) && (ptsO d fr l).isSome
def rteL (d : ChartD) (fr : Int) (l : List Int) : List Int := if routeB d fr l = true then (ptsO d fr l).getD [] else []
theorem routeB_bad {d : ChartD} {fr : Int} {l : List Int} (h : chartB d = false) : routeB d fr l = false := by unfold routeB; rw [h]; rfl
theorem routeB_off {d : ChartD} {fr : Int} {l : List Int} (h : inB fr 0 ((d.points.length : Int) - 1) = false) : routeB d fr l = false := by unfold routeB; rw [h]; simp
theorem routeB_ok {d : ChartD} {fr : Int} {l : List Int} (h : chartB d = true) (h' : inB fr 0 ((d.points.length : Int) - 1) = true) : routeB d fr l = (ptsO d fr l).isSome := by unfold routeB; rw [h, h']; rfl
set_option maxHeartbeats 4000000 in
theorem specRouteOk (v0 v1 : Value) (d : ChartD) (fr : Int) (v : Value) (l : List Int) (w : World) (h : RdChart w v0 v1 d) (hl : SlInt w v l) (hw : ∀ x ∈ d.points, PointD.wf x) :
    Calls Tryz.prog 49 #[.agg #[v0, v1], .int .i64 fr, v] w fun e w' => e = .returned (.bool (routeB d fr l)) ∧ Below w.heap.size w w' := by
  have HR := Lib.hid h
  have HWF := Lib.hid hw
  obtain ⟨h0, h1⟩ := h
  have hl1 := h1.1
  obtain ⟨A0, c0, rfl⟩ := h0.at
  obtain ⟨A1, c1, rfl⟩ := h1.at
  have HL := Lib.hid hl
  obtain ⟨A2, c2, rfl⟩ := hl.at
  have hl0 := h0.1
  have B := Lib.hid (Joins.below_alloc1 w (.cells #[.slice A0 d.points.length c0, .slice A1 d.segs.length c1] 49))
  have BB := Lib.hid (Blk.new w #[.slice A0 d.points.length c0, .slice A1 d.segs.length c1] 49)
  clear h0 h1 hw hl
  cases hok : chartB d with
  | false =>
    have HOK := Lib.hid hok
    have E := Lib.hid (routeB_bad (fr := fr) (l := l) hok)
    clear hok
    go_enter Tryz.func49, Tryz.ntmps49
    go_wp2_with fail
    refine (specChartOk _ _ d _ (HR.out.below B.out) HWF.out).mono ?_
    rw [HOK.out]
    rintro e w1 ⟨rfl, hb1⟩
    have B1 := Lib.hid (B.out.trans (hb1.mono B.out.size))
    clear hb1
    go_wp2
    go_ret
    exact ⟨ret_bool E.out.symm, B1.out⟩
  | true =>
    have HOK := Lib.hid hok
    cases hin : inB fr 0 ((d.points.length : Int) - 1) with
    | false =>
      have HIN := Lib.hid hin
      have E := Lib.hid (routeB_off (l := l) hin)
      clear hok hin
      go_enter Tryz.func49, Tryz.ntmps49
      go_wp2_with fail
      refine (specChartOk _ _ d _ (HR.out.below B.out) HWF.out).mono ?_
      rw [HOK.out]
      rintro e w1 ⟨rfl, hb1⟩
      have B1 := Lib.hid (B.out.trans (hb1.mono B.out.size))
      have z0 := (BB.out.below hb1).cell 0
      simp at z0
      clear hb1
      go_wp2_with fail
      refine (l01In_any _ _ _ _).mono ?_
      rw [HIN.out]
      rintro e w2 ⟨rfl, rfl⟩
      go_wp2
      go_ret
      exact ⟨ret_bool E.out.symm, B1.out⟩
    | true =>
      have HIN := Lib.hid hin
      have E := Lib.hid (routeB_ok (l := l) hok hin)
      have hsl : d.segs.length ≤ 1000 := by have := (chartB_true hok).2.1; omega
      clear hok hin
      go_enter Tryz.func49, Tryz.ntmps49
      go_wp2_with fail
      refine (specChartOk _ _ d _ (HR.out.below B.out) HWF.out).mono ?_
      rw [HOK.out]
      rintro e w1 ⟨rfl, hb1⟩
      have B1 := Lib.hid (B.out.trans (hb1.mono B.out.size))
      have z0 := (BB.out.below hb1).cell 0
      have z1 := (BB.out.below hb1).cell 1
      simp at z0 z1
      clear hb1
      go_wp2_with fail
      refine (l01In_any _ _ _ _).mono ?_
      rw [HIN.out]
      rintro e w2 ⟨rfl, rfl⟩
      go_wp2_with fail
      refine (specPoints _ _ d fr _ l _ (HR.out.below B1.out) (HL.out.below B1.out) hsl).mono ?_
      rintro e w3 ⟨u, rfl, _, hb3⟩
      have B3 := Lib.hid (B1.out.trans (hb3.mono B1.out.size))
      clear hb3 z0 z1
      go_wp2
      go_ret
      exact ⟨ret_bool E.out.symm, B3.out⟩
set_option maxHeartbeats 4000000 in
theorem specRoutePoints (v0 v1 : Value) (d : ChartD) (fr : Int) (v : Value) (l : List Int) (w : World) (h : RdChart w v0 v1 d) (hl : SlInt w v l) (hw : ∀ x ∈ d.points, PointD.wf x) :
    Calls Tryz.prog 51 #[.agg #[v0, v1], .int .i64 fr, v] w (NewInt (rteL d fr l) w) := by
  have HR := Lib.hid h
  have HWF := Lib.hid hw
  obtain ⟨h0, h1⟩ := h
  obtain ⟨A0, c0, rfl⟩ := h0.at
  obtain ⟨A1, c1, rfl⟩ := h1.at
  have HL := Lib.hid hl
  obtain ⟨A2, c2, rfl⟩ := hl.at
  have B := Lib.hid (Joins.below_alloc1 w (.cells #[.slice A0 d.points.length c0, .slice A1 d.segs.length c1] 49))
  have BB := Lib.hid (Blk.new w #[.slice A0 d.points.length c0, .slice A1 d.segs.length c1] 49)
  clear h0 h1 hw hl
  obtain ⟨b, hb⟩ : ∃ b, routeB d fr l = b := ⟨_, rfl⟩
  have HB := Lib.hid hb
  cases b with
  | false =>
    have E := Lib.hid (show rteL d fr l = [] from if_neg (by rw [hb]; simp))
    rw [E.out]
    clear hb
    go_enter Tryz.func51, Tryz.ntmps51
    go_wp2_with fail
    refine (specRouteOk _ _ d fr _ l _ (HR.out.below B.out) (HL.out.below B.out) HWF.out).mono ?_
    rw [HB.out]
    rintro e w1 ⟨rfl, hb1⟩
    have B1 := Lib.hid (B.out.trans (hb1.mono B.out.size))
    clear hb1
    go_wp2
    go_ret
    exact ⟨_, rfl, (GathO.empty (cs := intCells) (t := 3) (k := 1) B1.out).1, B1.out⟩
  | true =>
    have E := Lib.hid (show rteL d fr l = (ptsO d fr l).getD [] from if_pos hb)
    rw [E.out]
    have hsl : d.segs.length ≤ 1000 := by
      unfold routeB at hb
      rw [Bool.and_eq_true, Bool.and_eq_true] at hb
      have := (chartB_true hb.1.1).2.1
      omega
    clear hb
    go_enter Tryz.func51, Tryz.ntmps51
    go_wp2_with fail
    refine (specRouteOk _ _ d fr _ l _ (HR.out.below B.out) (HL.out.below B.out) HWF.out).mono ?_
    rw [HB.out]
    rintro e w1 ⟨rfl, hb1⟩
    have B1 := Lib.hid (B.out.trans (hb1.mono B.out.size))
    have z0 := (BB.out.below hb1).cell 0
    have z1 := (BB.out.below hb1).cell 1
    simp at z0 z1
    clear hb1
    go_wp2_with fail
    refine (specPoints _ _ d fr _ l _ (HR.out.below B1.out) (HL.out.below B1.out) hsl).mono ?_
    rintro e w3 ⟨u, rfl, ho, hb3⟩
    have B3 := Lib.hid (B1.out.trans (hb3.mono B1.out.size))
    have HO := Lib.hid (own_lo ho (base' := w.heap.size) B1.out.size)
    obtain ⟨Q, q, rfl⟩ := own_form ho
    clear hb3 z0 z1 ho
    go_wp2
    go_ret
    exact ⟨_, rfl, HO.out, B3.out⟩
end Go.Proofs.YtooeikimoheecaaGreat
namespace Go.Proofs.YtooeikimoheecaaGreat
set_option maxRecDepth 100000
@[reducible] def shipNm (s : ByteArray) (p : ShipD) : Bool := p.name.toList == s.toList
/-- The index of the first ship of a name, or -1. -/
def shipI (l : List ShipD) (s : ByteArray) : Int := firstI (shipNm s) l
def flAt (l : List ShipD) (k : Nat) : Bool := match l[k]? with | some x => shipB x && (shipI l x.name == (k : Int)) | none => true
def fleetB (l : List ShipD) : Bool := decide (l.length ≤ 6) && (List.range l.length).all (flAt l)
def FirstF (l : List ShipD) (k : Nat) : Prop := ∀ j, j < k → flAt l j = true
theorem FirstF.zero (l : List ShipD) : FirstF l 0 := fun j hj => absurd hj (by omega)
theorem FirstF.next {l : List ShipD} {k : Nat} (h : FirstF l k) (hk : flAt l k = true) : FirstF l (k + 1) := fun j hj => by
  by_cases e : j = k
  · subst e; exact hk
  · exact h j (by omega)
theorem flAt_at {l : List ShipD} {k : Nat} {x : ShipD} (hx : l[k]? = some x) : flAt l k = (shipB x && (shipI l x.name == (k : Int))) := by unfold flAt; rw [hx]
theorem fleetB_long {l : List ShipD} (h : 6 < l.length) : fleetB l = false := by unfold fleetB; rw [decide_eq_false (by omega)]; rfl
theorem fleetB_no {l : List ShipD} {k : Nat} (hk : k < l.length) (h : flAt l k = false) : fleetB l = false := by
  unfold fleetB
  rw [List.all_eq_false.2 ⟨k, List.mem_range.2 hk, by rw [h]; simp⟩, Bool.and_false]
theorem fleetB_mk {l : List ShipD} (h : l.length ≤ 6) (h' : FirstF l l.length) : fleetB l = true := by
  unfold fleetB
  rw [decide_eq_true h, List.all_eq_true.2 (fun j hj => h' j (List.mem_range.1 hj))]; rfl
theorem fleetB_true {l : List ShipD} (h : fleetB l = true) : l.length ≤ 6 ∧ FirstF l l.length := by
  unfold fleetB at h
  rw [Bool.and_eq_true, decide_eq_true_iff] at h
  exact ⟨h.1, fun j hj => List.all_eq_true.1 h.2 j (List.mem_range.2 hj)⟩
theorem fleetB_ship {l : List ShipD} (h : fleetB l = true) {k : Nat} {x : ShipD} (hx : l[k]? = some x) : shipB x = true ∧ shipI l x.name = (k : Int) := by
  have hk := (fleetB_true h).2 k (List.getElem?_eq_some_iff.1 hx).1
  rw [flAt_at hx, Bool.and_eq_true] at hk
  exact ⟨hk.1, by simpa using hk.2⟩
def squatI (d : ShipD) : Int := if shipB d = true then (if d.slow = true then d.draught.tdiv 50 else d.draught.tdiv 20) else 0
end Go.Proofs.YtooeikimoheecaaGreat
namespace Go.Proofs.YtooeikimoheecaaGreat
open Go.RowKit Go.Maps Go.WideMaps
set_option maxRecDepth 100000
set_option maxHeartbeats 4000000 in
theorem implPointsOk (v : Value) (l : List PointD) (w : World) (h : SlPoint w v l) (hwf : ∀ x ∈ l, PointD.wf x) :
    Calls Tryz.prog 118 #[v] w fun e w' => e = .returned (.bool (ptsB l)) ∧ Below w.heap.size w w' := by
  have HS := Lib.hid h
  have HWF := Lib.hid hwf
  have hl := h.1
  obtain ⟨A, c, rfl⟩ := h.at
  clear h hwf
  by_cases h8 : 8 < l.length
  · have E := Lib.hid (ptsB_long h8)
    go_enter Tryz.func118, Tryz.ntmps118
    go_wp2
    go_ret
    exact ⟨ret_bool E.out.symm, Below.refl _ _⟩
  · have H8 := Lib.hid (show l.length ≤ 8 by omega)
    go_enter Tryz.func118, Tryz.ntmps118
    go_wp2_with fail
    refine (implFirsts _ l _ HS.out HWF.out).mono ?_
    rintro e w1 ⟨b, rfl, hb, ⟨n, hn, hm⟩, hb1⟩
    have HB1 := Lib.hid hb1
    have hbl := hm.lt
    clear hb1
    go_wp2_with (first
      | (at_range; refine wpList_range_own _ rfl _ 176 rfl 9 3 law_string Tryz.underlying176 _ b n _ rfl hm ?_; intro w0 hrg0 hg0 hs0)
      | fail)
    go_frame
    have HB0 := Lib.hid (show Below w.heap.size w w0 from HB1.out.grown hg0 HB1.out.size (fun k e => by cases e))
    obtain ⟨r, hr⟩ : ∃ r, w1.heap.size = r := ⟨_, rfl⟩
    rw [hr] at hrg0 ⊢
    have hrw : w.heap.size ≤ r := by have := HB1.out.size; omega
    clear hm hg0 hs0 hr HB1
    go_loopw [4] (fun _ wr => ∃ (left : Lit → Bool) (cnt : Nat), wr.ranges Tryz.prog 9 (plainElem (H := Unit) Tryz.prog 3) b r n (nameMap 0 l) left cnt ∧ Hid (Named l left) ∧ Hid (Below w.heap.size w wr)) (fun _ wr => wr.rangeLeft b r)
    case atStart => exact ⟨_, _, hrg0, Lib.hid (Named.start l), HB0⟩
    case round =>
      clear hrg0 HB0
      obtain ⟨left, cnt, hrg, hN, hBr⟩ := hrel
      go_wp2_with (first
        | (at_next; refine wpList_next_ranges _ rfl _ rfl 9 law_string (plainElem Tryz.prog 3) Value.string (Value.int .i64) (fun key kl hkey => by obtain ⟨s, rfl, _⟩ := string_of_keyOf Tryz.underlying9 hkey; exact ⟨s, rfl⟩) (fun v y hv => by obtain ⟨c, rfl, _⟩ := plainElem_int_inv Tryz.underlying3 hv; exact ⟨c, rfl⟩) b r n _ _ _ rfl hrg ?_ ?_)
        | fail)
      · intro _ hl0
        have E := Lib.hid (ptsB_end H8.out (hN.out.stop hl0))
        have hm := hrg.owns
        clear hl0 hN
        have E2 := Lib.hid (show ((((size (nameMap 0 l) : Nat) : Int) == (l.length : Int)) : Bool) = ptsB l by
          rw [E.out, Bool.eq_iff_iff, decide_eq_true_iff, beq_iff_eq]; omega)
        go_wp2_with (first
          | (at_len; refine wpList_len_own _ rfl _ 176 rfl 9 3 Tryz.underlying176 _ b n _ rfl hm ?_)
          | fail)
        go_ret
        exact ⟨ret_bool E2.out, hBr.out⟩
      · intro s c kl y _ w' cnt' hkey hlk hv hat hrg1 hlt hg1 hs1 hen
        obtain ⟨s', es, rfl, hsz⟩ := string_of_keyOf Tryz.underlying9 hkey
        cases es
        have HB2 := Lib.hid (show Below w.heap.size w w' from hBr.out.grown hg1 hBr.out.size (fun k e => by cases e; exact hrw))
        have HLK := Lib.hid (show has (nameMap 0 l) (keyL s) = true from has_true_of_atKey hat)
        obtain ⟨bb, hbb⟩ : ∃ bb, nameB s = bb := ⟨_, rfl⟩
        have HBB := Lib.hid hbb
        have hml := hrg.left_eq
        have HSZ := Lib.hid hsz
        clear hkey hlk hv hat hs1 hg1 hsz hbb hBr hrg
        go_wp2_with fail
        refine (implIsName s _ HSZ.out).mono ?_
        rw [HBB.out]
        rintro e w2 ⟨rfl, hb2⟩
        have HB3 := Lib.hid (HB2.out.trans (hb2.mono HB2.out.size))
        have hrg2 := hrg1.kept (grown_of_below hb2 none) (by simp) (by simp)
        clear hb2 HB2 hen hrg1
        cases bb with
        | true =>
          have HN2 := Lib.hid (hN.out.next HBB.out)
          go_wp2
          go_roundw
          case rel => exact ⟨_, cnt', hrg2, HN2, HB3⟩
          case measure => rw [hrg2.left_eq, hml]; exact hlt
        | false =>
          have E := Lib.hid (ptsB_no HLK.out HBB.out)
          go_wp2
          go_ret
          exact ⟨ret_bool E.out.symm, HB3.out⟩
end Go.Proofs.YtooeikimoheecaaGreat
namespace Go.Proofs.YtooeikimoheecaaGreat
/-- Windows in time, one behind the other, at least a minute between two. -/
def WOk (l : List WindowD) : Prop := (∀ x ∈ l, 0 ≤ x.fr ∧ x.fr ≤ x.tt ∧ x.tt ≤ 2880) ∧ l.Pairwise (fun x y => x.tt + 1 < y.fr)
theorem WOk.nil : WOk [] := ⟨fun x hx => by simp at hx, List.Pairwise.nil⟩
theorem WOk.of {l : List WindowD} (h : winB l = true) : WOk l := by
  have F := winB_true h
  refine ⟨fun x hx => ?_, ?_⟩
  · obtain ⟨i, hi, e⟩ := List.getElem_of_mem hx
    exact F.time hi (by rw [List.getElem?_eq_getElem hi, e])
  · rw [List.pairwise_iff_getElem]
    intro i j hi hj hij
    induction j with
    | zero => omega
    | succ j ih =>
      have g := F.gap hj (List.getElem?_eq_getElem hj) (List.getElem?_eq_getElem (by omega : j < l.length))
      by_cases e : i = j
      · subst e; exact g
      · have := ih (by omega) (by omega)
        obtain ⟨_, t1, _⟩ := F.time (by omega : j < l.length) (List.getElem?_eq_getElem (by omega : j < l.length))
        omega
theorem WOk.to {l : List WindowD} (h : WOk l) : winB l = true := by
  apply winB_mk
  intro j hj
  have hm := h.1 l[j] (List.getElem_mem hj)
  cases j with
  | zero => exact wokB_zero rfl (List.getElem?_eq_getElem hj) hm
  | succ j =>
    rw [wokB_succ rfl (List.getElem?_eq_getElem hj) (List.getElem?_eq_getElem (by omega : j < l.length)) hm]
    exact decide_eq_true ((List.pairwise_iff_getElem.1 h.2) j (j + 1) (by omega) hj (by omega))
theorem WOk.tail {x : WindowD} {l : List WindowD} (h : WOk (x :: l)) : WOk l := ⟨fun y hy => h.1 y (List.mem_cons_of_mem _ hy), (List.pairwise_cons.1 h.2).2⟩
theorem WOk.head {x : WindowD} {l : List WindowD} (h : WOk (x :: l)) : 0 ≤ x.fr ∧ x.fr ≤ x.tt ∧ x.tt ≤ 2880 := h.1 x List.mem_cons_self
theorem WOk.behind {x y : WindowD} {l : List WindowD} (h : WOk (x :: l)) (hy : y ∈ l) : x.tt + 1 < y.fr := (List.pairwise_cons.1 h.2).1 y hy
/-- The minute lies in one of the windows. -/
def Has (l : List WindowD) (m : Int) : Prop := ∃ x ∈ l, x.fr ≤ m ∧ m ≤ x.tt
theorem has_iff (l : List WindowD) (m : Int) : hasB l m = true ↔ Has l m := by
  unfold hasB Has atB inB
  simp [List.any_eq_true]
theorem Has.nil (m : Int) : ¬ Has [] m := fun ⟨x, hx, _⟩ => by simp at hx
theorem has_cons (x : WindowD) (l : List WindowD) (m : Int) : Has (x :: l) m ↔ (x.fr ≤ m ∧ m ≤ x.tt) ∨ Has l m := by
  unfold Has; simp
theorem has_append (a b : List WindowD) (m : Int) : Has (a ++ b) m ↔ Has a m ∨ Has b m := by
  unfold Has; simp [or_and_right, exists_or]
theorem has_one (x : WindowD) (m : Int) : Has [x] m ↔ x.fr ≤ m ∧ m ≤ x.tt := by unfold Has; simp
theorem Has.time {l : List WindowD} {m : Int} (hl : WOk l) (h : Has l m) : 0 ≤ m ∧ m ≤ 2880 := by
  obtain ⟨x, hx, h1, h2⟩ := h
  obtain ⟨t0, t1, t2⟩ := hl.1 x hx
  omega
theorem Has.late {x : WindowD} {l : List WindowD} (h : WOk (x :: l)) {m : Int} (hm : Has l m) : x.tt + 1 < m := by
  obtain ⟨y, hy, h1, _⟩ := hm
  have := h.behind hy
  omega
/-- Valid lists with the same minutes are the same. -/
theorem WOk.ext {a b : List WindowD} (ha : WOk a) (hb : WOk b) (h : ∀ m, Has a m ↔ Has b m) : a = b := by
  induction a generalizing b with
  | nil =>
    cases b with
    | nil => rfl
    | cons y b =>
      have := hb.head
      exact absurd ((h y.fr).2 ((has_cons _ _ _).2 (.inl ⟨by omega, by omega⟩))) (Has.nil _)
  | cons x a ih =>
    have hx := ha.head
    cases b with
    | nil => exact absurd ((h x.fr).1 ((has_cons _ _ _).2 (.inl ⟨by omega, by omega⟩))) (Has.nil _)
    | cons y b =>
      have hy := hb.head
      have e1 : x.fr = y.fr := by
        have p := (has_cons _ _ _).1 ((h x.fr).1 ((has_cons _ _ _).2 (.inl ⟨by omega, by omega⟩)))
        have q := (has_cons _ _ _).1 ((h y.fr).2 ((has_cons _ _ _).2 (.inl ⟨by omega, by omega⟩)))
        have p' : y.fr ≤ x.fr := by
          rcases p with p | p
          · exact p.1
          · have := Has.late hb p; omega
        have q' : x.fr ≤ y.fr := by
          rcases q with q | q
          · exact q.1
          · have := Has.late ha q; omega
        omega
      have e2 : x.tt = y.tt := by
        rcases Int.lt_trichotomy x.tt y.tt with hlt | he | hlt
        · have q := (has_cons _ _ _).1 ((h (x.tt + 1)).2 ((has_cons _ _ _).2 (.inl ⟨by omega, by omega⟩)))
          rcases q with q | q
          · omega
          · have := Has.late ha q; omega
        · exact he
        · have q := (has_cons _ _ _).1 ((h (y.tt + 1)).1 ((has_cons _ _ _).2 (.inl ⟨by omega, by omega⟩)))
          rcases q with q | q
          · omega
          · have := Has.late hb q; omega
      have e : x = y := by cases x; cases y; simp_all
      subst e
      rw [ih ha.tail hb.tail fun m => ⟨fun hm => ?_, fun hm => ?_⟩]
      · have hl := Has.late ha hm
        rcases (has_cons _ _ _).1 ((h m).1 ((has_cons _ _ _).2 (.inr hm))) with p | p
        · omega
        · exact p
      · have hl := Has.late hb hm
        rcases (has_cons _ _ _).1 ((h m).2 ((has_cons _ _ _).2 (.inr hm))) with p | p
        · omega
        · exact p
/-- A window behind all others. -/
theorem WOk.snoc {l : List WindowD} {x : WindowD} (h : WOk l) (hx : 0 ≤ x.fr ∧ x.fr ≤ x.tt ∧ x.tt ≤ 2880) (hl : ∀ y ∈ l, y.tt + 1 < x.fr) : WOk (l ++ [x]) := by
  refine ⟨fun y hy => ?_, ?_⟩
  · rcases List.mem_append.1 hy with hy | hy
    · exact h.1 y hy
    · rw [List.mem_singleton.1 hy]; exact hx
  · rw [List.pairwise_append]
    refine ⟨h.2, List.pairwise_singleton _ _, fun a ha b hb => ?_⟩
    rw [List.mem_singleton.1 hb]; exact hl a ha
theorem WOk.init {l : List WindowD} {x : WindowD} (h : WOk (l ++ [x])) : WOk l := ⟨fun y hy => h.1 y (List.mem_append_left _ hy), (List.pairwise_append.1 h.2).1⟩
theorem WOk.last {l : List WindowD} {x : WindowD} (h : WOk (l ++ [x])) : 0 ≤ x.fr ∧ x.fr ≤ x.tt ∧ x.tt ≤ 2880 := h.1 x (by simp)
theorem WOk.ahead {l : List WindowD} {x y : WindowD} (h : WOk (l ++ [x])) (hy : y ∈ l) : y.tt + 1 < x.fr := (List.pairwise_append.1 h.2).2.2 y hy x (by simp)
theorem WOk.ends {l : List WindowD} {x y : WindowD} (h : WOk (l ++ [x])) (hy : y ∈ l ++ [x]) : y.tt ≤ x.tt := by
  rcases List.mem_append.1 hy with hy | hy
  · have := h.ahead hy; have := h.last; omega
  · rw [List.mem_singleton.1 hy]; omega
/-- The windows of marked minutes, as the model builds them: minute k comes to a list. -/
def markStep (acc : List WindowD) (k : Int) : List WindowD :=
  match acc.getLast? with
  | some y => if y.tt = k - 1 then acc.dropLast ++ [⟨y.fr, k⟩] else acc ++ [⟨k, k⟩]
  | none => [⟨k, k⟩]
def ofMarks (f : Nat → Bool) : Nat → List WindowD
  | 0 => []
  | k + 1 => if f k = true then markStep (ofMarks f k) k else ofMarks f k
theorem ofMarks_no {f : Nat → Bool} {k : Nat} (h : f k = false) : ofMarks f (k + 1) = ofMarks f k := by simp [ofMarks, h]
theorem ofMarks_yes {f : Nat → Bool} {k : Nat} (h : f k = true) : ofMarks f (k + 1) = markStep (ofMarks f k) k := by simp [ofMarks, h]
theorem markStep_nil (k : Int) : markStep [] k = [⟨k, k⟩] := rfl
theorem markStep_join {acc : List WindowD} {y : WindowD} {k : Int} (h : y.tt = k - 1) : markStep (acc ++ [y]) k = acc ++ [⟨y.fr, k⟩] := by simp [markStep, h]
theorem markStep_apart {acc : List WindowD} {y : WindowD} {k : Int} (h : y.tt ≠ k - 1) : markStep (acc ++ [y]) k = acc ++ [y] ++ [⟨k, k⟩] := by simp [markStep, h]
theorem snoc_or (l : List WindowD) : l = [] ∨ ∃ a x, l = a ++ [x] := by
  rcases List.eq_nil_or_concat l with h | ⟨a, x, h⟩
  · exact .inl h
  · exact .inr ⟨a, x, by simpa using h⟩
theorem ofMarks_len (f : Nat → Bool) : ∀ k, (ofMarks f k).length ≤ k := by
  intro k
  induction k with
  | zero => simp [ofMarks]
  | succ k ih =>
    cases hf : f k with
    | false => rw [ofMarks_no hf]; omega
    | true =>
      rw [ofMarks_yes hf]
      rcases snoc_or (ofMarks f k) with e | ⟨a, y, e⟩
      · rw [e, markStep_nil]; simp
      · rw [e] at ih ⊢
        by_cases hy : y.tt = k - 1
        · rw [markStep_join hy]; simp at ih ⊢; omega
        · rw [markStep_apart hy]; simp at ih ⊢; omega
theorem ofMarks_spec (f : Nat → Bool) : ∀ k, k ≤ 2881 → WOk (ofMarks f k) ∧ ∀ m : Int, Has (ofMarks f k) m ↔ ∃ j : Nat, m = j ∧ j < k ∧ f j = true := by
  intro k
  induction k with
  | zero => exact fun _ => ⟨WOk.nil, fun m => ⟨fun h => absurd h (Has.nil _), fun ⟨j, _, hj, _⟩ => by omega⟩⟩
  | succ k ih =>
    intro hk
    obtain ⟨hw, hm⟩ := ih (by omega)
    cases hf : f k with
    | false =>
      rw [ofMarks_no hf]
      refine ⟨hw, fun m => ⟨fun h => ?_, fun ⟨j, e, hj, hj2⟩ => ?_⟩⟩
      · obtain ⟨j, e, hj, hj2⟩ := (hm m).1 h
        exact ⟨j, e, by omega, hj2⟩
      · by_cases e2 : j = k
        · subst e2; rw [hf] at hj2; cases hj2
        · exact (hm m).2 ⟨j, e, by omega, hj2⟩
    | true =>
      rw [ofMarks_yes hf]
      have split : ∀ m : Int, (∃ j : Nat, m = j ∧ j < k + 1 ∧ f j = true) ↔ m = k ∨ Has (ofMarks f k) m := by
        intro m
        rw [hm m]
        constructor
        · rintro ⟨j, e, hj, hj2⟩
          by_cases e2 : j = k
          · left; omega
          · exact .inr ⟨j, e, by omega, hj2⟩
        · rintro (e | ⟨j, e, hj, hj2⟩)
          · exact ⟨k, e, by omega, hf⟩
          · exact ⟨j, e, by omega, hj2⟩
      rcases snoc_or (ofMarks f k) with e | ⟨a, y, e⟩
      · rw [e] at split hw ⊢
        rw [markStep_nil]
        refine ⟨WOk.snoc WOk.nil ⟨by simp, by simp, by simp; omega⟩ (by simp), fun m => ?_⟩
        rw [split m, has_one]
        constructor
        · rintro ⟨h1, h2⟩; simp at h1 h2; left; omega
        · rintro (h | h)
          · simp; omega
          · exact absurd h (Has.nil _)
      · have hyk : y.tt < k := by
          have hy : Has (ofMarks f k) y.tt := by rw [e, has_append, has_one]; rw [e] at hw; have := hw.last; exact .inr ⟨by omega, by omega⟩
          obtain ⟨j, e3, hj, _⟩ := (hm _).1 hy
          omega
        rw [e] at split hw ⊢
        have hl := hw.last
        by_cases hy : y.tt = k - 1
        · rw [markStep_join hy]
          refine ⟨hw.init.snoc ⟨hl.1, by simp; omega, by simp; omega⟩ (fun z hz => hw.ahead hz), fun m => ?_⟩
          rw [split m, has_append, has_append, has_one, has_one]
          simp only
          constructor
          · rintro (h | h)
            · exact .inr (.inl h)
            · by_cases e4 : m = k
              · exact .inl e4
              · exact .inr (.inr ⟨h.1, by omega⟩)
          · rintro (h | h | h)
            · exact .inr ⟨by omega, by omega⟩
            · exact .inl h
            · exact .inr ⟨h.1, by omega⟩
        · rw [markStep_apart hy]
          refine ⟨hw.snoc ⟨by simp, by simp, by simp; omega⟩ (fun z hz => by have := hw.ends hz; simp; omega), fun m => ?_⟩
          rw [split m, has_append (a ++ [y]), has_one]
          simp only
          constructor
          · rintro (h | h)
            · exact .inr h
            · left; omega
          · rintro (h | h)
            · right; omega
            · exact .inl h
/-- Parts in the order of their first minutes, merged one by one, as the program does. -/
def mergeStep (acc : List WindowD) (x : WindowD) : List WindowD :=
  match acc.getLast? with
  | some y => if x.fr ≤ IntKind.i64.wrap (y.tt + 1) then acc.dropLast ++ [⟨y.fr, max y.tt x.tt⟩] else acc ++ [x]
  | none => [x]
def mergeF (xs : List WindowD) : List WindowD := xs.foldl mergeStep []
theorem mergeF_snoc (pre : List WindowD) (x : WindowD) : mergeF (pre ++ [x]) = mergeStep (mergeF pre) x := by simp [mergeF]
theorem mergeStep_nil (x : WindowD) : mergeStep [] x = [x] := rfl
theorem mergeStep_join {acc : List WindowD} {x y : WindowD} (h : x.fr ≤ IntKind.i64.wrap (y.tt + 1)) : mergeStep (acc ++ [y]) x = acc ++ [⟨y.fr, max y.tt x.tt⟩] := by simp [mergeStep, h]
theorem mergeStep_apart {acc : List WindowD} {x y : WindowD} (h : ¬ x.fr ≤ IntKind.i64.wrap (y.tt + 1)) : mergeStep (acc ++ [y]) x = acc ++ [y] ++ [x] := by simp [mergeStep, h]
theorem mergeStep_len (acc : List WindowD) (x : WindowD) : (mergeStep acc x).length ≤ acc.length + 1 := by
  rcases snoc_or acc with e | ⟨a, y, e⟩
  · rw [e, mergeStep_nil]; simp
  · subst e
    by_cases h : x.fr ≤ IntKind.i64.wrap (y.tt + 1)
    · rw [mergeStep_join h]; simp
    · rw [mergeStep_apart h]; simp
theorem snoc_ind {P : List WindowD → Prop} (h0 : P []) (h1 : ∀ xs x, P xs → P (xs ++ [x])) (l : List WindowD) : P l := by
  generalize hn : l.length = n
  induction n generalizing l with
  | zero => rw [List.eq_nil_of_length_eq_zero hn]; exact h0
  | succ n ih =>
    rcases snoc_or l with e | ⟨a, x, e⟩
    · rw [e] at hn; simp at hn
    · subst e
      exact h1 a x (ih a (by simp at hn; omega))
theorem mergeF_len (xs : List WindowD) : (mergeF xs).length ≤ xs.length := by
  refine snoc_ind (P := fun xs => (mergeF xs).length ≤ xs.length) (by simp [mergeF]) (fun xs x ih => ?_) xs
  rw [mergeF_snoc]
  have := mergeStep_len (mergeF xs) x
  simp; omega
theorem wrap_small {n : Int} (h0 : 0 ≤ n) (h1 : n ≤ 100000) : IntKind.i64.wrap n = n := by
  simp [IntKind.wrap, IntKind.bits, IntKind.signed]; omega
theorem mergeF_spec (xs : List WindowD) : xs.Pairwise (fun x y => x.fr ≤ y.fr) → (∀ x ∈ xs, 0 ≤ x.fr ∧ x.fr ≤ x.tt ∧ x.tt ≤ 2880) →
    WOk (mergeF xs) ∧ (∀ m, Has (mergeF xs) m ↔ Has xs m) ∧ ∀ z ∈ mergeF xs, ∃ y ∈ xs, z.fr = y.fr := by
  refine snoc_ind (P := fun xs => xs.Pairwise (fun x y => x.fr ≤ y.fr) → (∀ x ∈ xs, 0 ≤ x.fr ∧ x.fr ≤ x.tt ∧ x.tt ≤ 2880) → WOk (mergeF xs) ∧ (∀ m, Has (mergeF xs) m ↔ Has xs m) ∧ ∀ z ∈ mergeF xs, ∃ y ∈ xs, z.fr = y.fr) ?_ ?_ xs
  · intro _ _
    exact ⟨WOk.nil, fun m => Iff.rfl, fun z hz => by simp [mergeF] at hz⟩
  · intro xs x ih hs ht
    obtain ⟨hw, hm, hf⟩ := ih (List.pairwise_append.1 hs).1 (fun z hz => ht z (List.mem_append_left _ hz))
    have hx := ht x (by simp)
    have hlow : ∀ z ∈ xs, z.fr ≤ x.fr := fun z hz => (List.pairwise_append.1 hs).2.2 z hz x (by simp)
    rw [mergeF_snoc]
    rcases snoc_or (mergeF xs) with e | ⟨a, y, e⟩
    · rw [e, mergeStep_nil]
      rw [e] at hm
      refine ⟨WOk.snoc WOk.nil hx (by simp), fun m => ?_, fun z hz => ⟨x, by simp, by rw [List.mem_singleton.1 hz]⟩⟩
      rw [has_append, ← hm m]
      constructor
      · exact fun h => .inr h
      · rintro (h | h)
        · exact absurd h (Has.nil _)
        · exact h
    · rw [e] at hw hm hf ⊢
      have hl := hw.last
      obtain ⟨y', hy', ey⟩ := hf y (by simp)
      have hyx : y.fr ≤ x.fr := by rw [ey]; exact hlow y' hy'
      have ew := wrap_small (n := y.tt + 1) (by omega) (by omega)
      by_cases h : x.fr ≤ IntKind.i64.wrap (y.tt + 1)
      · rw [mergeStep_join h]
        rw [ew] at h
        refine ⟨hw.init.snoc ⟨hl.1, by simp only; omega, by simp only; omega⟩ (fun z hz => hw.ahead hz), fun m => ?_, fun z hz => ?_⟩
        · rw [has_append, has_append xs, ← hm m, has_append, has_one, has_one, has_one]
          simp only
          constructor
          · rintro (h1 | ⟨h1, h2⟩)
            · exact .inl (.inl h1)
            · by_cases h3 : m ≤ y.tt
              · exact .inl (.inr ⟨h1, h3⟩)
              · exact .inr ⟨by omega, by omega⟩
          · rintro ((h1 | ⟨h1, h2⟩) | ⟨h1, h2⟩)
            · exact .inl h1
            · exact .inr ⟨h1, by omega⟩
            · exact .inr ⟨by omega, by omega⟩
        · rcases List.mem_append.1 hz with hz | hz
          · obtain ⟨q, hq, eq⟩ := hf z (List.mem_append_left _ hz)
            exact ⟨q, List.mem_append_left _ hq, eq⟩
          · rw [List.mem_singleton.1 hz]
            exact ⟨y', List.mem_append_left _ hy', ey⟩
      · rw [mergeStep_apart h]
        rw [ew] at h
        refine ⟨hw.snoc hx (fun z hz => by have := hw.ends hz; omega), fun m => ?_, fun z hz => ?_⟩
        · rw [has_append (a ++ [y]), has_append xs, hm m]
        · rcases List.mem_append.1 hz with hz | hz
          · obtain ⟨q, hq, eq⟩ := hf z hz
            exact ⟨q, List.mem_append_left _ hq, eq⟩
          · rw [List.mem_singleton.1 hz]
            exact ⟨x, by simp, rfl⟩
/-- What the program merges is what the model marks. -/
theorem merge_eq_marks {xs : List WindowD} {f : Nat → Bool} (hs : xs.Pairwise (fun x y => x.fr ≤ y.fr)) (ht : ∀ x ∈ xs, 0 ≤ x.fr ∧ x.fr ≤ x.tt ∧ x.tt ≤ 2880)
    (hf : ∀ j : Nat, j < 2881 → (f j = true ↔ Has xs j)) : mergeF xs = ofMarks f 2881 := by
  obtain ⟨h1, h2, _⟩ := mergeF_spec xs hs ht
  obtain ⟨h3, h4⟩ := ofMarks_spec f 2881 (by omega)
  refine WOk.ext h1 h3 fun m => ?_
  rw [h2, h4]
  constructor
  · intro h
    obtain ⟨x, hx, hx1, hx2⟩ := h
    have := ht x hx
    refine ⟨m.toNat, by omega, by omega, (hf _ (by omega)).2 ⟨x, hx, by omega, by omega⟩⟩
  · rintro ⟨j, e, hj, hj2⟩
    rw [e]
    exact (hf j hj).1 hj2
/-- What two windows have in common. -/
def meet (x y : WindowD) : List WindowD := if max x.fr y.fr ≤ min x.tt y.tt then [⟨max x.fr y.fr, min x.tt y.tt⟩] else []
end Go.Proofs.YtooeikimoheecaaGreat
