
/- impl.RoutePoints and impl.RouteOk: contracts. -/
import Derived.Test.YtgjappjlnkdpnaaRouteImpl
namespace Go.Proofs.Ytgjappjlnkdpnaa
open Go.RowKit
set_option maxRecDepth 100000

theorem rteL_bad {d : ChartD} {fr : Int} {l : List Int} (h : chartB d = false) : rteL d fr l = [] := by unfold rteL; rw [routeB_bad h]; rfl
theorem rteL_off {d : ChartD} {fr : Int} {l : List Int} (h : inB fr 0 ((d.points.length : Int) - 1) = false) : rteL d fr l = [] := by unfold rteL; rw [routeB_off h]; rfl
theorem rteL_ok {d : ChartD} {fr : Int} {l : List Int} (h : chartB d = true) (h' : inB fr 0 ((d.points.length : Int) - 1) = true) : rteL d fr l = (ptsO d fr l).getD [] := by
  unfold rteL; rw [routeB_ok h h']
  cases ptsO d fr l <;> rfl
theorem rteL_pos (d : ChartD) (fr : Int) (l : List Int) : decide (0 < (rteL d fr l).length) = routeB d fr l := by
  unfold rteL
  cases h : routeB d fr l with
  | false => rfl
  | true =>
    unfold routeB at h
    rw [Bool.and_eq_true] at h
    obtain ⟨o, ho⟩ := Option.isSome_iff_exists.1 h.2
    rw [ho]
    have := ptsO_len l ho
    simp only [if_true, Option.getD_some, this]
    exact decide_eq_true (by omega)

set_option maxHeartbeats 8000000 in
theorem implRoutePoints (v0 v1 : Value) (d : ChartD) (fr : Int) (v : Value) (l : List Int) (w : World) (h : RdChart w v0 v1 d) (hl : SlInt w v l) (hw : ∀ x ∈ d.points, PointD.wf x) :
    Calls Try.prog 17 #[.agg #[v0, v1], .int .i64 fr, v] w (NewInt (rteL d fr l) w) := by
  have HR := Lib.hid h
  have HWF := Lib.hid hw
  obtain ⟨h0, h1⟩ := h
  have hl0 := h0.1
  obtain ⟨A0, c0, rfl⟩ := h0.at
  obtain ⟨A1, c1, rfl⟩ := h1.at
  have HL := Lib.hid hl
  have hll := hl.1
  obtain ⟨A2, c2, rfl⟩ := hl.at
  have B := Lib.hid (Joins.below_alloc1 w (.cells #[.slice A0 d.points.length c0, .slice A1 d.segs.length c1] 26))
  have BB := Lib.hid (Blk.new w #[.slice A0 d.points.length c0, .slice A1 d.segs.length c1] 26)
  obtain ⟨i0, hin, hz0, hzs, hz2⟩ := info1_int
  have HI := Lib.hid hin
  clear h0 h1 hw hl hin
  cases hok : chartB d with
  | false =>
    have HOK := Lib.hid hok
    have E := Lib.hid (rteL_bad (fr := fr) (l := l) hok)
    rw [E.out]
    clear hok E
    go_enter Try.func17, Try.ntmps17
    go_wp2_with fail
    refine (implChartOk _ _ d _ (HR.out.below B.out) HWF.out).mono ?_
    rw [HOK.out]
    rintro e w1 ⟨rfl, hb1⟩
    have B1 := Lib.hid (B.out.trans (hb1.mono B.out.size))
    clear hb1
    go_wp2
    go_ret
    exact ⟨_, rfl, (GathO.empty (cs := intCells) (t := 3) (k := 1) B1.out).1, B1.out⟩
  | true =>
    have HOK := Lib.hid hok
    cases hinp : inB fr 0 ((d.points.length : Int) - 1) with
    | false =>
      have HIN := Lib.hid hinp
      have E := Lib.hid (rteL_off (l := l) hinp)
      rw [E.out]
      clear hok hinp E
      go_enter Try.func17, Try.ntmps17
      go_wp2_with fail
      refine (implChartOk _ _ d _ (HR.out.below B.out) HWF.out).mono ?_
      rw [HOK.out]
      rintro e w1 ⟨rfl, hb1⟩
      have B1 := Lib.hid (B.out.trans (hb1.mono B.out.size))
      have z0 := (BB.out.below hb1).cell 0
      simp at z0
      clear hb1
      go_wp2_with fail
      refine (isIndex_any _ _ _).mono ?_
      rw [HIN.out]
      rintro e w2 ⟨rfl, rfl⟩
      go_wp2
      go_ret
      exact ⟨_, rfl, (GathO.empty (cs := intCells) (t := 3) (k := 1) B1.out).1, B1.out⟩
    | true =>
      have HIN := Lib.hid hinp
      have E := Lib.hid (rteL_ok (l := l) hok hinp)
      rw [E.out]
      clear hok hinp E
      go_enter Try.func17, Try.ntmps17
      go_wp2_with fail
      refine (implChartOk _ _ d _ (HR.out.below B.out) HWF.out).mono ?_
      rw [HOK.out]
      rintro e w1 ⟨rfl, hb1⟩
      have B1 := Lib.hid (B.out.trans (hb1.mono B.out.size))
      have BB1 := Lib.hid (BB.out.below hb1)
      have z0 := BB1.out.cell 0
      simp at z0
      have hs1 : w.heap.size + 1 ≤ w1.heap.size := by have := hb1.size; simp at this; omega
      have G0 := Lib.hid (GathO.one (cs := intCells) (t := 3) (k := 1) (x := fr) (Below.refl w1.heap.size w1) rfl)
      clear hb1
      go_wp2_with fail
      refine (isIndex_any _ _ _).mono ?_
      rw [HIN.out]
      rintro e w2 ⟨rfl, rfl⟩
      go_wp2
      clear z0
      go_loopw [7, 26] (fun q i wr => ∃ (k : Nat) (out : List Int), k ≤ l.length ∧ Hid (out.length = k + 1) ∧ i = .int .i64 k ∧ Hid (ptsO d fr (l.take k) = some out) ∧ Hid (GathO 1 intCells 3 w1 q out wr)) (fun _ i _ => l.length - (intOf i).toNat)
      case atStart => exact ⟨0, [fr], Nat.zero_le _, Lib.hid rfl, rfl, Lib.hid rfl, G0⟩
      case round =>
        clear G0
        obtain ⟨k, out, hk, hol, rfl, hP, hG⟩ := hrel
        have hgs := hG.out.size
        have hbw : Hid (Below w.heap.size w wr) := Lib.hid (B1.out.trans (hG.out.2.mono B1.out.size))
        have z0 := (BB1.out.below hG.out.2).cell 0
        have z1 := (BB1.out.below hG.out.2).cell 1
        simp at z0 z1
        by_cases hlt : k < l.length
        rotate_left
        · obtain rfl : k = l.length := by omega
          have E := Lib.hid (show ptsO d fr l = some out by have := hP.out; rw [List.take_length] at this; exact this)
          have OW := Lib.hid (own_lo hG.out.1 (base' := w.heap.size) (by omega))
          obtain ⟨Q, cq, rfl⟩ := hG.out.form
          go_wp2
          refine bodyPost_ret (v := .slice Q out.length cq) (by simp [results, Try.results17, go_sem, *]) rfl ⟨_, rfl, by rw [E.out]; exact OW.out, hbw.out⟩
        · obtain ⟨i, hi⟩ : ∃ i, l[k]? = some i := ⟨_, List.getElem?_eq_getElem hlt⟩
          rcases HL.out.2 with ⟨he, _⟩ | ⟨g, o, c, e, hpos, hcap, hc⟩
          · rw [he] at hlt; simp at hlt
          · injection e with hA _ hcp
            subst hA hcp
            have q0 := SlInt.cells hc k i hi
            have hg : g < w.heap.size := World.block_lt_of_cell? w ⟨g, o + k, none⟩ q0
            have y0 := (hbw.out.cell (p := ⟨g, o + k, none⟩) hg).trans q0
            have HX := Lib.hid hi
            have hob : out.length ≤ 1000000001 := by have := hol.out; omega
            have hsl2 := Lib.hid (own_sl intLen hG.out.1 (by have := hol.out; omega))
            have hne : out ≠ [] := fun e => by have := hol.out; rw [e] at this; simp at this
            clear q0 hi hc
            obtain ⟨t, ht⟩ : ∃ t, nextI d out i = t := ⟨_, rfl⟩
            have HT := Lib.hid ht
            have P1 := Lib.hid (show ptsO d fr (l.take (k + 1)) = if t < 0 then none else some (out ++ [t]) by rw [ptsO_next HX.out, hP.out, stepP_nextI, ht])
            obtain ⟨Q, cq, rfl⟩ := hG.out.form
            clear ht
            go_wp2_with fail
            refine (implNext _ _ d _ out i _ (HR.out.below hbw.out) hsl2.out hne).mono ?_
            rw [HT.out]
            rintro e w3 ⟨rfl, hb3⟩
            have hG3 := Lib.hid (hG.out.below hb3)
            have hbw3 := Lib.hid (hbw.out.trans (hb3.mono hbw.out.size))
            clear hb3 z0 z1 y0 hsl2 hG
            by_cases hneg : t < 0
            · have E := Lib.hid (ptsO_cut (k + 1) (show ptsO d fr (l.take (k + 1)) = none by rw [P1.out, if_pos hneg]))
              go_wp2
              refine bodyPost_ret (v := .slice none 0 0) (by simp [results, Try.results17, go_sem, *]) rfl ⟨_, rfl, by rw [E.out]; exact (GathO.empty (cs := intCells) (t := 3) (k := 1) hbw3.out).1, hbw3.out⟩
            · have P2 := Lib.hid (show ptsO d fr (l.take (k + 1)) = some (out ++ [t]) by rw [P1.out, if_neg hneg])
              have hnb : decide (t < 0) = false := decide_eq_false hneg
              have GW := Lib.hid (hG3.out.below (Joins.below_alloc1 w3 (.cells #[.int .i64 t] 3)))
              have HN := Lib.hid (World.news_of_block (heap_alloc_new w3 (.cells #[.int .i64 t] 3)))
              have hs3 := hG3.out.size
              have HN' := Lib.hid (show ∀ j u, (intCells t)[j]? = some u → (w3.alloc (.cells #[.int .i64 t] 3)).cell? ((⟨w3.heap.size, 0, none⟩ : Addr).add j) = some u from fun j u hu => HN.out j u (by simpa [intCells] using hu))
              go_wp2_with (at_builtin; refine wpList_append_lies _ rfl _ _ _ rfl w1.heap.size 3 i0 _ 1 8 Try.underlying31 HI.out hz0 (by assumption) hz2 rfl (by omega) (.slice Q out.length cq) out.length (out.flatMap intCells) rfl GW.out.1 ⟨w3.heap.size, 0, none⟩ 1 1 (intCells t) (by first | rfl | simp) rfl HN'.out (int_one _) (by omega) (by unfold maxLen; omega) (by omega) (by first | omega | (simp; done) | (simp; omega)) _ rfl ?_; intro g4 cap4 w4 hown4 hgrow4 hor4 hlt4; have GX := Lib.hid (GW.out.next hown4 hgrow4); clear hown4 hgrow4 hor4 hlt4)
              go_roundw
              case rel => exact ⟨k + 1, out ++ [t], by omega, Lib.hid (by have := hol.out; simp; omega), by go_num, P2, GX⟩
              case measure => simp [intOf]; omega

set_option maxHeartbeats 2000000 in
theorem implRouteOk (v0 v1 : Value) (d : ChartD) (fr : Int) (v : Value) (l : List Int) (w : World) (h : RdChart w v0 v1 d) (hl : SlInt w v l) (hw : ∀ x ∈ d.points, PointD.wf x) :
    Calls Try.prog 18 #[.agg #[v0, v1], .int .i64 fr, v] w fun e w' => e = .returned (.bool (routeB d fr l)) ∧ Below w.heap.size w w' := by
  have HR := Lib.hid h
  have HWF := Lib.hid hw
  obtain ⟨h0, h1⟩ := h
  obtain ⟨A0, c0, rfl⟩ := h0.at
  obtain ⟨A1, c1, rfl⟩ := h1.at
  have HL := Lib.hid hl
  obtain ⟨A2, c2, rfl⟩ := hl.at
  have B := Lib.hid (Joins.below_alloc1 w (.cells #[.slice A0 d.points.length c0, .slice A1 d.segs.length c1] 26))
  have E := Lib.hid (rteL_pos d fr l)
  clear h0 h1 hw hl
  go_enter Try.func18, Try.ntmps18
  go_wp2_with fail
  refine (implRoutePoints _ _ d fr _ l _ (HR.out.below B.out) (HL.out.below B.out) HWF.out).mono ?_
  rintro e w1 ⟨u, rfl, ho, hb1⟩
  have B1 := Lib.hid (B.out.trans (hb1.mono B.out.size))
  obtain ⟨Q, q, rfl⟩ := own_form ho
  clear hb1 ho
  go_wp2
  go_ret
  exact ⟨ret_bool E.out, B1.out⟩
end Go.Proofs.Ytgjappjlnkdpnaa
