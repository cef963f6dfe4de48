
/- The exact law of RoutePoints holds for all arguments: impl.RoutePoints answers as its model, its answer owns its memory, and the arguments read as before. No condition. -/
import Derived.Test.YtcofldhjbidjjaaRows
import Derived.Test.YtcofldhjbidjjaaKit
import Derived.Test.YtcofldhjbidjjaaRoutePtsImpl
import Derived.Test.YtcofldhjbidjjaaChartC
import Derived.Test.YtcofldhjbidjjaaInts
import Derived.Deep.RegionHeld3
import Derived.Deep.DeepCutAuto
namespace Go.Proofs.Ytcofldhjbidjjaa.exactRoutePoints
open Go.ChangeShapes Go.WideShapes Go.ChangeAt Go.RowKit
set_option maxRecDepth 100000

theorem own : ownKnob Try.prog.godebug = none := by kernel_rfl
theorem laidOut : laidOutB Try.prog = true := by kernel_rfl

set_option maxHeartbeats 16000000 in
theorem law (A0_0 : Option Addr) (c0_0 : Nat) (A0_1 : Option Addr) (c0_1 : Nat) (d0 : ChartD) (a1 : Int) (A2 : Option Addr) (c2 : Nat) (l2 : List IntD) (w : World) (hin0 : ChartIn w A0_0 A0_1 c0_0 c0_1 d0) (_ : (Lit.int .i64 a1).wf = true) (hin2 : l2.length ≤ maxLen ∧ (l2.length ≤ 1000000000 → SlInt w (.slice A2 l2.length c2) l2) ∧ ∀ x ∈ l2, IntD.wf x) :
    Calls Try.prog 9 #[.agg #[.slice A0_0 d0.points.length c0_0, .slice A0_1 d0.segs.length c0_1], .int .i64 a1, .slice A2 l2.length c2] w fun e w' => e = .returned (.bool true) ∧ Below w.heap.size w w' := by
  have hsz0 : SizChart w A0_0 A0_1 c0_0 c0_1 d0 := hin0
  clear hin0
  have SZ0 := Lib.hid hsz0
  obtain ⟨m0_0, s0_0, f0_0, m0_1, s0_1, f0_1⟩ := hsz0
  have SS0_0 := Lib.hid s0_0
  have SS0_1 := Lib.hid s0_1
  have WF0_0 := Lib.hid f0_0
  clear s0_0 f0_0 s0_1 f0_1
  have bp0 := bulkChart_pos d0
  obtain ⟨m2, s2, f2⟩ := hin2
  unfold maxLen at m2
  have SS2 := Lib.hid s2
  have FF2 := Lib.hid f2
  clear s2 f2
  have HB0 : Below w.heap.size w (w.alloc (.cells #[.slice A0_0 d0.points.length c0_0, .slice A0_1 d0.segs.length c0_1] 46)) := by
    repeat (first | exact Below.refl _ _ | refine Below.alloc ?_ (by simp <;> omega) _)
  have BW := Lib.hid HB0
  clear HB0
  go_enter Try.func9, Try.ntmps9
  have B0 := Lib.hid (Below.refl ((w.alloc (.cells #[.slice A0_0 d0.points.length c0_0, .slice A0_1 d0.segs.length c0_1] 46))).heap.size (w.alloc (.cells #[.slice A0_0 d0.points.length c0_0, .slice A0_1 d0.segs.length c0_1] 46)))
  have hs0 : w.heap.size ≤ ((w.alloc (.cells #[.slice A0_0 d0.points.length c0_0, .slice A0_1 d0.segs.length c0_1] 46))).heap.size := BW.out.size
  have ABX0 := Lib.hid (show ((w.alloc (.cells #[.slice A0_0 d0.points.length c0_0, .slice A0_1 d0.segs.length c0_1] 46))).cell? ⟨w.heap.size, 0, none⟩ = some (.slice A0_0 d0.points.length c0_0) ∧ ((w.alloc (.cells #[.slice A0_0 d0.points.length c0_0, .slice A0_1 d0.segs.length c0_1] 46))).cell? ⟨w.heap.size, 1, none⟩ = some (.slice A0_1 d0.segs.length c0_1) from by
    have hBk : Blk (w.alloc (.cells #[.slice A0_0 d0.points.length c0_0, .slice A0_1 d0.segs.length c0_1] 46)) (w.heap.size) #[.slice A0_0 d0.points.length c0_0, .slice A0_1 d0.segs.length c0_1] 46 := (Blk.newAt (by first | rfl | simp) _ _).below (by repeat (first | exact Below.refl _ _ | refine Below.alloc ?_ (by simp <;> omega) _))
    exact ⟨hBk.cell 0, hBk.cell 1⟩)
  obtain ⟨r0, hr0⟩ : ∃ r0, (rteL d0 a1 l2) = r0 := ⟨_, rfl⟩
  have HR0 := Lib.hid hr0
  clear hr0
  -- if len(aRoute) > 1<<20 {
  by_cases big2 : 1048576 < l2.length
  · go_wp2
    go_ret
    exact ⟨rfl, BW.out.trans (B0.out.mono hs0)⟩
  have R2 := Lib.hid (SS2.out (by omega))
  clear SS2
  -- left := 1 << 20
  -- left = szChart(aC, left)
  have y0_0 : ((w.alloc (.cells #[.slice A0_0 d0.points.length c0_0, .slice A0_1 d0.segs.length c0_1] 46))).cell? ⟨w.heap.size, 0, none⟩ = some (.slice A0_0 d0.points.length c0_0) := cell_onV (ABX0.out.1) B0.out
  have y0_1 : ((w.alloc (.cells #[.slice A0_0 d0.points.length c0_0, .slice A0_1 d0.segs.length c0_1] 46))).cell? ⟨w.heap.size, 1, none⟩ = some (.slice A0_1 d0.segs.length c0_1) := cell_onV (ABX0.out.2) B0.out
  have hl1 : 0 ≤ (1048576 : Int) := by omega
  have hll1 : (1048576 : Int) ≤ 1048576 := by omega
  go_wp2_with fail
  refine (szChart_any _ _ _ _ d0 _ (SizChart.below SZ0.out (BW.out.trans (B0.out.mono hs0))) (1048576) hl1 hll1).mono ?_
  rintro e w1 ⟨rfl, hb1⟩
  have B1 := Lib.hid (B0.out.trans (hb1.mono B0.out.size))
  have hz1 : ((w.alloc (.cells #[.slice A0_0 d0.points.length c0_0, .slice A0_1 d0.segs.length c0_1] 46))).heap.size ≤ w1.heap.size := hb1.size
  clear hb1 y0_0 y0_1
  by_cases neg1 : (1048576 : Int) < bulkChart d0
  · rw [leftOf_no neg1]
    go_wp2
    go_ret
    exact ⟨rfl, BW.out.trans (B1.out.mono hs0)⟩
  rw [leftOf_yes neg1]
  have ne1 : ¬ (1048576 - bulkChart d0 : Int) < 0 := by omega
  have le0 := bulkChart_le d0
  have R0 : Hid (RdChart w (.slice A0_0 d0.points.length c0_0) (.slice A0_1 d0.segs.length c0_1) d0) := Lib.hid ⟨SS0_0.out (by omega), SS0_1.out (by omega)⟩
  -- w0 := spec.RoutePoints(toChart(aC), aFrom, toIntS(aRoute))
  have y0_0 : (w1).cell? ⟨w.heap.size, 0, none⟩ = some (.slice A0_0 d0.points.length c0_0) := cell_onV (ABX0.out.1) B1.out
  have y0_1 : (w1).cell? ⟨w.heap.size, 1, none⟩ = some (.slice A0_1 d0.segs.length c0_1) := cell_onV (ABX0.out.2) B1.out
  go_wp2_with fail
  refine (toChart_any _ _ d0 _ (R0.out.below (BW.out.trans (B1.out.mono hs0)))).mono ?_
  intro e w2 hN
  obtain ⟨u2_0, u2_1, rfl, o2_0, o2_1, ap2_0_1, hb2⟩ := hN
  have S2_0 := Lib.hid (OwnPoint.sl o2_0 (by omega))
  have RG2_0 := Lib.hid (own_range o2_0)
  have FR2_0 := Lib.hid (own_freeV o2_0)
  obtain ⟨D2_0, k2_0, rfl⟩ := own_form o2_0
  have S2_1 := Lib.hid (OwnSegment.sl o2_1 (by omega))
  have RG2_1 := Lib.hid (own_range o2_1)
  have FR2_1 := Lib.hid (own_freeV o2_1)
  obtain ⟨D2_1, k2_1, rfl⟩ := own_form o2_1
  have AP2_0_1 := Lib.hid ap2_0_1
  clear ap2_0_1
  have B2 := Lib.hid (B1.out.trans (hb2.mono B1.out.size))
  have hz2 : (w1).heap.size ≤ w2.heap.size := hb2.size
  clear hb2 o2_0 o2_1 y0_0 y0_1
  go_wp2_with fail
  refine (toIntS_any _ l2 _ (R2.out.below (BW.out.trans (B2.out.mono hs0)))).mono ?_
  rintro e w3 ⟨u3, rfl, o3, hb3⟩
  have S3 := Lib.hid (OwnInt.sl o3 (by omega))
  have RG3 := Lib.hid (own_range o3)
  have FR3 := Lib.hid (own_freeV o3)
  obtain ⟨D3, k3, rfl⟩ := own_form o3
  have B3 := Lib.hid (B2.out.trans (hb3.mono B2.out.size))
  have t2_0_3 := Lib.hid (S2_0.out.below hb3)
  have t2_1_3 := Lib.hid (S2_1.out.below hb3)
  have hz3 : (w2).heap.size ≤ w3.heap.size := hb3.size
  clear hb3 o3
  have hlen : r0.length ≤ 10000000 := by rw [← HR0.out]; exact (Nat.le_trans (rteL_len d0 a1 l2) (by omega))
  go_wp2_with fail
  refine (specRoutePoints _ _ d0 a1 _ l2 _ ⟨t2_0_3.out, t2_1_3.out⟩ S3.out WF0_0.out).mono ?_
  intro e w4 hN
  rw [HR0.out] at hN
  obtain ⟨u4, rfl, o4, hb4⟩ := hN
  have S4 := Lib.hid (OwnInt.sl o4 (by omega))
  have RG4 := Lib.hid (own_range o4)
  have FR4 := Lib.hid (own_freeV o4)
  obtain ⟨D4, k4, rfl⟩ := own_form o4
  have B4 := Lib.hid (B3.out.trans (hb4.mono B3.out.size))
  have t2_0_4 := Lib.hid (t2_0_3.out.below hb4)
  have t2_1_4 := Lib.hid (t2_1_3.out.below hb4)
  have t3_4 := Lib.hid (S3.out.below hb4)
  have hz4 : (w3).heap.size ≤ w4.heap.size := hb4.size
  clear o4
  clear hb4 
  -- x0 := toChart(aC)
  have y0_0 : (w4).cell? ⟨w.heap.size, 0, none⟩ = some (.slice A0_0 d0.points.length c0_0) := cell_onV (ABX0.out.1) B4.out
  have y0_1 : (w4).cell? ⟨w.heap.size, 1, none⟩ = some (.slice A0_1 d0.segs.length c0_1) := cell_onV (ABX0.out.2) B4.out
  go_wp2_with fail
  refine (toChart_any _ _ d0 _ (R0.out.below (BW.out.trans (B4.out.mono hs0)))).mono ?_
  intro e w5 hN
  obtain ⟨u5_0, u5_1, rfl, o5_0, o5_1, ap5_0_1, hb5⟩ := hN
  have S5_0 := Lib.hid (OwnPoint.sl o5_0 (by omega))
  have RG5_0 := Lib.hid (own_range o5_0)
  have FR5_0 := Lib.hid (own_freeV o5_0)
  obtain ⟨D5_0, k5_0, rfl⟩ := own_form o5_0
  have S5_1 := Lib.hid (OwnSegment.sl o5_1 (by omega))
  have RG5_1 := Lib.hid (own_range o5_1)
  have FR5_1 := Lib.hid (own_freeV o5_1)
  obtain ⟨D5_1, k5_1, rfl⟩ := own_form o5_1
  have AP5_0_1 := Lib.hid ap5_0_1
  clear ap5_0_1
  have B5 := Lib.hid (B4.out.trans (hb5.mono B4.out.size))
  have w0_5 := Lib.hid (S4.out.below hb5)
  have w0F_5 := Lib.hid (FR4.out.below hb5)
  have hz5 : (w4).heap.size ≤ w5.heap.size := hb5.size
  clear hb5 o5_0 o5_1 y0_0 y0_1
  have BX_x0 := Lib.hid (ChartBox.new 26 (show RdChart w5 (.slice D5_0 d0.points.length k5_0) (.slice D5_1 d0.segs.length k5_1) d0 from ⟨S5_0.out, S5_1.out⟩))
  have hb5b := Joins.below_alloc1 w5 (.cells #[.slice D5_0 d0.points.length k5_0, .slice D5_1 d0.segs.length k5_1] 26)
  have B5x := Lib.hid (B5.out.trans (hb5b.mono B5.out.size))
  have w0_5x := Lib.hid (w0_5.out.below hb5b)
  have w0F_5x := Lib.hid (w0F_5.out.below hb5b)
  have FX_x0_0 := Lib.hid (FR5_0.out.below hb5b)
  have FX_x0_1 := Lib.hid (FR5_1.out.below hb5b)
  clear hb5b
  have hsx5 : ((w5.alloc (.cells #[.slice D5_0 d0.points.length k5_0, .slice D5_1 d0.segs.length k5_1] 26))).heap.size = w5.heap.size + 1 := by simp
  -- x2 := toIntS(aRoute)
  go_wp2_with fail
  refine (toIntS_any _ l2 _ (R2.out.below (BW.out.trans (B5x.out.mono hs0)))).mono ?_
  rintro e w6 ⟨u6, rfl, o6, hb6⟩
  have S6 := Lib.hid (OwnInt.sl o6 (by omega))
  have RG6 := Lib.hid (own_range o6)
  have FR6 := Lib.hid (own_freeV o6)
  obtain ⟨D6, k6, rfl⟩ := own_form o6
  have B6 := Lib.hid (B5x.out.trans (hb6.mono B5x.out.size))
  have w0_6 := Lib.hid (w0_5x.out.below hb6)
  have w0F_6 := Lib.hid (w0F_5x.out.below hb6)
  have x0_6 := Lib.hid (BX_x0.out.below hb6)
  have x0F0_6 := Lib.hid (FX_x0_0.out.below hb6)
  have x0F1_6 := Lib.hid (FX_x0_1.out.below hb6)
  have hz6 : ((w5.alloc (.cells #[.slice D5_0 d0.points.length k5_0, .slice D5_1 d0.segs.length k5_1] 26))).heap.size ≤ w6.heap.size := hb6.size
  clear hb6 o6
  -- g0 := impl.RoutePoints(x0, aFrom, x2)
  obtain ⟨z_x0_0, z_x0_1, _⟩ := x0_6.out
  go_wp2_with fail
  refine (implRoutePoints _ _ d0 a1 _ l2 _ x0_6.out.2.2 S6.out WF0_0.out).mono ?_
  intro e w7 hN
  rw [HR0.out] at hN
  obtain ⟨u7, rfl, o7, hb7⟩ := hN
  have S7 := Lib.hid (OwnInt.sl o7 (by omega))
  have RG7 := Lib.hid (own_range o7)
  have FR7 := Lib.hid (own_freeV o7)
  obtain ⟨D7, k7, rfl⟩ := own_form o7
  have B7 := Lib.hid (B6.out.trans (hb7.mono B6.out.size))
  have w0_7 := Lib.hid (w0_6.out.below hb7)
  have w0F_7 := Lib.hid (w0F_6.out.below hb7)
  have x0_7 := Lib.hid (x0_6.out.below hb7)
  have x0F0_7 := Lib.hid (x0F0_6.out.below hb7)
  have x0F1_7 := Lib.hid (x0F1_6.out.below hb7)
  have x2_7 := Lib.hid (S6.out.below hb7)
  have x2F_7 := Lib.hid (FR6.out.below hb7)
  have hz7 : (w6).heap.size ≤ w7.heap.size := hb7.size
  clear o7
  clear hb7 z_x0_0 z_x0_1
  -- if !eqIntS(g0, w0) {
  go_wp2_with fail
  refine (eqIntS_same _ _ r0 _ S7.out w0_7.out).mono ?_
  rintro e w8 ⟨rfl, hb8⟩
  have B8 := Lib.hid (B7.out.trans (hb8.mono B7.out.size))
  have w0_8 := Lib.hid (w0_7.out.below hb8)
  have w0F_8 := Lib.hid (w0F_7.out.below hb8)
  have x0_8 := Lib.hid (x0_7.out.below hb8)
  have x0F0_8 := Lib.hid (x0F0_7.out.below hb8)
  have x0F1_8 := Lib.hid (x0F1_7.out.below hb8)
  have x2_8 := Lib.hid (x2_7.out.below hb8)
  have x2F_8 := Lib.hid (x2F_7.out.below hb8)
  have g0_8 := Lib.hid (S7.out.below hb8)
  have g0F_8 := Lib.hid (FR7.out.below hb8)
  have hz8 : (w7).heap.size ≤ w8.heap.size := hb8.size
  clear hb8
  -- if !eqChart(x0, toChart(aC)) {
  have y0_0 : (w8).cell? ⟨w.heap.size, 0, none⟩ = some (.slice A0_0 d0.points.length c0_0) := cell_onV (ABX0.out.1) B8.out
  have y0_1 : (w8).cell? ⟨w.heap.size, 1, none⟩ = some (.slice A0_1 d0.segs.length c0_1) := cell_onV (ABX0.out.2) B8.out
  obtain ⟨z_x0_0, z_x0_1, _⟩ := x0_8.out
  have DD := Lib.hid ((Below.refl (w8).heap.size (w8)).drew)
  go_upto_region 13 with fail
  go_cut [46] (fun sL wx => sL = .bool false ∧ Hid (Below (w8).heap.size (w8) wx))
  case first =>
    refine wp_region_held_drew (S := (fun w' => w'.cell? ⟨w5.heap.size, 0, none⟩ = some (.slice D5_0 d0.points.length k5_0) ∧ w'.cell? ⟨w5.heap.size, 1, none⟩ = some (.slice D5_1 d0.segs.length k5_1) ∧ w'.cell? ⟨w.heap.size, 0, none⟩ = some (.slice A0_0 d0.points.length c0_0) ∧ w'.cell? ⟨w.heap.size, 1, none⟩ = some (.slice A0_1 d0.segs.length c0_1) ∧ Hid (Below (w8).heap.size (w8) w'))) (by kernel_rfl) ?_ (fun hHeld => ?_)
    · (try dsimp only); go_keep
    refine wpAnyH_take (i := 0) (v := ?_) (by simp only [List.getElem?_toArray, List.getElem?_cons_zero]; rfl) (by kernel_rfl) (by kernel_rfl) (by kernel_rfl) (by exact fun _ _ _ h => h) (Or.inl ⟨by rfl, ?_⟩) (by assumption) ?_; rotate_left; focus (intro w hSw; (try dsimp only at hSw); first | (go_simp; done) | (go_simp; with_reducible rfl))
    try simp only [Act.put, List.setIfInBounds_toArray, List.set_cons_zero, List.set_cons_succ]
    refine wpAnyH_take (i := 1) (v := ?_) (by simp only [List.getElem?_toArray, List.getElem?_cons_succ, List.getElem?_cons_zero]; rfl) (by kernel_rfl) (by kernel_rfl) (by kernel_rfl) (by exact fun _ _ _ h => h) (Or.inl ⟨by rfl, ?_⟩) (by assumption) ?_; rotate_left; focus (intro w hSw; (try dsimp only at hSw); first | (go_simp; done) | (go_simp; with_reducible rfl))
    try simp only [Act.put, List.setIfInBounds_toArray, List.set_cons_zero, List.set_cons_succ]
    refine wpAnyH_ready (rs := [2]) (by kernel_rfl) (by simp) ?_
    refine AllReadyH.cons rfl (fun K hK => ?_) AllReadyH.nil
    rw [if_pos (by rfl)]
    go_simp
    go_at_call 26
    have kB := hHeld.2.2.2.2
    refine (toChart_any _ _ d0 _ (R0.out.below (BW.out.trans ((B8.out.trans (kB.out.mono B8.out.size)).mono hs0)))).mono ?_
    intro e wt hN
    obtain ⟨Q0, q0, Q1, q1, rfl, hRD, hbk⟩ := hN.rd (by omega) (by omega)
    have HRD := Lib.hid hRD
    have HBK := kB.out.trans (hbk.mono kB.out.size)
    have QS := Lib.hid (show wt.cell? ⟨w5.heap.size, 0, none⟩ = some (.slice D5_0 d0.points.length k5_0) ∧ wt.cell? ⟨w5.heap.size, 1, none⟩ = some (.slice D5_1 d0.segs.length k5_1) ∧ wt.cell? ⟨w.heap.size, 0, none⟩ = some (.slice A0_0 d0.points.length c0_0) ∧ wt.cell? ⟨w.heap.size, 1, none⟩ = some (.slice A0_1 d0.segs.length c0_1) ∧ Hid (Below (w8).heap.size (w8) wt) from ⟨(x0_8.out.below HBK).1, (x0_8.out.below HBK).2.1, cell_onV (cell_onV (ABX0.out.1) B8.out) HBK, cell_onV (cell_onV (ABX0.out.2) B8.out) HBK, Lib.hid HBK⟩)
    clear hbk kB hHeld hN hRD HBK
    go_simp
    refine hK.out _ _ ?_ (fun hHeld => ?_)
    · (try dsimp only); exact QS.out
    clear hK K
    try simp only [Act.put, List.setIfInBounds_toArray, List.set_cons_zero, List.set_cons_succ]
    refine wpAnyH_ready (rs := [3]) (by kernel_rfl) (by simp) ?_
    refine AllReadyH.cons rfl (fun K hK => ?_) AllReadyH.nil
    rw [if_pos (by rfl)]
    go_simp
    go_at_call 27
    have kB := hHeld.2.2.2.2
    refine (eqChart_same _ _ _ _ d0 _ (x0_8.out.below kB.out).2.2 HRD.out).mono ?_
    rintro e wq ⟨rfl, hbk⟩
    have HBK := kB.out.trans (hbk.mono kB.out.size)
    have QQ := Lib.hid (show wq.cell? ⟨w5.heap.size, 0, none⟩ = some (.slice D5_0 d0.points.length k5_0) ∧ wq.cell? ⟨w5.heap.size, 1, none⟩ = some (.slice D5_1 d0.segs.length k5_1) ∧ wq.cell? ⟨w.heap.size, 0, none⟩ = some (.slice A0_0 d0.points.length c0_0) ∧ wq.cell? ⟨w.heap.size, 1, none⟩ = some (.slice A0_1 d0.segs.length c0_1) ∧ Hid (Below (w8).heap.size (w8) wq) from ⟨(x0_8.out.below HBK).1, (x0_8.out.below HBK).2.1, cell_onV (cell_onV (ABX0.out.1) B8.out) HBK, cell_onV (cell_onV (ABX0.out.2) B8.out) HBK, Lib.hid HBK⟩)
    clear hbk kB hHeld HBK
    go_simp
    refine hK.out _ _ ?_ (fun hHeld => ?_)
    · (try dsimp only); exact QQ.out
    clear hK K
    try simp only [Act.put, List.setIfInBounds_toArray, List.set_cons_zero, List.set_cons_succ]
    refine wpAnyH_take (i := 4) (v := ?_) (by simp only [List.getElem?_toArray, List.getElem?_cons_succ, List.getElem?_cons_zero]; rfl) (by kernel_rfl) (by kernel_rfl) (by kernel_rfl) (by exact fun _ _ _ h => h) (Or.inl ⟨by rfl, ?_⟩) (by assumption) ?_; rotate_left; focus (intro w hSw; (try dsimp only at hSw); first | (go_simp; done) | (go_simp; with_reducible rfl))
    try simp only [Act.put, List.setIfInBounds_toArray, List.set_cons_zero, List.set_cons_succ]
    refine wpAnyH_done (by kernel_rfl) ?_ _
    go_wp2_with fail
    go_meet
    exact ⟨rfl, hHeld.2.2.2.2⟩
  case rest =>
    obtain ⟨rfl, hbH⟩ := hcut
    have hb9 := hbH.out
    obtain ⟨w9, rfl⟩ : ∃ W, W = wc := ⟨_, rfl⟩
    clear hbH DD y0_0 y0_1 z_x0_0 z_x0_1
    have B9 := Lib.hid (B8.out.trans (hb9.mono B8.out.size))
    have w0_9 := Lib.hid (w0_8.out.below hb9)
    have w0F_9 := Lib.hid (w0F_8.out.below hb9)
    have x0_9 := Lib.hid (x0_8.out.below hb9)
    have x0F0_9 := Lib.hid (x0F0_8.out.below hb9)
    have x0F1_9 := Lib.hid (x0F1_8.out.below hb9)
    have x2_9 := Lib.hid (x2_8.out.below hb9)
    have x2F_9 := Lib.hid (x2F_8.out.below hb9)
    have g0_9 := Lib.hid (g0_8.out.below hb9)
    have g0F_9 := Lib.hid (g0F_8.out.below hb9)
    have hz9 : (w8).heap.size ≤ w9.heap.size := hb9.size
    clear hb9
    -- if !eqIntS(x2, toIntS(aRoute)) {
    go_wp2_with fail
    refine (toIntS_any _ l2 _ (R2.out.below (BW.out.trans (B9.out.mono hs0)))).mono ?_
    rintro e w10 ⟨u10, rfl, o10, hb10⟩
    have S10 := Lib.hid (OwnInt.sl o10 (by omega))
    have RG10 := Lib.hid (own_range o10)
    have FR10 := Lib.hid (own_freeV o10)
    obtain ⟨D10, k10, rfl⟩ := own_form o10
    have B10 := Lib.hid (B9.out.trans (hb10.mono B9.out.size))
    have w0_10 := Lib.hid (w0_9.out.below hb10)
    have w0F_10 := Lib.hid (w0F_9.out.below hb10)
    have x0_10 := Lib.hid (x0_9.out.below hb10)
    have x0F0_10 := Lib.hid (x0F0_9.out.below hb10)
    have x0F1_10 := Lib.hid (x0F1_9.out.below hb10)
    have x2_10 := Lib.hid (x2_9.out.below hb10)
    have x2F_10 := Lib.hid (x2F_9.out.below hb10)
    have g0_10 := Lib.hid (g0_9.out.below hb10)
    have g0F_10 := Lib.hid (g0F_9.out.below hb10)
    have hz10 : (w9).heap.size ≤ w10.heap.size := hb10.size
    clear hb10 o10
    go_wp2_with fail
    refine (eqIntS_same _ _ l2 _ x2_10.out S10.out).mono ?_
    rintro e w11 ⟨rfl, hb11⟩
    have B11 := Lib.hid (B10.out.trans (hb11.mono B10.out.size))
    have w0_11 := Lib.hid (w0_10.out.below hb11)
    have w0F_11 := Lib.hid (w0F_10.out.below hb11)
    have x0_11 := Lib.hid (x0_10.out.below hb11)
    have x0F0_11 := Lib.hid (x0F0_10.out.below hb11)
    have x0F1_11 := Lib.hid (x0F1_10.out.below hb11)
    have x2_11 := Lib.hid (x2_10.out.below hb11)
    have x2F_11 := Lib.hid (x2F_10.out.below hb11)
    have g0_11 := Lib.hid (g0_10.out.below hb11)
    have g0F_11 := Lib.hid (g0F_10.out.below hb11)
    have hz11 : (w10).heap.size ≤ w11.heap.size := hb11.size
    clear hb11
    -- k := 1
    -- k = markChart(x0, k)
    obtain ⟨z_x0_0, z_x0_1, _⟩ := x0_11.out
    go_wp2_with fail
    refine (markChart_any _ _ d0 (1) _ _ _ x0_11.out.2.2 x0F0_11.out x0F1_11.out RG5_0.out RG5_1.out AP5_0_1.out (by omega) (by omega) (by omega) (by omega)).mono ?_
    rintro e w12 ⟨rfl, mm12_0, mm12_1, ht12⟩
    have B12 := Lib.hid (TouchR.below B11.out ht12 B11.out.size (by omega))
    have w0_12 := Lib.hid (SlOf.touch w0_11.out ht12 RG4.out (by omega))
    have w0F_12 := Lib.hid (FreeV.touch w0F_11.out ht12 RG4.out (by omega))
    have x2_12 := Lib.hid (SlOf.touch x2_11.out ht12 RG6.out (by omega))
    have x2F_12 := Lib.hid (FreeV.touch x2F_11.out ht12 RG6.out (by omega))
    have g0_12 := Lib.hid (SlOf.touch g0_11.out ht12 RG7.out (by omega))
    have g0F_12 := Lib.hid (FreeV.touch g0F_11.out ht12 RG7.out (by omega))
    have hz12 : (w11).heap.size ≤ w12.heap.size := ht12.size
    clear ht12 mm12_0 mm12_1 z_x0_0 z_x0_1
    -- k = markIntS(x2, k)
    go_wp2_with fail
    refine (markIntS_any _ l2 (1 + (d0.points.length : Int) * 2 + (d0.segs.length : Int) * 5) _ x2_12.out (fun g hg => (x2F_12.out g hg).1) (by omega) (by omega) (by omega)).mono ?_
    rintro e w13 ⟨rfl, mm13, hg13⟩
    have ht13 := touch_grown hg13 RG6.out
    have B13 := Lib.hid (TouchR.below B12.out ht13 B12.out.size (by omega))
    have w0_13 := Lib.hid (SlOf.touch w0_12.out ht13 RG4.out (by omega))
    have w0F_13 := Lib.hid (FreeV.touch w0F_12.out ht13 RG4.out (by omega))
    have g0_13 := Lib.hid (SlOf.touch g0_12.out ht13 RG7.out (by omega))
    have g0F_13 := Lib.hid (FreeV.touch g0F_12.out ht13 RG7.out (by omega))
    have hz13 : (w12).heap.size ≤ w13.heap.size := ht13.size
    have MK_x2 := Lib.hid mm13
    clear ht13 hg13 mm13
    -- if k < 0 || !eqIntS(g0, w0) {
    go_wp2_with fail
    refine (eqIntS_same _ _ r0 _ g0_13.out w0_13.out).mono ?_
    rintro e w14 ⟨rfl, hb14⟩
    have B14 := Lib.hid (B13.out.trans (hb14.mono B13.out.size))
    have w0_14 := Lib.hid (w0_13.out.below hb14)
    have w0F_14 := Lib.hid (w0F_13.out.below hb14)
    have g0_14 := Lib.hid (g0_13.out.below hb14)
    have g0F_14 := Lib.hid (g0F_13.out.below hb14)
    have mkx2_14 := Lib.hid (MK_x2.out.below hb14)
    have hz14 : (w13).heap.size ≤ w14.heap.size := hb14.size
    clear hb14
    -- m := 1
    -- m = markIntS(g0, m)
    go_wp2_with fail
    refine (markIntS_any _ r0 (1) _ g0_14.out (fun g hg => (g0F_14.out g hg).1) (by omega) (by omega) (by omega)).mono ?_
    rintro e w15 ⟨rfl, mm15, hg15⟩
    have ht15 := touch_grown hg15 RG7.out
    have B15 := Lib.hid (TouchR.below B14.out ht15 B14.out.size (by omega))
    have w0_15 := Lib.hid (SlOf.touch w0_14.out ht15 RG4.out (by omega))
    have w0F_15 := Lib.hid (FreeV.touch w0F_14.out ht15 RG4.out (by omega))
    have mkx2_15 := Lib.hid (MarkedV.touch mkx2_14.out ht15 RG6.out (by omega))
    have hz15 : (w14).heap.size ≤ w15.heap.size := ht15.size
    have MK_g0 := Lib.hid mm15
    clear ht15 hg15 mm15
    -- q := 1
    -- q = heldIntS(g0, q)
    go_wp2_with fail
    refine (heldIntS_any _ r0.length D7 k7 rfl (1) _ MK_g0.out (by omega) (by omega) (by omega)).mono ?_
    rintro e w16 ⟨rfl, hb16⟩
    have B16 := Lib.hid (B15.out.trans (hb16.mono B15.out.size))
    have w0_16 := Lib.hid (w0_15.out.below hb16)
    have w0F_16 := Lib.hid (w0F_15.out.below hb16)
    have mkx2_16 := Lib.hid (mkx2_15.out.below hb16)
    have mkg0_16 := Lib.hid (MK_g0.out.below hb16)
    have hz16 : (w15).heap.size ≤ w16.heap.size := hb16.size
    clear hb16
    -- if q < 0 {
    -- if q != m {
    -- h0 := impl.RoutePoints(toChart(aC), aFrom, toIntS(aRoute))
    have y0_0 : (w16).cell? ⟨w.heap.size, 0, none⟩ = some (.slice A0_0 d0.points.length c0_0) := cell_onV (ABX0.out.1) B16.out
    have y0_1 : (w16).cell? ⟨w.heap.size, 1, none⟩ = some (.slice A0_1 d0.segs.length c0_1) := cell_onV (ABX0.out.2) B16.out
    go_wp2_with fail
    refine (toChart_any _ _ d0 _ (R0.out.below (BW.out.trans (B16.out.mono hs0)))).mono ?_
    intro e w17 hN
    obtain ⟨u17_0, u17_1, rfl, o17_0, o17_1, ap17_0_1, hb17⟩ := hN
    have S17_0 := Lib.hid (OwnPoint.sl o17_0 (by omega))
    have RG17_0 := Lib.hid (own_range o17_0)
    have FR17_0 := Lib.hid (own_freeV o17_0)
    obtain ⟨D17_0, k17_0, rfl⟩ := own_form o17_0
    have S17_1 := Lib.hid (OwnSegment.sl o17_1 (by omega))
    have RG17_1 := Lib.hid (own_range o17_1)
    have FR17_1 := Lib.hid (own_freeV o17_1)
    obtain ⟨D17_1, k17_1, rfl⟩ := own_form o17_1
    have AP17_0_1 := Lib.hid ap17_0_1
    clear ap17_0_1
    have B17 := Lib.hid (B16.out.trans (hb17.mono B16.out.size))
    have w0_17 := Lib.hid (w0_16.out.below hb17)
    have w0F_17 := Lib.hid (w0F_16.out.below hb17)
    have mkx2_17 := Lib.hid (mkx2_16.out.below hb17)
    have mkg0_17 := Lib.hid (mkg0_16.out.below hb17)
    have hz17 : (w16).heap.size ≤ w17.heap.size := hb17.size
    clear hb17 o17_0 o17_1 y0_0 y0_1
    go_wp2_with fail
    refine (toIntS_any _ l2 _ (R2.out.below (BW.out.trans (B17.out.mono hs0)))).mono ?_
    rintro e w18 ⟨u18, rfl, o18, hb18⟩
    have S18 := Lib.hid (OwnInt.sl o18 (by omega))
    have RG18 := Lib.hid (own_range o18)
    have FR18 := Lib.hid (own_freeV o18)
    obtain ⟨D18, k18, rfl⟩ := own_form o18
    have B18 := Lib.hid (B17.out.trans (hb18.mono B17.out.size))
    have w0_18 := Lib.hid (w0_17.out.below hb18)
    have w0F_18 := Lib.hid (w0F_17.out.below hb18)
    have mkx2_18 := Lib.hid (mkx2_17.out.below hb18)
    have mkg0_18 := Lib.hid (mkg0_17.out.below hb18)
    have t17_0_18 := Lib.hid (S17_0.out.below hb18)
    have t17_1_18 := Lib.hid (S17_1.out.below hb18)
    have hz18 : (w17).heap.size ≤ w18.heap.size := hb18.size
    clear hb18 o18
    go_wp2_with fail
    refine (implRoutePoints _ _ d0 a1 _ l2 _ ⟨t17_0_18.out, t17_1_18.out⟩ S18.out WF0_0.out).mono ?_
    intro e w19 hN
    rw [HR0.out] at hN
    obtain ⟨u19, rfl, o19, hb19⟩ := hN
    have S19 := Lib.hid (OwnInt.sl o19 (by omega))
    have RG19 := Lib.hid (own_range o19)
    have FR19 := Lib.hid (own_freeV o19)
    obtain ⟨D19, k19, rfl⟩ := own_form o19
    have B19 := Lib.hid (B18.out.trans (hb19.mono B18.out.size))
    have w0_19 := Lib.hid (w0_18.out.below hb19)
    have w0F_19 := Lib.hid (w0F_18.out.below hb19)
    have mkx2_19 := Lib.hid (mkx2_18.out.below hb19)
    have mkg0_19 := Lib.hid (mkg0_18.out.below hb19)
    have t17_0_19 := Lib.hid (t17_0_18.out.below hb19)
    have t17_1_19 := Lib.hid (t17_1_18.out.below hb19)
    have t18_19 := Lib.hid (S18.out.below hb19)
    have hz19 : (w18).heap.size ≤ w19.heap.size := hb19.size
    clear o19
    clear hb19 
    -- if !eqIntS(h0, w0) {
    go_wp2_with fail
    refine (eqIntS_same _ _ r0 _ S19.out w0_19.out).mono ?_
    rintro e w20 ⟨rfl, hb20⟩
    have B20 := Lib.hid (B19.out.trans (hb20.mono B19.out.size))
    have w0_20 := Lib.hid (w0_19.out.below hb20)
    have w0F_20 := Lib.hid (w0F_19.out.below hb20)
    have mkx2_20 := Lib.hid (mkx2_19.out.below hb20)
    have mkg0_20 := Lib.hid (mkg0_19.out.below hb20)
    have h0_20 := Lib.hid (S19.out.below hb20)
    have h0F_20 := Lib.hid (FR19.out.below hb20)
    have hz20 : (w19).heap.size ≤ w20.heap.size := hb20.size
    clear hb20
    -- q = 1
    -- q = heldIntS(g0, q)
    go_wp2_with fail
    refine (heldIntS_any _ r0.length D7 k7 rfl (1) _ mkg0_20.out (by omega) (by omega) (by omega)).mono ?_
    rintro e w21 ⟨rfl, hb21⟩
    have B21 := Lib.hid (B20.out.trans (hb21.mono B20.out.size))
    have w0_21 := Lib.hid (w0_20.out.below hb21)
    have w0F_21 := Lib.hid (w0F_20.out.below hb21)
    have mkx2_21 := Lib.hid (mkx2_20.out.below hb21)
    have mkg0_21 := Lib.hid (mkg0_20.out.below hb21)
    have h0_21 := Lib.hid (h0_20.out.below hb21)
    have h0F_21 := Lib.hid (h0F_20.out.below hb21)
    have hz21 : (w20).heap.size ≤ w21.heap.size := hb21.size
    clear hb21
    -- if q < 0 {
    -- if q != m {
    -- return true
    go_wp2
    go_ret
    exact ⟨rfl, BW.out.trans (B21.out.mono hs0)⟩

set_option maxRecDepth 100000 in
theorem lifted (os : Os) (started : os.Started) (H : Type) (enc : TypeId × Value → H) :
    ReturnsInHanded {} Try.checked os 9 .any (Rows.fnExactRoutePointsSpec.pre6 enc Try.prog Try.f9 Rows.fnExactRoutePointsRow.domain false) (Rows.fnExactRoutePointsSpec.post enc Try.prog Try.f9 false true false false) := by
  refine returnsInHanded_of_change (C := Try.checked) own started (by kernel_rfl) Try.func9
    (ChangeSpec.witness6 (enc := enc) (C := Try.checked) false ⟨#[], #[.agg #[.slice none 0 0, .slice none 0 0], .int .i64 0, .slice none 0 0], []⟩ 8 (by kernel_rfl) (by kernel_rfl) (by kernel_rfl) (by kernel_rfl)) ?_
  intro W base args ds gs before hval0 hW _ _
  have hval : ∀ (j : Nat) t v, Try.f9.params[j]? = some t → args[j]? = some v → Value.okWide Try.prog W .any base t v := hval0
  have hW' := hW
  obtain ⟨p, q, hA0, hV, rfl, _, _⟩ := hW
  have hA : DataW.TrodAll enc Try.prog W 0 (fun _ => true) true Try.f9.params.toList args.toList ds p := hA0
  rw [Try.params9] at hA hval
  obtain ⟨v0, vs0, d0, ds0, p0, q0, hargs, rfl, rfl, h0, r0⟩ := trodAll_cons hA
  obtain ⟨v1, vs1, d1, ds1, p1, q1, rfl, rfl, rfl, h1, r1⟩ := trodAll_cons r0
  obtain ⟨v2, vs2, d2, ds2, p2, q2, rfl, rfl, rfl, h2, r2⟩ := trodAll_cons r1
  obtain ⟨rfl, rfl, rfl⟩ := trodAll_nil r2
  obtain rfl : args = #[v0, v1, v2] := by cases args; simp_all
  obtain ⟨A0_0, c0_0, A0_1, c0_1, d0', rfl, g0⟩ := open_chart_arg (hval 0 46 v0 rfl rfl) h0
  obtain ⟨a1, rfl, rfl, rfl, g1⟩ := open_int Try.underlying3 (hval 1 3 v1 rfl rfl) h1
  obtain ⟨A2, c2, l2, rfl, g2⟩ := open_ints_arg (hval 2 31 v2 rfl rfl) h2
  refine (law A0_0 c0_0 A0_1 c0_1 d0' a1 A2 c2 l2 W g0 g1 g2).mono fun e W' ⟨he, hb⟩ => ⟨_, he, ?_⟩
  exact law_post laidOut (by kernel_rfl) rfl (by kernel_rfl) Try.underlying4 rfl rfl rfl hW' hb

theorem holds : Rows.FnExactRoutePointsSaid :=
  OpenClaim.holds_of_wide 9 Try.f9 rfl rfl rfl rfl rfl rfl rfl ⟨rfl, rfl, rfl, rfl, rfl⟩ rfl rfl rfl rfl rfl (by kernel_rfl) Try.func9 (by kernel_rfl)
    (of_decide_eq_true (by kernel_rfl)) (by unfold Func.isWrapper; first | (rw [if_pos (by decide +kernel)]; kernel_rfl) | (rw [if_neg (by decide +kernel)]; exact ⟨rfl, rfl⟩))
    (fun os started H enc _ => lifted os started H enc)

end Go.Proofs.Ytcofldhjbidjjaa.exactRoutePoints
