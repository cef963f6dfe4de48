
/- The exact law of RouteOk holds for all arguments: impl.RouteOk answers as its model, and the arguments read as before. No condition. -/
import Derived.Test.YtcofldhjbidjjaaRows
import Derived.Test.YtcofldhjbidjjaaKit
import Derived.Test.YtcofldhjbidjjaaRoutePtsImpl
import Derived.Test.YtcofldhjbidjjaaChartC
import Derived.Test.YtcofldhjbidjjaaInts
import Derived.Deep.RegionHeld3
import Derived.Deep.DeepCutAuto
namespace Go.Proofs.Ytcofldhjbidjjaa.exactRouteOk
open Go.ChangeShapes Go.WideShapes Go.ChangeAt Go.RowKit
set_option maxRecDepth 100000

theorem own : ownKnob Try.prog.godebug = none := by kernel_rfl
theorem laidOut : laidOutB Try.prog = true := by kernel_rfl

set_option maxHeartbeats 16000000 in
theorem law (A0_0 : Option Addr) (c0_0 : Nat) (A0_1 : Option Addr) (c0_1 : Nat) (d0 : ChartD) (a1 : Int) (A2 : Option Addr) (c2 : Nat) (l2 : List IntD) (w : World) (hin0 : ChartIn w A0_0 A0_1 c0_0 c0_1 d0) (_ : (Lit.int .i64 a1).wf = true) (hin2 : l2.length ≤ maxLen ∧ (l2.length ≤ 1000000000 → SlInt w (.slice A2 l2.length c2) l2) ∧ ∀ x ∈ l2, IntD.wf x) :
    Calls Try.prog 8 #[.agg #[.slice A0_0 d0.points.length c0_0, .slice A0_1 d0.segs.length c0_1], .int .i64 a1, .slice A2 l2.length c2] w fun e w' => e = .returned (.bool true) ∧ Below w.heap.size w w' := by
  have hsz0 : SizChart w A0_0 A0_1 c0_0 c0_1 d0 := hin0
  clear hin0
  have SZ0 := Lib.hid hsz0
  obtain ⟨m0_0, s0_0, f0_0, m0_1, s0_1, f0_1⟩ := hsz0
  have SS0_0 := Lib.hid s0_0
  have SS0_1 := Lib.hid s0_1
  have WF0_0 := Lib.hid f0_0
  clear s0_0 f0_0 s0_1 f0_1
  have bp0 := bulkChart_pos d0
  obtain ⟨m2, s2, f2⟩ := hin2
  unfold maxLen at m2
  have SS2 := Lib.hid s2
  have FF2 := Lib.hid f2
  clear s2 f2
  have HB0 : Below w.heap.size w (w.alloc (.cells #[.slice A0_0 d0.points.length c0_0, .slice A0_1 d0.segs.length c0_1] 46)) := by
    repeat (first | exact Below.refl _ _ | refine Below.alloc ?_ (by simp <;> omega) _)
  have BW := Lib.hid HB0
  clear HB0
  go_enter Try.func8, Try.ntmps8
  have B0 := Lib.hid (Below.refl ((w.alloc (.cells #[.slice A0_0 d0.points.length c0_0, .slice A0_1 d0.segs.length c0_1] 46))).heap.size (w.alloc (.cells #[.slice A0_0 d0.points.length c0_0, .slice A0_1 d0.segs.length c0_1] 46)))
  have hs0 : w.heap.size ≤ ((w.alloc (.cells #[.slice A0_0 d0.points.length c0_0, .slice A0_1 d0.segs.length c0_1] 46))).heap.size := BW.out.size
  have ABX0 := Lib.hid (show ((w.alloc (.cells #[.slice A0_0 d0.points.length c0_0, .slice A0_1 d0.segs.length c0_1] 46))).cell? ⟨w.heap.size, 0, none⟩ = some (.slice A0_0 d0.points.length c0_0) ∧ ((w.alloc (.cells #[.slice A0_0 d0.points.length c0_0, .slice A0_1 d0.segs.length c0_1] 46))).cell? ⟨w.heap.size, 1, none⟩ = some (.slice A0_1 d0.segs.length c0_1) from by
    have hBk : Blk (w.alloc (.cells #[.slice A0_0 d0.points.length c0_0, .slice A0_1 d0.segs.length c0_1] 46)) (w.heap.size) #[.slice A0_0 d0.points.length c0_0, .slice A0_1 d0.segs.length c0_1] 46 := (Blk.newAt (by first | rfl | simp) _ _).below (by repeat (first | exact Below.refl _ _ | refine Below.alloc ?_ (by simp <;> omega) _))
    exact ⟨hBk.cell 0, hBk.cell 1⟩)
  obtain ⟨r0, hr0⟩ : ∃ r0, (routeB d0 a1 l2) = r0 := ⟨_, rfl⟩
  have HR0 := Lib.hid hr0
  clear hr0
  -- if len(aRoute) > 1<<20 {
  by_cases big2 : 1048576 < l2.length
  · go_wp2
    go_ret
    exact ⟨rfl, BW.out.trans (B0.out.mono hs0)⟩
  have R2 := Lib.hid (SS2.out (by omega))
  clear SS2
  -- left := 1 << 20
  -- left = szChart(aC, left)
  have y0_0 : ((w.alloc (.cells #[.slice A0_0 d0.points.length c0_0, .slice A0_1 d0.segs.length c0_1] 46))).cell? ⟨w.heap.size, 0, none⟩ = some (.slice A0_0 d0.points.length c0_0) := cell_onV (ABX0.out.1) B0.out
  have y0_1 : ((w.alloc (.cells #[.slice A0_0 d0.points.length c0_0, .slice A0_1 d0.segs.length c0_1] 46))).cell? ⟨w.heap.size, 1, none⟩ = some (.slice A0_1 d0.segs.length c0_1) := cell_onV (ABX0.out.2) B0.out
  have hl1 : 0 ≤ (1048576 : Int) := by omega
  have hll1 : (1048576 : Int) ≤ 1048576 := by omega
  go_wp2_with fail
  refine (szChart_any _ _ _ _ d0 _ (SizChart.below SZ0.out (BW.out.trans (B0.out.mono hs0))) (1048576) hl1 hll1).mono ?_
  rintro e w1 ⟨rfl, hb1⟩
  have B1 := Lib.hid (B0.out.trans (hb1.mono B0.out.size))
  have hz1 : ((w.alloc (.cells #[.slice A0_0 d0.points.length c0_0, .slice A0_1 d0.segs.length c0_1] 46))).heap.size ≤ w1.heap.size := hb1.size
  clear hb1 y0_0 y0_1
  by_cases neg1 : (1048576 : Int) < bulkChart d0
  · rw [leftOf_no neg1]
    go_wp2
    go_ret
    exact ⟨rfl, BW.out.trans (B1.out.mono hs0)⟩
  rw [leftOf_yes neg1]
  have ne1 : ¬ (1048576 - bulkChart d0 : Int) < 0 := by omega
  have le0 := bulkChart_le d0
  have R0 : Hid (RdChart w (.slice A0_0 d0.points.length c0_0) (.slice A0_1 d0.segs.length c0_1) d0) := Lib.hid ⟨SS0_0.out (by omega), SS0_1.out (by omega)⟩
  -- w0 := spec.RouteOk(toChart(aC), aFrom, toIntS(aRoute))
  have y0_0 : (w1).cell? ⟨w.heap.size, 0, none⟩ = some (.slice A0_0 d0.points.length c0_0) := cell_onV (ABX0.out.1) B1.out
  have y0_1 : (w1).cell? ⟨w.heap.size, 1, none⟩ = some (.slice A0_1 d0.segs.length c0_1) := cell_onV (ABX0.out.2) B1.out
  go_wp2_with fail
  refine (toChart_any _ _ d0 _ (R0.out.below (BW.out.trans (B1.out.mono hs0)))).mono ?_
  intro e w2 hN
  obtain ⟨u2_0, u2_1, rfl, o2_0, o2_1, ap2_0_1, hb2⟩ := hN
  have S2_0 := Lib.hid (OwnPoint.sl o2_0 (by omega))
  have RG2_0 := Lib.hid (own_range o2_0)
  have FR2_0 := Lib.hid (own_freeV o2_0)
  obtain ⟨D2_0, k2_0, rfl⟩ := own_form o2_0
  have S2_1 := Lib.hid (OwnSegment.sl o2_1 (by omega))
  have RG2_1 := Lib.hid (own_range o2_1)
  have FR2_1 := Lib.hid (own_freeV o2_1)
  obtain ⟨D2_1, k2_1, rfl⟩ := own_form o2_1
  have AP2_0_1 := Lib.hid ap2_0_1
  clear ap2_0_1
  have B2 := Lib.hid (B1.out.trans (hb2.mono B1.out.size))
  have hz2 : (w1).heap.size ≤ w2.heap.size := hb2.size
  clear hb2 o2_0 o2_1 y0_0 y0_1
  go_wp2_with fail
  refine (toIntS_any _ l2 _ (R2.out.below (BW.out.trans (B2.out.mono hs0)))).mono ?_
  rintro e w3 ⟨u3, rfl, o3, hb3⟩
  have S3 := Lib.hid (OwnInt.sl o3 (by omega))
  have RG3 := Lib.hid (own_range o3)
  have FR3 := Lib.hid (own_freeV o3)
  obtain ⟨D3, k3, rfl⟩ := own_form o3
  have B3 := Lib.hid (B2.out.trans (hb3.mono B2.out.size))
  have t2_0_3 := Lib.hid (S2_0.out.below hb3)
  have t2_1_3 := Lib.hid (S2_1.out.below hb3)
  have hz3 : (w2).heap.size ≤ w3.heap.size := hb3.size
  clear hb3 o3
  go_wp2_with fail
  refine (specRouteOk _ _ d0 a1 _ l2 _ ⟨t2_0_3.out, t2_1_3.out⟩ S3.out WF0_0.out).mono ?_
  rw [HR0.out]
  rintro e w4 ⟨rfl, hb4⟩
  have B4 := Lib.hid (B3.out.trans (hb4.mono B3.out.size))
  have t2_0_4 := Lib.hid (t2_0_3.out.below hb4)
  have t2_1_4 := Lib.hid (t2_1_3.out.below hb4)
  have t3_4 := Lib.hid (S3.out.below hb4)
  have hz4 : (w3).heap.size ≤ w4.heap.size := hb4.size
  clear hb4 
  -- x0 := toChart(aC)
  have y0_0 : (w4).cell? ⟨w.heap.size, 0, none⟩ = some (.slice A0_0 d0.points.length c0_0) := cell_onV (ABX0.out.1) B4.out
  have y0_1 : (w4).cell? ⟨w.heap.size, 1, none⟩ = some (.slice A0_1 d0.segs.length c0_1) := cell_onV (ABX0.out.2) B4.out
  go_wp2_with fail
  refine (toChart_any _ _ d0 _ (R0.out.below (BW.out.trans (B4.out.mono hs0)))).mono ?_
  intro e w5 hN
  obtain ⟨u5_0, u5_1, rfl, o5_0, o5_1, ap5_0_1, hb5⟩ := hN
  have S5_0 := Lib.hid (OwnPoint.sl o5_0 (by omega))
  have RG5_0 := Lib.hid (own_range o5_0)
  have FR5_0 := Lib.hid (own_freeV o5_0)
  obtain ⟨D5_0, k5_0, rfl⟩ := own_form o5_0
  have S5_1 := Lib.hid (OwnSegment.sl o5_1 (by omega))
  have RG5_1 := Lib.hid (own_range o5_1)
  have FR5_1 := Lib.hid (own_freeV o5_1)
  obtain ⟨D5_1, k5_1, rfl⟩ := own_form o5_1
  have AP5_0_1 := Lib.hid ap5_0_1
  clear ap5_0_1
  have B5 := Lib.hid (B4.out.trans (hb5.mono B4.out.size))
  have hz5 : (w4).heap.size ≤ w5.heap.size := hb5.size
  clear hb5 o5_0 o5_1 y0_0 y0_1
  have BX_x0 := Lib.hid (ChartBox.new 26 (show RdChart w5 (.slice D5_0 d0.points.length k5_0) (.slice D5_1 d0.segs.length k5_1) d0 from ⟨S5_0.out, S5_1.out⟩))
  have hb5b := Joins.below_alloc1 w5 (.cells #[.slice D5_0 d0.points.length k5_0, .slice D5_1 d0.segs.length k5_1] 26)
  have B5x := Lib.hid (B5.out.trans (hb5b.mono B5.out.size))
  have FX_x0_0 := Lib.hid (FR5_0.out.below hb5b)
  have FX_x0_1 := Lib.hid (FR5_1.out.below hb5b)
  clear hb5b
  have hsx5 : ((w5.alloc (.cells #[.slice D5_0 d0.points.length k5_0, .slice D5_1 d0.segs.length k5_1] 26))).heap.size = w5.heap.size + 1 := by simp
  -- x2 := toIntS(aRoute)
  go_wp2_with fail
  refine (toIntS_any _ l2 _ (R2.out.below (BW.out.trans (B5x.out.mono hs0)))).mono ?_
  rintro e w6 ⟨u6, rfl, o6, hb6⟩
  have S6 := Lib.hid (OwnInt.sl o6 (by omega))
  have RG6 := Lib.hid (own_range o6)
  have FR6 := Lib.hid (own_freeV o6)
  obtain ⟨D6, k6, rfl⟩ := own_form o6
  have B6 := Lib.hid (B5x.out.trans (hb6.mono B5x.out.size))
  have x0_6 := Lib.hid (BX_x0.out.below hb6)
  have x0F0_6 := Lib.hid (FX_x0_0.out.below hb6)
  have x0F1_6 := Lib.hid (FX_x0_1.out.below hb6)
  have hz6 : ((w5.alloc (.cells #[.slice D5_0 d0.points.length k5_0, .slice D5_1 d0.segs.length k5_1] 26))).heap.size ≤ w6.heap.size := hb6.size
  clear hb6 o6
  -- g0 := impl.RouteOk(x0, aFrom, x2)
  obtain ⟨z_x0_0, z_x0_1, _⟩ := x0_6.out
  go_wp2_with fail
  refine (implRouteOk _ _ d0 a1 _ l2 _ x0_6.out.2.2 S6.out WF0_0.out).mono ?_
  rw [HR0.out]
  rintro e w7 ⟨rfl, hb7⟩
  have B7 := Lib.hid (B6.out.trans (hb7.mono B6.out.size))
  have x0_7 := Lib.hid (x0_6.out.below hb7)
  have x0F0_7 := Lib.hid (x0F0_6.out.below hb7)
  have x0F1_7 := Lib.hid (x0F1_6.out.below hb7)
  have x2_7 := Lib.hid (S6.out.below hb7)
  have x2F_7 := Lib.hid (FR6.out.below hb7)
  have hz7 : (w6).heap.size ≤ w7.heap.size := hb7.size
  clear hb7 z_x0_0 z_x0_1
  -- if g0 != w0 {
  -- if !eqChart(x0, toChart(aC)) {
  have y0_0 : (w7).cell? ⟨w.heap.size, 0, none⟩ = some (.slice A0_0 d0.points.length c0_0) := cell_onV (ABX0.out.1) B7.out
  have y0_1 : (w7).cell? ⟨w.heap.size, 1, none⟩ = some (.slice A0_1 d0.segs.length c0_1) := cell_onV (ABX0.out.2) B7.out
  obtain ⟨z_x0_0, z_x0_1, _⟩ := x0_7.out
  have DD := Lib.hid ((Below.refl (w7).heap.size (w7)).drew)
  go_upto_region 13 with fail
  go_cut [41] (fun sL wx => sL = .bool false ∧ Hid (Below (w7).heap.size (w7) wx))
  case first =>
    refine wp_region_held_drew (S := (fun w' => w'.cell? ⟨w5.heap.size, 0, none⟩ = some (.slice D5_0 d0.points.length k5_0) ∧ w'.cell? ⟨w5.heap.size, 1, none⟩ = some (.slice D5_1 d0.segs.length k5_1) ∧ w'.cell? ⟨w.heap.size, 0, none⟩ = some (.slice A0_0 d0.points.length c0_0) ∧ w'.cell? ⟨w.heap.size, 1, none⟩ = some (.slice A0_1 d0.segs.length c0_1) ∧ Hid (Below (w7).heap.size (w7) w'))) (by kernel_rfl) ?_ (fun hHeld => ?_)
    · (try dsimp only); go_keep
    refine wpAnyH_take (i := 0) (v := ?_) (by simp only [List.getElem?_toArray, List.getElem?_cons_zero]; rfl) (by kernel_rfl) (by kernel_rfl) (by kernel_rfl) (by exact fun _ _ _ h => h) (Or.inl ⟨by rfl, ?_⟩) (by assumption) ?_; rotate_left; focus (intro w hSw; (try dsimp only at hSw); first | (go_simp; done) | (go_simp; with_reducible rfl))
    try simp only [Act.put, List.setIfInBounds_toArray, List.set_cons_zero, List.set_cons_succ]
    refine wpAnyH_take (i := 1) (v := ?_) (by simp only [List.getElem?_toArray, List.getElem?_cons_succ, List.getElem?_cons_zero]; rfl) (by kernel_rfl) (by kernel_rfl) (by kernel_rfl) (by exact fun _ _ _ h => h) (Or.inl ⟨by rfl, ?_⟩) (by assumption) ?_; rotate_left; focus (intro w hSw; (try dsimp only at hSw); first | (go_simp; done) | (go_simp; with_reducible rfl))
    try simp only [Act.put, List.setIfInBounds_toArray, List.set_cons_zero, List.set_cons_succ]
    refine wpAnyH_ready (rs := [2]) (by kernel_rfl) (by simp) ?_
    refine AllReadyH.cons rfl (fun K hK => ?_) AllReadyH.nil
    rw [if_pos (by rfl)]
    go_simp
    go_at_call 26
    have kB := hHeld.2.2.2.2
    refine (toChart_any _ _ d0 _ (R0.out.below (BW.out.trans ((B7.out.trans (kB.out.mono B7.out.size)).mono hs0)))).mono ?_
    intro e wt hN
    obtain ⟨Q0, q0, Q1, q1, rfl, hRD, hbk⟩ := hN.rd (by omega) (by omega)
    have HRD := Lib.hid hRD
    have HBK := kB.out.trans (hbk.mono kB.out.size)
    have QS := Lib.hid (show wt.cell? ⟨w5.heap.size, 0, none⟩ = some (.slice D5_0 d0.points.length k5_0) ∧ wt.cell? ⟨w5.heap.size, 1, none⟩ = some (.slice D5_1 d0.segs.length k5_1) ∧ wt.cell? ⟨w.heap.size, 0, none⟩ = some (.slice A0_0 d0.points.length c0_0) ∧ wt.cell? ⟨w.heap.size, 1, none⟩ = some (.slice A0_1 d0.segs.length c0_1) ∧ Hid (Below (w7).heap.size (w7) wt) from ⟨(x0_7.out.below HBK).1, (x0_7.out.below HBK).2.1, cell_onV (cell_onV (ABX0.out.1) B7.out) HBK, cell_onV (cell_onV (ABX0.out.2) B7.out) HBK, Lib.hid HBK⟩)
    clear hbk kB hHeld hN hRD HBK
    go_simp
    refine hK.out _ _ ?_ (fun hHeld => ?_)
    · (try dsimp only); exact QS.out
    clear hK K
    try simp only [Act.put, List.setIfInBounds_toArray, List.set_cons_zero, List.set_cons_succ]
    refine wpAnyH_ready (rs := [3]) (by kernel_rfl) (by simp) ?_
    refine AllReadyH.cons rfl (fun K hK => ?_) AllReadyH.nil
    rw [if_pos (by rfl)]
    go_simp
    go_at_call 27
    have kB := hHeld.2.2.2.2
    refine (eqChart_same _ _ _ _ d0 _ (x0_7.out.below kB.out).2.2 HRD.out).mono ?_
    rintro e wq ⟨rfl, hbk⟩
    have HBK := kB.out.trans (hbk.mono kB.out.size)
    have QQ := Lib.hid (show wq.cell? ⟨w5.heap.size, 0, none⟩ = some (.slice D5_0 d0.points.length k5_0) ∧ wq.cell? ⟨w5.heap.size, 1, none⟩ = some (.slice D5_1 d0.segs.length k5_1) ∧ wq.cell? ⟨w.heap.size, 0, none⟩ = some (.slice A0_0 d0.points.length c0_0) ∧ wq.cell? ⟨w.heap.size, 1, none⟩ = some (.slice A0_1 d0.segs.length c0_1) ∧ Hid (Below (w7).heap.size (w7) wq) from ⟨(x0_7.out.below HBK).1, (x0_7.out.below HBK).2.1, cell_onV (cell_onV (ABX0.out.1) B7.out) HBK, cell_onV (cell_onV (ABX0.out.2) B7.out) HBK, Lib.hid HBK⟩)
    clear hbk kB hHeld HBK
    go_simp
    refine hK.out _ _ ?_ (fun hHeld => ?_)
    · (try dsimp only); exact QQ.out
    clear hK K
    try simp only [Act.put, List.setIfInBounds_toArray, List.set_cons_zero, List.set_cons_succ]
    refine wpAnyH_take (i := 4) (v := ?_) (by simp only [List.getElem?_toArray, List.getElem?_cons_succ, List.getElem?_cons_zero]; rfl) (by kernel_rfl) (by kernel_rfl) (by kernel_rfl) (by exact fun _ _ _ h => h) (Or.inl ⟨by rfl, ?_⟩) (by assumption) ?_; rotate_left; focus (intro w hSw; (try dsimp only at hSw); first | (go_simp; done) | (go_simp; with_reducible rfl))
    try simp only [Act.put, List.setIfInBounds_toArray, List.set_cons_zero, List.set_cons_succ]
    refine wpAnyH_done (by kernel_rfl) ?_ _
    go_wp2_with fail
    go_meet
    exact ⟨rfl, hHeld.2.2.2.2⟩
  case rest =>
    obtain ⟨rfl, hbH⟩ := hcut
    have hb8 := hbH.out
    obtain ⟨w8, rfl⟩ : ∃ W, W = wc := ⟨_, rfl⟩
    clear hbH DD y0_0 y0_1 z_x0_0 z_x0_1
    have B8 := Lib.hid (B7.out.trans (hb8.mono B7.out.size))
    have x0_8 := Lib.hid (x0_7.out.below hb8)
    have x0F0_8 := Lib.hid (x0F0_7.out.below hb8)
    have x0F1_8 := Lib.hid (x0F1_7.out.below hb8)
    have x2_8 := Lib.hid (x2_7.out.below hb8)
    have x2F_8 := Lib.hid (x2F_7.out.below hb8)
    have hz8 : (w7).heap.size ≤ w8.heap.size := hb8.size
    clear hb8
    -- if !eqIntS(x2, toIntS(aRoute)) {
    go_wp2_with fail
    refine (toIntS_any _ l2 _ (R2.out.below (BW.out.trans (B8.out.mono hs0)))).mono ?_
    rintro e w9 ⟨u9, rfl, o9, hb9⟩
    have S9 := Lib.hid (OwnInt.sl o9 (by omega))
    have RG9 := Lib.hid (own_range o9)
    have FR9 := Lib.hid (own_freeV o9)
    obtain ⟨D9, k9, rfl⟩ := own_form o9
    have B9 := Lib.hid (B8.out.trans (hb9.mono B8.out.size))
    have x0_9 := Lib.hid (x0_8.out.below hb9)
    have x0F0_9 := Lib.hid (x0F0_8.out.below hb9)
    have x0F1_9 := Lib.hid (x0F1_8.out.below hb9)
    have x2_9 := Lib.hid (x2_8.out.below hb9)
    have x2F_9 := Lib.hid (x2F_8.out.below hb9)
    have hz9 : (w8).heap.size ≤ w9.heap.size := hb9.size
    clear hb9 o9
    go_wp2_with fail
    refine (eqIntS_same _ _ l2 _ x2_9.out S9.out).mono ?_
    rintro e w10 ⟨rfl, hb10⟩
    have B10 := Lib.hid (B9.out.trans (hb10.mono B9.out.size))
    have x0_10 := Lib.hid (x0_9.out.below hb10)
    have x0F0_10 := Lib.hid (x0F0_9.out.below hb10)
    have x0F1_10 := Lib.hid (x0F1_9.out.below hb10)
    have x2_10 := Lib.hid (x2_9.out.below hb10)
    have x2F_10 := Lib.hid (x2F_9.out.below hb10)
    have hz10 : (w9).heap.size ≤ w10.heap.size := hb10.size
    clear hb10
    -- return true
    go_wp2
    go_ret
    exact ⟨rfl, BW.out.trans (B10.out.mono hs0)⟩

set_option maxRecDepth 100000 in
theorem lifted (os : Os) (started : os.Started) (H : Type) (enc : TypeId × Value → H) :
    ReturnsInHanded {} Try.checked os 8 .any (Rows.fnExactRouteOkSpec.pre6 enc Try.prog Try.f8 Rows.fnExactRouteOkRow.domain false) (Rows.fnExactRouteOkSpec.post enc Try.prog Try.f8 false true false false) := by
  refine returnsInHanded_of_change (C := Try.checked) own started (by kernel_rfl) Try.func8
    (ChangeSpec.witness6 (enc := enc) (C := Try.checked) false ⟨#[], #[.agg #[.slice none 0 0, .slice none 0 0], .int .i64 0, .slice none 0 0], []⟩ 8 (by kernel_rfl) (by kernel_rfl) (by kernel_rfl) (by kernel_rfl)) ?_
  intro W base args ds gs before hval0 hW _ _
  have hval : ∀ (j : Nat) t v, Try.f8.params[j]? = some t → args[j]? = some v → Value.okWide Try.prog W .any base t v := hval0
  have hW' := hW
  obtain ⟨p, q, hA0, hV, rfl, _, _⟩ := hW
  have hA : DataW.TrodAll enc Try.prog W 0 (fun _ => true) true Try.f8.params.toList args.toList ds p := hA0
  rw [Try.params8] at hA hval
  obtain ⟨v0, vs0, d0, ds0, p0, q0, hargs, rfl, rfl, h0, r0⟩ := trodAll_cons hA
  obtain ⟨v1, vs1, d1, ds1, p1, q1, rfl, rfl, rfl, h1, r1⟩ := trodAll_cons r0
  obtain ⟨v2, vs2, d2, ds2, p2, q2, rfl, rfl, rfl, h2, r2⟩ := trodAll_cons r1
  obtain ⟨rfl, rfl, rfl⟩ := trodAll_nil r2
  obtain rfl : args = #[v0, v1, v2] := by cases args; simp_all
  obtain ⟨A0_0, c0_0, A0_1, c0_1, d0', rfl, g0⟩ := open_chart_arg (hval 0 46 v0 rfl rfl) h0
  obtain ⟨a1, rfl, rfl, rfl, g1⟩ := open_int Try.underlying3 (hval 1 3 v1 rfl rfl) h1
  obtain ⟨A2, c2, l2, rfl, g2⟩ := open_ints_arg (hval 2 31 v2 rfl rfl) h2
  refine (law A0_0 c0_0 A0_1 c0_1 d0' a1 A2 c2 l2 W g0 g1 g2).mono fun e W' ⟨he, hb⟩ => ⟨_, he, ?_⟩
  exact law_post laidOut (by kernel_rfl) rfl (by kernel_rfl) Try.underlying4 rfl rfl rfl hW' hb

theorem holds : Rows.FnExactRouteOkSaid :=
  OpenClaim.holds_of_wide 8 Try.f8 rfl rfl rfl rfl rfl rfl rfl ⟨rfl, rfl, rfl, rfl, rfl⟩ rfl rfl rfl rfl rfl (by kernel_rfl) Try.func8 (by kernel_rfl)
    (of_decide_eq_true (by kernel_rfl)) (by unfold Func.isWrapper; first | (rw [if_pos (by decide +kernel)]; kernel_rfl) | (rw [if_neg (by decide +kernel)]; exact ⟨rfl, rfl⟩))
    (fun os started H enc _ => lifted os started H enc)

end Go.Proofs.Ytcofldhjbidjjaa.exactRouteOk
