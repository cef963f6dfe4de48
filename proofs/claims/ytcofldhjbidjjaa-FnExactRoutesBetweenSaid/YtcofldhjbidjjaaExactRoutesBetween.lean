
/- The exact law of RoutesBetween holds for all arguments: impl.RoutesBetween answers as its model, its answer owns its memory, and the arguments read as before. No condition. -/
import Derived.Test.YtcofldhjbidjjaaRows
import Derived.Test.YtcofldhjbidjjaaKit
import Derived.Test.YtcofldhjbidjjaaRoutesLen
import Derived.Test.YtcofldhjbidjjaaChartC
import Derived.Test.YtcofldhjbidjjaaInts
import Derived.Deep.RegionHeld3
import Derived.Deep.DeepCutAuto
namespace Go.Proofs.Ytcofldhjbidjjaa.exactRoutesBetween
open Go.ChangeShapes Go.WideShapes Go.ChangeAt Go.RowKit
set_option maxRecDepth 100000

theorem own : ownKnob Try.prog.godebug = none := by kernel_rfl
theorem laidOut : laidOutB Try.prog = true := by kernel_rfl

set_option maxHeartbeats 16000000 in
theorem law (A0_0 : Option Addr) (c0_0 : Nat) (A0_1 : Option Addr) (c0_1 : Nat) (d0 : ChartD) (a1 : Int) (a2 : Int) (w : World) (hin0 : ChartIn w A0_0 A0_1 c0_0 c0_1 d0) (_ : (Lit.int .i64 a1).wf = true) (_ : (Lit.int .i64 a2).wf = true) :
    Calls Try.prog 11 #[.agg #[.slice A0_0 d0.points.length c0_0, .slice A0_1 d0.segs.length c0_1], .int .i64 a1, .int .i64 a2] w fun e w' => e = .returned (.bool true) ∧ Below w.heap.size w w' := by
  have hsz0 : SizChart w A0_0 A0_1 c0_0 c0_1 d0 := hin0
  clear hin0
  have SZ0 := Lib.hid hsz0
  obtain ⟨m0_0, s0_0, f0_0, m0_1, s0_1, f0_1⟩ := hsz0
  have SS0_0 := Lib.hid s0_0
  have SS0_1 := Lib.hid s0_1
  have WF0_0 := Lib.hid f0_0
  clear s0_0 f0_0 s0_1 f0_1
  have bp0 := bulkChart_pos d0
  have HB0 : Below w.heap.size w (w.alloc (.cells #[.slice A0_0 d0.points.length c0_0, .slice A0_1 d0.segs.length c0_1] 46)) := by
    repeat (first | exact Below.refl _ _ | refine Below.alloc ?_ (by simp <;> omega) _)
  have BW := Lib.hid HB0
  clear HB0
  go_enter Try.func11, Try.ntmps11
  have B0 := Lib.hid (Below.refl ((w.alloc (.cells #[.slice A0_0 d0.points.length c0_0, .slice A0_1 d0.segs.length c0_1] 46))).heap.size (w.alloc (.cells #[.slice A0_0 d0.points.length c0_0, .slice A0_1 d0.segs.length c0_1] 46)))
  have hs0 : w.heap.size ≤ ((w.alloc (.cells #[.slice A0_0 d0.points.length c0_0, .slice A0_1 d0.segs.length c0_1] 46))).heap.size := BW.out.size
  have ABX0 := Lib.hid (show ((w.alloc (.cells #[.slice A0_0 d0.points.length c0_0, .slice A0_1 d0.segs.length c0_1] 46))).cell? ⟨w.heap.size, 0, none⟩ = some (.slice A0_0 d0.points.length c0_0) ∧ ((w.alloc (.cells #[.slice A0_0 d0.points.length c0_0, .slice A0_1 d0.segs.length c0_1] 46))).cell? ⟨w.heap.size, 1, none⟩ = some (.slice A0_1 d0.segs.length c0_1) from by
    have hBk : Blk (w.alloc (.cells #[.slice A0_0 d0.points.length c0_0, .slice A0_1 d0.segs.length c0_1] 46)) (w.heap.size) #[.slice A0_0 d0.points.length c0_0, .slice A0_1 d0.segs.length c0_1] 46 := (Blk.newAt (by first | rfl | simp) _ _).below (by repeat (first | exact Below.refl _ _ | refine Below.alloc ?_ (by simp <;> omega) _))
    exact ⟨hBk.cell 0, hBk.cell 1⟩)
  obtain ⟨r0, hr0⟩ : ∃ r0, (rtsL d0 a1 a2) = r0 := ⟨_, rfl⟩
  have HR0 := Lib.hid hr0
  clear hr0
  -- left := 1 << 20
  -- left = szChart(aC, left)
  have y0_0 : ((w.alloc (.cells #[.slice A0_0 d0.points.length c0_0, .slice A0_1 d0.segs.length c0_1] 46))).cell? ⟨w.heap.size, 0, none⟩ = some (.slice A0_0 d0.points.length c0_0) := cell_onV (ABX0.out.1) B0.out
  have y0_1 : ((w.alloc (.cells #[.slice A0_0 d0.points.length c0_0, .slice A0_1 d0.segs.length c0_1] 46))).cell? ⟨w.heap.size, 1, none⟩ = some (.slice A0_1 d0.segs.length c0_1) := cell_onV (ABX0.out.2) B0.out
  have hl1 : 0 ≤ (1048576 : Int) := by omega
  have hll1 : (1048576 : Int) ≤ 1048576 := by omega
  go_wp2_with fail
  refine (szChart_any _ _ _ _ d0 _ (SizChart.below SZ0.out (BW.out.trans (B0.out.mono hs0))) (1048576) hl1 hll1).mono ?_
  rintro e w1 ⟨rfl, hb1⟩
  have B1 := Lib.hid (B0.out.trans (hb1.mono B0.out.size))
  have hz1 : ((w.alloc (.cells #[.slice A0_0 d0.points.length c0_0, .slice A0_1 d0.segs.length c0_1] 46))).heap.size ≤ w1.heap.size := hb1.size
  clear hb1 y0_0 y0_1
  by_cases neg1 : (1048576 : Int) < bulkChart d0
  · rw [leftOf_no neg1]
    go_wp2
    go_ret
    exact ⟨rfl, BW.out.trans (B1.out.mono hs0)⟩
  rw [leftOf_yes neg1]
  have ne1 : ¬ (1048576 - bulkChart d0 : Int) < 0 := by omega
  have le0 := bulkChart_le d0
  have R0 : Hid (RdChart w (.slice A0_0 d0.points.length c0_0) (.slice A0_1 d0.segs.length c0_1) d0) := Lib.hid ⟨SS0_0.out (by omega), SS0_1.out (by omega)⟩
  -- w0 := spec.RoutesBetween(toChart(aC), aFrom, aTo)
  have y0_0 : (w1).cell? ⟨w.heap.size, 0, none⟩ = some (.slice A0_0 d0.points.length c0_0) := cell_onV (ABX0.out.1) B1.out
  have y0_1 : (w1).cell? ⟨w.heap.size, 1, none⟩ = some (.slice A0_1 d0.segs.length c0_1) := cell_onV (ABX0.out.2) B1.out
  go_wp2_with fail
  refine (toChart_any _ _ d0 _ (R0.out.below (BW.out.trans (B1.out.mono hs0)))).mono ?_
  intro e w2 hN
  obtain ⟨u2_0, u2_1, rfl, o2_0, o2_1, ap2_0_1, hb2⟩ := hN
  have S2_0 := Lib.hid (OwnPoint.sl o2_0 (by omega))
  have RG2_0 := Lib.hid (own_range o2_0)
  have FR2_0 := Lib.hid (own_freeV o2_0)
  obtain ⟨D2_0, k2_0, rfl⟩ := own_form o2_0
  have S2_1 := Lib.hid (OwnSegment.sl o2_1 (by omega))
  have RG2_1 := Lib.hid (own_range o2_1)
  have FR2_1 := Lib.hid (own_freeV o2_1)
  obtain ⟨D2_1, k2_1, rfl⟩ := own_form o2_1
  have AP2_0_1 := Lib.hid ap2_0_1
  clear ap2_0_1
  have B2 := Lib.hid (B1.out.trans (hb2.mono B1.out.size))
  have hz2 : (w1).heap.size ≤ w2.heap.size := hb2.size
  clear hb2 o2_0 o2_1 y0_0 y0_1
  have hlen : r0.length ≤ 10000000 ∧ sumLen r0 ≤ 80000000 ∧ ∀ l ∈ r0, l.length ≤ 10000000 := by rw [← HR0.out]; exact rtsL_bounds d0 a1 a2
  obtain ⟨hlen, hsum, heach⟩ := hlen
  have HEACH := Lib.hid heach
  clear heach
  go_wp2_with fail
  refine (specRoutesBetween _ _ d0 a1 a2 _ ⟨S2_0.out, S2_1.out⟩ WF0_0.out).mono ?_
  intro e w3 hN
  rw [HR0.out] at hN
  obtain ⟨u3, rfl, o3, hb3⟩ := hN
  obtain ⟨vs3, D3, k3, rfl, len3, s3, rg3, rgs3, fr3, pw3, ap3, sh3⟩ := o3.parts hlen hsum
  have S3 := Lib.hid s3
  have RG3 := Lib.hid rg3
  have RGS3 := Lib.hid rgs3
  have FR3 := Lib.hid fr3
  have PW3 := Lib.hid pw3
  have APV3 := Lib.hid ap3
  have SHP3 := Lib.hid sh3
  have lb3 : vs3.length ≤ 10000000 := by omega
  clear s3 rg3 rgs3 fr3 pw3 ap3 sh3 len3
  have B3 := Lib.hid (B2.out.trans (hb3.mono B2.out.size))
  have t2_0_3 := Lib.hid (S2_0.out.below hb3)
  have t2_1_3 := Lib.hid (S2_1.out.below hb3)
  have hz3 : (w2).heap.size ≤ w3.heap.size := hb3.size
  clear o3
  clear hb3 
  -- x0 := toChart(aC)
  have y0_0 : (w3).cell? ⟨w.heap.size, 0, none⟩ = some (.slice A0_0 d0.points.length c0_0) := cell_onV (ABX0.out.1) B3.out
  have y0_1 : (w3).cell? ⟨w.heap.size, 1, none⟩ = some (.slice A0_1 d0.segs.length c0_1) := cell_onV (ABX0.out.2) B3.out
  go_wp2_with fail
  refine (toChart_any _ _ d0 _ (R0.out.below (BW.out.trans (B3.out.mono hs0)))).mono ?_
  intro e w4 hN
  obtain ⟨u4_0, u4_1, rfl, o4_0, o4_1, ap4_0_1, hb4⟩ := hN
  have S4_0 := Lib.hid (OwnPoint.sl o4_0 (by omega))
  have RG4_0 := Lib.hid (own_range o4_0)
  have FR4_0 := Lib.hid (own_freeV o4_0)
  obtain ⟨D4_0, k4_0, rfl⟩ := own_form o4_0
  have S4_1 := Lib.hid (OwnSegment.sl o4_1 (by omega))
  have RG4_1 := Lib.hid (own_range o4_1)
  have FR4_1 := Lib.hid (own_freeV o4_1)
  obtain ⟨D4_1, k4_1, rfl⟩ := own_form o4_1
  have AP4_0_1 := Lib.hid ap4_0_1
  clear ap4_0_1
  have B4 := Lib.hid (B3.out.trans (hb4.mono B3.out.size))
  have w0_4 := Lib.hid (S3.out.below hb4)
  have w0F_4 := Lib.hid (FR3.out.below hb4)
  have hz4 : (w3).heap.size ≤ w4.heap.size := hb4.size
  clear hb4 o4_0 o4_1 y0_0 y0_1
  have BX_x0 := Lib.hid (ChartBox.new 26 (show RdChart w4 (.slice D4_0 d0.points.length k4_0) (.slice D4_1 d0.segs.length k4_1) d0 from ⟨S4_0.out, S4_1.out⟩))
  have hb4b := Joins.below_alloc1 w4 (.cells #[.slice D4_0 d0.points.length k4_0, .slice D4_1 d0.segs.length k4_1] 26)
  have B4x := Lib.hid (B4.out.trans (hb4b.mono B4.out.size))
  have w0_4x := Lib.hid (w0_4.out.below hb4b)
  have w0F_4x := Lib.hid (w0F_4.out.below hb4b)
  have FX_x0_0 := Lib.hid (FR4_0.out.below hb4b)
  have FX_x0_1 := Lib.hid (FR4_1.out.below hb4b)
  clear hb4b
  have hsx4 : ((w4.alloc (.cells #[.slice D4_0 d0.points.length k4_0, .slice D4_1 d0.segs.length k4_1] 26))).heap.size = w4.heap.size + 1 := by simp
  -- g0 := impl.RoutesBetween(x0, aFrom, aTo)
  obtain ⟨z_x0_0, z_x0_1, _⟩ := BX_x0.out
  go_wp2_with fail
  refine (implRoutesBetween _ _ d0 a1 a2 _ BX_x0.out.2.2 WF0_0.out).mono ?_
  intro e w5 hN
  rw [HR0.out] at hN
  obtain ⟨u5, rfl, o5, hb5⟩ := hN
  obtain ⟨vs5, D5, k5, rfl, len5, s5, rg5, rgs5, fr5, pw5, ap5, sh5⟩ := o5.parts hlen hsum
  have S5 := Lib.hid s5
  have RG5 := Lib.hid rg5
  have RGS5 := Lib.hid rgs5
  have FR5 := Lib.hid fr5
  have PW5 := Lib.hid pw5
  have APV5 := Lib.hid ap5
  have SHP5 := Lib.hid sh5
  have lb5 : vs5.length ≤ 10000000 := by omega
  clear s5 rg5 rgs5 fr5 pw5 ap5 sh5 len5
  have B5 := Lib.hid (B4x.out.trans (hb5.mono B4x.out.size))
  have w0_5 := Lib.hid (w0_4x.out.below hb5)
  have w0F_5 := Lib.hid (w0F_4x.out.below hb5)
  have x0_5 := Lib.hid (BX_x0.out.below hb5)
  have x0F0_5 := Lib.hid (FX_x0_0.out.below hb5)
  have x0F1_5 := Lib.hid (FX_x0_1.out.below hb5)
  have hz5 : ((w4.alloc (.cells #[.slice D4_0 d0.points.length k4_0, .slice D4_1 d0.segs.length k4_1] 26))).heap.size ≤ w5.heap.size := hb5.size
  clear o5
  clear hb5 z_x0_0 z_x0_1
  -- if !eqIntSS(g0, w0) {
  go_wp2_with fail
  refine (eqIntSS_same _ _ _ _ r0 _ S5.out w0_5.out).mono ?_
  rintro e w6 ⟨rfl, hb6⟩
  have B6 := Lib.hid (B5.out.trans (hb6.mono B5.out.size))
  have w0_6 := Lib.hid (w0_5.out.below hb6)
  have w0F_6 := Lib.hid (w0F_5.out.below hb6)
  have x0_6 := Lib.hid (x0_5.out.below hb6)
  have x0F0_6 := Lib.hid (x0F0_5.out.below hb6)
  have x0F1_6 := Lib.hid (x0F1_5.out.below hb6)
  have g0_6 := Lib.hid (S5.out.below hb6)
  have g0F_6 := Lib.hid (FR5.out.below hb6)
  have hz6 : (w5).heap.size ≤ w6.heap.size := hb6.size
  clear hb6
  -- if !eqChart(x0, toChart(aC)) {
  have y0_0 : (w6).cell? ⟨w.heap.size, 0, none⟩ = some (.slice A0_0 d0.points.length c0_0) := cell_onV (ABX0.out.1) B6.out
  have y0_1 : (w6).cell? ⟨w.heap.size, 1, none⟩ = some (.slice A0_1 d0.segs.length c0_1) := cell_onV (ABX0.out.2) B6.out
  obtain ⟨z_x0_0, z_x0_1, _⟩ := x0_6.out
  have DD := Lib.hid ((Below.refl (w6).heap.size (w6)).drew)
  go_upto_region 10 with fail
  go_cut [39] (fun sL wx => sL = .bool false ∧ Hid (Below (w6).heap.size (w6) wx))
  case first =>
    refine wp_region_held_drew (S := (fun w' => w'.cell? ⟨w4.heap.size, 0, none⟩ = some (.slice D4_0 d0.points.length k4_0) ∧ w'.cell? ⟨w4.heap.size, 1, none⟩ = some (.slice D4_1 d0.segs.length k4_1) ∧ w'.cell? ⟨w.heap.size, 0, none⟩ = some (.slice A0_0 d0.points.length c0_0) ∧ w'.cell? ⟨w.heap.size, 1, none⟩ = some (.slice A0_1 d0.segs.length c0_1) ∧ Hid (Below (w6).heap.size (w6) w'))) (by kernel_rfl) ?_ (fun hHeld => ?_)
    · (try dsimp only); go_keep
    refine wpAnyH_take (i := 0) (v := ?_) (by simp only [List.getElem?_toArray, List.getElem?_cons_zero]; rfl) (by kernel_rfl) (by kernel_rfl) (by kernel_rfl) (by exact fun _ _ _ h => h) (Or.inl ⟨by rfl, ?_⟩) (by assumption) ?_; rotate_left; focus (intro w hSw; (try dsimp only at hSw); first | (go_simp; done) | (go_simp; with_reducible rfl))
    try simp only [Act.put, List.setIfInBounds_toArray, List.set_cons_zero, List.set_cons_succ]
    refine wpAnyH_take (i := 1) (v := ?_) (by simp only [List.getElem?_toArray, List.getElem?_cons_succ, List.getElem?_cons_zero]; rfl) (by kernel_rfl) (by kernel_rfl) (by kernel_rfl) (by exact fun _ _ _ h => h) (Or.inl ⟨by rfl, ?_⟩) (by assumption) ?_; rotate_left; focus (intro w hSw; (try dsimp only at hSw); first | (go_simp; done) | (go_simp; with_reducible rfl))
    try simp only [Act.put, List.setIfInBounds_toArray, List.set_cons_zero, List.set_cons_succ]
    refine wpAnyH_ready (rs := [2]) (by kernel_rfl) (by simp) ?_
    refine AllReadyH.cons rfl (fun K hK => ?_) AllReadyH.nil
    rw [if_pos (by rfl)]
    go_simp
    go_at_call 26
    have kB := hHeld.2.2.2.2
    refine (toChart_any _ _ d0 _ (R0.out.below (BW.out.trans ((B6.out.trans (kB.out.mono B6.out.size)).mono hs0)))).mono ?_
    intro e wt hN
    obtain ⟨Q0, q0, Q1, q1, rfl, hRD, hbk⟩ := hN.rd (by omega) (by omega)
    have HRD := Lib.hid hRD
    have HBK := kB.out.trans (hbk.mono kB.out.size)
    have QS := Lib.hid (show wt.cell? ⟨w4.heap.size, 0, none⟩ = some (.slice D4_0 d0.points.length k4_0) ∧ wt.cell? ⟨w4.heap.size, 1, none⟩ = some (.slice D4_1 d0.segs.length k4_1) ∧ wt.cell? ⟨w.heap.size, 0, none⟩ = some (.slice A0_0 d0.points.length c0_0) ∧ wt.cell? ⟨w.heap.size, 1, none⟩ = some (.slice A0_1 d0.segs.length c0_1) ∧ Hid (Below (w6).heap.size (w6) wt) from ⟨(x0_6.out.below HBK).1, (x0_6.out.below HBK).2.1, cell_onV (cell_onV (ABX0.out.1) B6.out) HBK, cell_onV (cell_onV (ABX0.out.2) B6.out) HBK, Lib.hid HBK⟩)
    clear hbk kB hHeld hN hRD HBK
    go_simp
    refine hK.out _ _ ?_ (fun hHeld => ?_)
    · (try dsimp only); exact QS.out
    clear hK K
    try simp only [Act.put, List.setIfInBounds_toArray, List.set_cons_zero, List.set_cons_succ]
    refine wpAnyH_ready (rs := [3]) (by kernel_rfl) (by simp) ?_
    refine AllReadyH.cons rfl (fun K hK => ?_) AllReadyH.nil
    rw [if_pos (by rfl)]
    go_simp
    go_at_call 27
    have kB := hHeld.2.2.2.2
    refine (eqChart_same _ _ _ _ d0 _ (x0_6.out.below kB.out).2.2 HRD.out).mono ?_
    rintro e wq ⟨rfl, hbk⟩
    have HBK := kB.out.trans (hbk.mono kB.out.size)
    have QQ := Lib.hid (show wq.cell? ⟨w4.heap.size, 0, none⟩ = some (.slice D4_0 d0.points.length k4_0) ∧ wq.cell? ⟨w4.heap.size, 1, none⟩ = some (.slice D4_1 d0.segs.length k4_1) ∧ wq.cell? ⟨w.heap.size, 0, none⟩ = some (.slice A0_0 d0.points.length c0_0) ∧ wq.cell? ⟨w.heap.size, 1, none⟩ = some (.slice A0_1 d0.segs.length c0_1) ∧ Hid (Below (w6).heap.size (w6) wq) from ⟨(x0_6.out.below HBK).1, (x0_6.out.below HBK).2.1, cell_onV (cell_onV (ABX0.out.1) B6.out) HBK, cell_onV (cell_onV (ABX0.out.2) B6.out) HBK, Lib.hid HBK⟩)
    clear hbk kB hHeld HBK
    go_simp
    refine hK.out _ _ ?_ (fun hHeld => ?_)
    · (try dsimp only); exact QQ.out
    clear hK K
    try simp only [Act.put, List.setIfInBounds_toArray, List.set_cons_zero, List.set_cons_succ]
    refine wpAnyH_take (i := 4) (v := ?_) (by simp only [List.getElem?_toArray, List.getElem?_cons_succ, List.getElem?_cons_zero]; rfl) (by kernel_rfl) (by kernel_rfl) (by kernel_rfl) (by exact fun _ _ _ h => h) (Or.inl ⟨by rfl, ?_⟩) (by assumption) ?_; rotate_left; focus (intro w hSw; (try dsimp only at hSw); first | (go_simp; done) | (go_simp; with_reducible rfl))
    try simp only [Act.put, List.setIfInBounds_toArray, List.set_cons_zero, List.set_cons_succ]
    refine wpAnyH_done (by kernel_rfl) ?_ _
    go_wp2_with fail
    go_meet
    exact ⟨rfl, hHeld.2.2.2.2⟩
  case rest =>
    obtain ⟨rfl, hbH⟩ := hcut
    have hb7 := hbH.out
    obtain ⟨w7, rfl⟩ : ∃ W, W = wc := ⟨_, rfl⟩
    clear hbH DD y0_0 y0_1 z_x0_0 z_x0_1
    have B7 := Lib.hid (B6.out.trans (hb7.mono B6.out.size))
    have w0_7 := Lib.hid (w0_6.out.below hb7)
    have w0F_7 := Lib.hid (w0F_6.out.below hb7)
    have x0_7 := Lib.hid (x0_6.out.below hb7)
    have x0F0_7 := Lib.hid (x0F0_6.out.below hb7)
    have x0F1_7 := Lib.hid (x0F1_6.out.below hb7)
    have g0_7 := Lib.hid (g0_6.out.below hb7)
    have g0F_7 := Lib.hid (g0F_6.out.below hb7)
    have hz7 : (w6).heap.size ≤ w7.heap.size := hb7.size
    clear hb7
    -- k := 1
    -- k = markChart(x0, k)
    obtain ⟨z_x0_0, z_x0_1, _⟩ := x0_7.out
    go_wp2_with fail
    refine (markChart_any _ _ d0 (1) _ _ _ x0_7.out.2.2 x0F0_7.out x0F1_7.out RG4_0.out RG4_1.out AP4_0_1.out (by omega) (by omega) (by omega) (by omega)).mono ?_
    rintro e w8 ⟨rfl, mm8_0, mm8_1, ht8⟩
    have B8 := Lib.hid (TouchR.below B7.out ht8 B7.out.size (by omega))
    have w0_8 := Lib.hid (SlLL.touch w0_7.out ht8 RG3.out RGS3.out (by omega))
    have w0F_8 := Lib.hid (FreeVs.touch w0F_7.out ht8 RGS3.out (by omega))
    have g0_8 := Lib.hid (SlLL.touch g0_7.out ht8 RG5.out RGS5.out (by omega))
    have g0F_8 := Lib.hid (FreeVs.touch g0F_7.out ht8 RGS5.out (by omega))
    have hz8 : (w7).heap.size ≤ w8.heap.size := ht8.size
    clear ht8 mm8_0 mm8_1 z_x0_0 z_x0_1
    -- if k < 0 || !eqIntSS(g0, w0) {
    go_wp2_with fail
    refine (eqIntSS_same _ _ _ _ r0 _ g0_8.out w0_8.out).mono ?_
    rintro e w9 ⟨rfl, hb9⟩
    have B9 := Lib.hid (B8.out.trans (hb9.mono B8.out.size))
    have w0_9 := Lib.hid (w0_8.out.below hb9)
    have w0F_9 := Lib.hid (w0F_8.out.below hb9)
    have g0_9 := Lib.hid (g0_8.out.below hb9)
    have g0F_9 := Lib.hid (g0F_8.out.below hb9)
    have hz9 : (w8).heap.size ≤ w9.heap.size := hb9.size
    clear hb9
    -- m := 1
    -- m = markIntSS(g0, m)
    go_wp2_with fail
    refine (markIntSS_any _ _ r0 (1) _ _ _ g0_9.out g0F_9.out RG5.out RGS5.out PW5.out APV5.out (by omega) (by omega) (by omega) (by omega) HEACH.out).mono ?_
    rintro e w10 ⟨rfl, mo10, mm10, ht10⟩
    have B10 := Lib.hid (TouchR.below B9.out ht10 B9.out.size (by omega))
    have w0_10 := Lib.hid (SlLL.touch w0_9.out ht10 RG3.out RGS3.out (by omega))
    have w0F_10 := Lib.hid (FreeVs.touch w0F_9.out ht10 RGS3.out (by omega))
    have hz10 : (w9).heap.size ≤ w10.heap.size := ht10.size
    have MK_g0 := Lib.hid mm10
    have MO_g0 := Lib.hid mo10
    clear ht10 mo10 mm10
    -- q := 1
    -- q = heldIntSS(g0, q)
    go_wp2_with fail
    refine (heldIntSS_any _ _ r0 (1) _ MO_g0.out SHP5.out MK_g0.out (by omega) (by omega) (by omega) (by omega) HEACH.out).mono ?_
    rintro e w11 ⟨rfl, hb11⟩
    have B11 := Lib.hid (B10.out.trans (hb11.mono B10.out.size))
    have w0_11 := Lib.hid (w0_10.out.below hb11)
    have w0F_11 := Lib.hid (w0F_10.out.below hb11)
    have mkg0_11 := Lib.hid (MK_g0.out.below hb11)
    have mog0_11 := Lib.hid (MO_g0.out.below hb11)
    have hz11 : (w10).heap.size ≤ w11.heap.size := hb11.size
    clear hb11
    -- if q < 0 {
    -- if q != m {
    -- h0 := impl.RoutesBetween(toChart(aC), aFrom, aTo)
    have y0_0 : (w11).cell? ⟨w.heap.size, 0, none⟩ = some (.slice A0_0 d0.points.length c0_0) := cell_onV (ABX0.out.1) B11.out
    have y0_1 : (w11).cell? ⟨w.heap.size, 1, none⟩ = some (.slice A0_1 d0.segs.length c0_1) := cell_onV (ABX0.out.2) B11.out
    go_wp2_with fail
    refine (toChart_any _ _ d0 _ (R0.out.below (BW.out.trans (B11.out.mono hs0)))).mono ?_
    intro e w12 hN
    obtain ⟨u12_0, u12_1, rfl, o12_0, o12_1, ap12_0_1, hb12⟩ := hN
    have S12_0 := Lib.hid (OwnPoint.sl o12_0 (by omega))
    have RG12_0 := Lib.hid (own_range o12_0)
    have FR12_0 := Lib.hid (own_freeV o12_0)
    obtain ⟨D12_0, k12_0, rfl⟩ := own_form o12_0
    have S12_1 := Lib.hid (OwnSegment.sl o12_1 (by omega))
    have RG12_1 := Lib.hid (own_range o12_1)
    have FR12_1 := Lib.hid (own_freeV o12_1)
    obtain ⟨D12_1, k12_1, rfl⟩ := own_form o12_1
    have AP12_0_1 := Lib.hid ap12_0_1
    clear ap12_0_1
    have B12 := Lib.hid (B11.out.trans (hb12.mono B11.out.size))
    have w0_12 := Lib.hid (w0_11.out.below hb12)
    have w0F_12 := Lib.hid (w0F_11.out.below hb12)
    have mkg0_12 := Lib.hid (mkg0_11.out.below hb12)
    have mog0_12 := Lib.hid (mog0_11.out.below hb12)
    have hz12 : (w11).heap.size ≤ w12.heap.size := hb12.size
    clear hb12 o12_0 o12_1 y0_0 y0_1
    go_wp2_with fail
    refine (implRoutesBetween _ _ d0 a1 a2 _ ⟨S12_0.out, S12_1.out⟩ WF0_0.out).mono ?_
    intro e w13 hN
    rw [HR0.out] at hN
    obtain ⟨u13, rfl, o13, hb13⟩ := hN
    obtain ⟨vs13, D13, k13, rfl, len13, s13, rg13, rgs13, fr13, pw13, ap13, sh13⟩ := o13.parts hlen hsum
    have S13 := Lib.hid s13
    have RG13 := Lib.hid rg13
    have RGS13 := Lib.hid rgs13
    have FR13 := Lib.hid fr13
    have PW13 := Lib.hid pw13
    have APV13 := Lib.hid ap13
    have SHP13 := Lib.hid sh13
    have lb13 : vs13.length ≤ 10000000 := by omega
    clear s13 rg13 rgs13 fr13 pw13 ap13 sh13 len13
    have B13 := Lib.hid (B12.out.trans (hb13.mono B12.out.size))
    have w0_13 := Lib.hid (w0_12.out.below hb13)
    have w0F_13 := Lib.hid (w0F_12.out.below hb13)
    have mkg0_13 := Lib.hid (mkg0_12.out.below hb13)
    have mog0_13 := Lib.hid (mog0_12.out.below hb13)
    have t12_0_13 := Lib.hid (S12_0.out.below hb13)
    have t12_1_13 := Lib.hid (S12_1.out.below hb13)
    have hz13 : (w12).heap.size ≤ w13.heap.size := hb13.size
    clear o13
    clear hb13 
    -- if !eqIntSS(h0, w0) {
    go_wp2_with fail
    refine (eqIntSS_same _ _ _ _ r0 _ S13.out w0_13.out).mono ?_
    rintro e w14 ⟨rfl, hb14⟩
    have B14 := Lib.hid (B13.out.trans (hb14.mono B13.out.size))
    have w0_14 := Lib.hid (w0_13.out.below hb14)
    have w0F_14 := Lib.hid (w0F_13.out.below hb14)
    have mkg0_14 := Lib.hid (mkg0_13.out.below hb14)
    have mog0_14 := Lib.hid (mog0_13.out.below hb14)
    have h0_14 := Lib.hid (S13.out.below hb14)
    have h0F_14 := Lib.hid (FR13.out.below hb14)
    have hz14 : (w13).heap.size ≤ w14.heap.size := hb14.size
    clear hb14
    -- q = 1
    -- q = heldIntSS(g0, q)
    go_wp2_with fail
    refine (heldIntSS_any _ _ r0 (1) _ mog0_14.out SHP5.out mkg0_14.out (by omega) (by omega) (by omega) (by omega) HEACH.out).mono ?_
    rintro e w15 ⟨rfl, hb15⟩
    have B15 := Lib.hid (B14.out.trans (hb15.mono B14.out.size))
    have w0_15 := Lib.hid (w0_14.out.below hb15)
    have w0F_15 := Lib.hid (w0F_14.out.below hb15)
    have mkg0_15 := Lib.hid (mkg0_14.out.below hb15)
    have mog0_15 := Lib.hid (mog0_14.out.below hb15)
    have h0_15 := Lib.hid (h0_14.out.below hb15)
    have h0F_15 := Lib.hid (h0F_14.out.below hb15)
    have hz15 : (w14).heap.size ≤ w15.heap.size := hb15.size
    clear hb15
    -- if q < 0 {
    -- if q != m {
    -- return true
    go_wp2
    go_ret
    exact ⟨rfl, BW.out.trans (B15.out.mono hs0)⟩

set_option maxRecDepth 100000 in
theorem lifted (os : Os) (started : os.Started) (H : Type) (enc : TypeId × Value → H) :
    ReturnsInHanded {} Try.checked os 11 .any (Rows.fnExactRoutesBetweenSpec.pre6 enc Try.prog Try.f11 Rows.fnExactRoutesBetweenRow.domain false) (Rows.fnExactRoutesBetweenSpec.post enc Try.prog Try.f11 false true false false) := by
  refine returnsInHanded_of_change (C := Try.checked) own started (by kernel_rfl) Try.func11
    (ChangeSpec.witness6 (enc := enc) (C := Try.checked) false ⟨#[], #[.agg #[.slice none 0 0, .slice none 0 0], .int .i64 0, .int .i64 0], []⟩ 8 (by kernel_rfl) (by kernel_rfl) (by kernel_rfl) (by kernel_rfl)) ?_
  intro W base args ds gs before hval0 hW _ _
  have hval : ∀ (j : Nat) t v, Try.f11.params[j]? = some t → args[j]? = some v → Value.okWide Try.prog W .any base t v := hval0
  have hW' := hW
  obtain ⟨p, q, hA0, hV, rfl, _, _⟩ := hW
  have hA : DataW.TrodAll enc Try.prog W 0 (fun _ => true) true Try.f11.params.toList args.toList ds p := hA0
  rw [Try.params11] at hA hval
  obtain ⟨v0, vs0, d0, ds0, p0, q0, hargs, rfl, rfl, h0, r0⟩ := trodAll_cons hA
  obtain ⟨v1, vs1, d1, ds1, p1, q1, rfl, rfl, rfl, h1, r1⟩ := trodAll_cons r0
  obtain ⟨v2, vs2, d2, ds2, p2, q2, rfl, rfl, rfl, h2, r2⟩ := trodAll_cons r1
  obtain ⟨rfl, rfl, rfl⟩ := trodAll_nil r2
  obtain rfl : args = #[v0, v1, v2] := by cases args; simp_all
  obtain ⟨A0_0, c0_0, A0_1, c0_1, d0', rfl, g0⟩ := open_chart_arg (hval 0 46 v0 rfl rfl) h0
  obtain ⟨a1, rfl, rfl, rfl, g1⟩ := open_int Try.underlying3 (hval 1 3 v1 rfl rfl) h1
  obtain ⟨a2, rfl, rfl, rfl, g2⟩ := open_int Try.underlying3 (hval 2 3 v2 rfl rfl) h2
  refine (law A0_0 c0_0 A0_1 c0_1 d0' a1 a2 W g0 g1 g2).mono fun e W' ⟨he, hb⟩ => ⟨_, he, ?_⟩
  exact law_post laidOut (by kernel_rfl) rfl (by kernel_rfl) Try.underlying4 rfl rfl rfl hW' hb

theorem holds : Rows.FnExactRoutesBetweenSaid :=
  OpenClaim.holds_of_wide 11 Try.f11 rfl rfl rfl rfl rfl rfl rfl ⟨rfl, rfl, rfl, rfl, rfl⟩ rfl rfl rfl rfl rfl (by kernel_rfl) Try.func11 (by kernel_rfl)
    (of_decide_eq_true (by kernel_rfl)) (by unfold Func.isWrapper; first | (rw [if_pos (by decide +kernel)]; kernel_rfl) | (rw [if_neg (by decide +kernel)]; exact ⟨rfl, rfl⟩))
    (fun os started H enc _ => lifted os started H enc)

end Go.Proofs.Ytcofldhjbidjjaa.exactRoutesBetween
