
/- The exact law of IsChain holds for all arguments: impl.IsChain answers as its model, and the arguments read as before. No condition. -/
import Derived.Test.YtooeikimoheecaaRows
import Derived.Test.YtooeikimoheecaaPa0
import Derived.Test.YtooeikimoheecaaPa23
import Derived.Test.YtooeikimoheecaaPa19
import Derived.Test.YtooeikimoheecaaPa7
import Derived.Deep.RegionHeld3
import Derived.Deep.DeepCutAuto
namespace Go.Proofs.Ytooeikimoheecaa.exactIsChain
open Go.ChangeShapes Go.WideShapes Go.ChangeAt Go.RowKit
set_option maxRecDepth 100000
theorem own : ownKnob Try.prog.godebug = none := by kernel_rfl
theorem laidOut : laidOutB Try.prog = true := by kernel_rfl
set_option maxHeartbeats 16000000 in
theorem law (A0_0 : Option Addr) (c0_0 : Nat) (A0_1 : Option Addr) (c0_1 : Nat) (d0 : ChartD) (A1 : Option Addr) (c1 : Nat) (l1 : List PassageD) (w : World) (hin0 : ChartIn w A0_0 A0_1 c0_0 c0_1 d0) (hin1 : l1.length ≤ maxLen ∧ (l1.length ≤ 1000000000 → SlPassage w (.slice A1 l1.length c1) l1) ∧ ∀ x ∈ l1, PassageD.wf x) :
    Calls Try.prog 7 #[.agg #[.slice A0_0 d0.points.length c0_0, .slice A0_1 d0.segs.length c0_1], .slice A1 l1.length c1] w fun e w' => e = .returned (.bool true) ∧ Below w.heap.size w w' := by
  have hsz0 : SizChart w A0_0 A0_1 c0_0 c0_1 d0 := hin0
  clear hin0
  have SZ0 := Lib.hid hsz0
  obtain ⟨m0_0, s0_0, f0_0, m0_1, s0_1, f0_1⟩ := hsz0
  have SS0_0 := Lib.hid s0_0
  have SS0_1 := Lib.hid s0_1
  have WF0_0 := Lib.hid f0_0
  clear s0_0 f0_0 s0_1 f0_1
  have bp0 := bulkChart_pos d0
  obtain ⟨m1, s1, f1⟩ := hin1
  unfold maxLen at m1
  have SS1 := Lib.hid s1
  have FF1 := Lib.hid f1
  clear s1 f1
  have HB0 : Below w.heap.size w (w.alloc (.cells #[.slice A0_0 d0.points.length c0_0, .slice A0_1 d0.segs.length c0_1] 58)) := by
    repeat (first | exact Below.refl _ _ | refine Below.alloc ?_ (by simp <;> omega) _)
  have BW := Lib.hid HB0
  clear HB0
  go_enter Try.func7, Try.ntmps7
  have B0 := Lib.hid (Below.refl ((w.alloc (.cells #[.slice A0_0 d0.points.length c0_0, .slice A0_1 d0.segs.length c0_1] 58))).heap.size (w.alloc (.cells #[.slice A0_0 d0.points.length c0_0, .slice A0_1 d0.segs.length c0_1] 58)))
  have hs0 : w.heap.size ≤ ((w.alloc (.cells #[.slice A0_0 d0.points.length c0_0, .slice A0_1 d0.segs.length c0_1] 58))).heap.size := BW.out.size
  have ABX0 := Lib.hid (show ((w.alloc (.cells #[.slice A0_0 d0.points.length c0_0, .slice A0_1 d0.segs.length c0_1] 58))).cell? ⟨w.heap.size, 0, none⟩ = some (.slice A0_0 d0.points.length c0_0) ∧ ((w.alloc (.cells #[.slice A0_0 d0.points.length c0_0, .slice A0_1 d0.segs.length c0_1] 58))).cell? ⟨w.heap.size, 1, none⟩ = some (.slice A0_1 d0.segs.length c0_1) from by
    have hBk0 : Blk (w.alloc (.cells #[.slice A0_0 d0.points.length c0_0, .slice A0_1 d0.segs.length c0_1] 58)) (w.heap.size) #[.slice A0_0 d0.points.length c0_0, .slice A0_1 d0.segs.length c0_1] 58 := Blk.newAt (w := w) (by first | rfl | simp) _ _
    have hBk : Blk (w.alloc (.cells #[.slice A0_0 d0.points.length c0_0, .slice A0_1 d0.segs.length c0_1] 58)) (w.heap.size) #[.slice A0_0 d0.points.length c0_0, .slice A0_1 d0.segs.length c0_1] 58 := hBk0.below (by repeat (first | exact Below.refl _ _ | refine Below.alloc ?_ (by simp) _))
    exact ⟨hBk.cell 0, hBk.cell 1⟩)
  obtain ⟨r0, hr0⟩ : ∃ r0, (chainB d0 l1) = r0 := ⟨_, rfl⟩
  have HR0 := Lib.hid hr0
  clear hr0
  -- left := 1 << 20
  -- left = szChart(aC, left)
  have y0_0 : ((w.alloc (.cells #[.slice A0_0 d0.points.length c0_0, .slice A0_1 d0.segs.length c0_1] 58))).cell? ⟨w.heap.size, 0, none⟩ = some (.slice A0_0 d0.points.length c0_0) := cell_onV (ABX0.out.1) B0.out
  have y0_1 : ((w.alloc (.cells #[.slice A0_0 d0.points.length c0_0, .slice A0_1 d0.segs.length c0_1] 58))).cell? ⟨w.heap.size, 1, none⟩ = some (.slice A0_1 d0.segs.length c0_1) := cell_onV (ABX0.out.2) B0.out
  have hl1 : 0 ≤ (1048576 : Int) := by omega
  have hll1 : (1048576 : Int) ≤ 1048576 := by omega
  go_wp2_with fail
  refine (szChart_any _ _ _ _ d0 _ (SizChart.below SZ0.out (BW.out.trans (B0.out.mono hs0))) (1048576) hl1 hll1).mono ?_
  rintro e w1 ⟨rfl, hb1⟩
  have B1 := Lib.hid (B0.out.trans (hb1.mono B0.out.size))
  have hz1 : ((w.alloc (.cells #[.slice A0_0 d0.points.length c0_0, .slice A0_1 d0.segs.length c0_1] 58))).heap.size ≤ w1.heap.size := hb1.size
  clear hb1 y0_0 y0_1
  by_cases neg1 : (1048576 : Int) < bulkChart d0
  · rw [leftOf_no neg1]
    go_wp2
    go_ret
    exact ⟨rfl, BW.out.trans (B1.out.mono hs0)⟩
  rw [leftOf_yes neg1]
  have ne1 : ¬ (1048576 - bulkChart d0 : Int) < 0 := by omega
  have le0 := bulkChart_le d0
  have R0 : Hid (RdChart w (.slice A0_0 d0.points.length c0_0) (.slice A0_1 d0.segs.length c0_1) d0) := Lib.hid ⟨SS0_0.out (by omega), SS0_1.out (by omega)⟩
  -- left = szPassageS(aList, left)
  have hl2 : 0 ≤ (1048576 - bulkChart d0 : Int) := by omega
  have hll2 : (1048576 - bulkChart d0 : Int) ≤ 1048576 := by omega
  go_wp2_with fail
  refine (szPassageS_any A1 l1 c1 _ (by omega) (fun h => (SS1.out h).below (BW.out.trans (B1.out.mono hs0))) (1048576 - bulkChart d0) hl2 hll2).mono ?_
  rintro e w2 ⟨rfl, hb2⟩
  have B2 := Lib.hid (B1.out.trans (hb2.mono B1.out.size))
  have hz2 : (w1).heap.size ≤ w2.heap.size := hb2.size
  clear hb2 
  have ps2 := bulkPassage_pos l1
  by_cases neg2 : (1048576 - bulkChart d0 : Int) < ((l1.length : Int) + bulkPassage l1)
  · rw [leftOf_no neg2]
    go_wp2
    go_ret
    exact ⟨rfl, BW.out.trans (B2.out.mono hs0)⟩
  rw [leftOf_yes neg2]
  have ne2 : ¬ (1048576 - bulkChart d0 - ((l1.length : Int) + bulkPassage l1) : Int) < 0 := by omega
  have R1 := Lib.hid (SS1.out (by omega))
  clear SS1
  -- w0 := spec.IsChain(toChart(aC), toPassageS(aList))
  have y0_0 : (w2).cell? ⟨w.heap.size, 0, none⟩ = some (.slice A0_0 d0.points.length c0_0) := cell_onV (ABX0.out.1) B2.out
  have y0_1 : (w2).cell? ⟨w.heap.size, 1, none⟩ = some (.slice A0_1 d0.segs.length c0_1) := cell_onV (ABX0.out.2) B2.out
  go_wp2_with fail
  refine (toChart_any _ _ d0 _ (R0.out.below (BW.out.trans (B2.out.mono hs0)))).mono ?_
  intro e w3 hN
  obtain ⟨u3_0, u3_1, rfl, o3_0, o3_1, ap3_0_1, hb3⟩ := hN
  have S3_0 := Lib.hid (OwnPoint.sl o3_0 (by omega))
  have RG3_0 := Lib.hid (own_range o3_0)
  have FR3_0 := Lib.hid (own_freeV o3_0)
  obtain ⟨D3_0, k3_0, rfl⟩ := own_form o3_0
  have S3_1 := Lib.hid (OwnSegment.sl o3_1 (by omega))
  have RG3_1 := Lib.hid (own_range o3_1)
  have FR3_1 := Lib.hid (own_freeV o3_1)
  obtain ⟨D3_1, k3_1, rfl⟩ := own_form o3_1
  have AP3_0_1 := Lib.hid ap3_0_1
  clear ap3_0_1
  have B3 := Lib.hid (B2.out.trans (hb3.mono B2.out.size))
  have hz3 : (w2).heap.size ≤ w3.heap.size := hb3.size
  clear hb3 o3_0 o3_1 y0_0 y0_1
  go_wp2_with fail
  refine (toPassageS_any _ l1 _ (R1.out.below (BW.out.trans (B3.out.mono hs0)))).mono ?_
  rintro e w4 ⟨u4, rfl, o4, hb4⟩
  have S4 := Lib.hid (OwnPassage.sl o4 (by omega))
  have RG4 := Lib.hid (own_range o4)
  have FR4 := Lib.hid (own_freeV o4)
  obtain ⟨D4, k4, rfl⟩ := own_form o4
  have B4 := Lib.hid (B3.out.trans (hb4.mono B3.out.size))
  have t3_0_4 := Lib.hid (S3_0.out.below hb4)
  have t3_1_4 := Lib.hid (S3_1.out.below hb4)
  have hz4 : (w3).heap.size ≤ w4.heap.size := hb4.size
  clear hb4 o4
  go_wp2_with fail
  refine (specIsChain _ _ d0 _ l1 _ ⟨t3_0_4.out, t3_1_4.out⟩ S4.out WF0_0.out).mono ?_
  rw [HR0.out]
  rintro e w5 ⟨rfl, hb5⟩
  have B5 := Lib.hid (B4.out.trans (hb5.mono B4.out.size))
  have t3_0_5 := Lib.hid (t3_0_4.out.below hb5)
  have t3_1_5 := Lib.hid (t3_1_4.out.below hb5)
  have t4_5 := Lib.hid (S4.out.below hb5)
  have hz5 : (w4).heap.size ≤ w5.heap.size := hb5.size
  clear hb5 
  -- x0 := toChart(aC)
  have y0_0 : (w5).cell? ⟨w.heap.size, 0, none⟩ = some (.slice A0_0 d0.points.length c0_0) := cell_onV (ABX0.out.1) B5.out
  have y0_1 : (w5).cell? ⟨w.heap.size, 1, none⟩ = some (.slice A0_1 d0.segs.length c0_1) := cell_onV (ABX0.out.2) B5.out
  go_wp2_with fail
  refine (toChart_any _ _ d0 _ (R0.out.below (BW.out.trans (B5.out.mono hs0)))).mono ?_
  intro e w6 hN
  obtain ⟨u6_0, u6_1, rfl, o6_0, o6_1, ap6_0_1, hb6⟩ := hN
  have S6_0 := Lib.hid (OwnPoint.sl o6_0 (by omega))
  have RG6_0 := Lib.hid (own_range o6_0)
  have FR6_0 := Lib.hid (own_freeV o6_0)
  obtain ⟨D6_0, k6_0, rfl⟩ := own_form o6_0
  have S6_1 := Lib.hid (OwnSegment.sl o6_1 (by omega))
  have RG6_1 := Lib.hid (own_range o6_1)
  have FR6_1 := Lib.hid (own_freeV o6_1)
  obtain ⟨D6_1, k6_1, rfl⟩ := own_form o6_1
  have AP6_0_1 := Lib.hid ap6_0_1
  clear ap6_0_1
  have B6 := Lib.hid (B5.out.trans (hb6.mono B5.out.size))
  have hz6 : (w5).heap.size ≤ w6.heap.size := hb6.size
  clear hb6 o6_0 o6_1 y0_0 y0_1
  have BX_x0 := Lib.hid (ChartBox.new 32 (show RdChart w6 (.slice D6_0 d0.points.length k6_0) (.slice D6_1 d0.segs.length k6_1) d0 from ⟨S6_0.out, S6_1.out⟩))
  have hb6b := Joins.below_alloc1 w6 (.cells #[.slice D6_0 d0.points.length k6_0, .slice D6_1 d0.segs.length k6_1] 32)
  have B6x := Lib.hid (B6.out.trans (hb6b.mono B6.out.size))
  have FX_x0_0 := Lib.hid (FR6_0.out.below hb6b)
  have FX_x0_1 := Lib.hid (FR6_1.out.below hb6b)
  clear hb6b
  have hsx6 : ((w6.alloc (.cells #[.slice D6_0 d0.points.length k6_0, .slice D6_1 d0.segs.length k6_1] 32))).heap.size = w6.heap.size + 1 := by simp
  -- x1 := toPassageS(aList)
  go_wp2_with fail
  refine (toPassageS_any _ l1 _ (R1.out.below (BW.out.trans (B6x.out.mono hs0)))).mono ?_
  rintro e w7 ⟨u7, rfl, o7, hb7⟩
  have S7 := Lib.hid (OwnPassage.sl o7 (by omega))
  have RG7 := Lib.hid (own_range o7)
  have FR7 := Lib.hid (own_freeV o7)
  obtain ⟨D7, k7, rfl⟩ := own_form o7
  have B7 := Lib.hid (B6x.out.trans (hb7.mono B6x.out.size))
  have x0_7 := Lib.hid (BX_x0.out.below hb7)
  have x0F0_7 := Lib.hid (FX_x0_0.out.below hb7)
  have x0F1_7 := Lib.hid (FX_x0_1.out.below hb7)
  have hz7 : ((w6.alloc (.cells #[.slice D6_0 d0.points.length k6_0, .slice D6_1 d0.segs.length k6_1] 32))).heap.size ≤ w7.heap.size := hb7.size
  clear hb7 o7
  -- g0 := impl.IsChain(x0, x1)
  obtain ⟨z_x0_0, z_x0_1, _⟩ := x0_7.out
  go_wp2_with fail
  refine (implIsChain _ _ d0 _ l1 _ x0_7.out.2.2 S7.out WF0_0.out).mono ?_
  rw [HR0.out]
  rintro e w8 ⟨rfl, hb8⟩
  have B8 := Lib.hid (B7.out.trans (hb8.mono B7.out.size))
  have x0_8 := Lib.hid (x0_7.out.below hb8)
  have x0F0_8 := Lib.hid (x0F0_7.out.below hb8)
  have x0F1_8 := Lib.hid (x0F1_7.out.below hb8)
  have x1_8 := Lib.hid (S7.out.below hb8)
  have x1F_8 := Lib.hid (FR7.out.below hb8)
  have hz8 : (w7).heap.size ≤ w8.heap.size := hb8.size
  clear hb8 z_x0_0 z_x0_1
  -- if g0 != w0 {
  -- if !eqChart(x0, toChart(aC)) {
  have y0_0 : (w8).cell? ⟨w.heap.size, 0, none⟩ = some (.slice A0_0 d0.points.length c0_0) := cell_onV (ABX0.out.1) B8.out
  have y0_1 : (w8).cell? ⟨w.heap.size, 1, none⟩ = some (.slice A0_1 d0.segs.length c0_1) := cell_onV (ABX0.out.2) B8.out
  obtain ⟨z_x0_0, z_x0_1, _⟩ := x0_8.out
  have DD := Lib.hid ((Below.refl (w8).heap.size (w8)).drew)
  go_upto_region 14 with fail
  go_cut [39] (fun sL wx => sL = .bool false ∧ Hid (Below (w8).heap.size (w8) wx))
  case first =>
    refine wp_region_held_drew (S := (fun w' => w'.cell? ⟨w6.heap.size, 0, none⟩ = some (.slice D6_0 d0.points.length k6_0) ∧ w'.cell? ⟨w6.heap.size, 1, none⟩ = some (.slice D6_1 d0.segs.length k6_1) ∧ w'.cell? ⟨w.heap.size, 0, none⟩ = some (.slice A0_0 d0.points.length c0_0) ∧ w'.cell? ⟨w.heap.size, 1, none⟩ = some (.slice A0_1 d0.segs.length c0_1) ∧ Hid (Below (w8).heap.size (w8) w'))) (by kernel_rfl) ?_ (fun hHeld => ?_)
    · (try dsimp only); go_keep
    refine wpAnyH_take (i := 0) (v := ?_) (by simp only [List.getElem?_toArray, List.getElem?_cons_zero]; rfl) (by kernel_rfl) (by kernel_rfl) (by kernel_rfl) (by exact fun _ _ _ h => h) (Or.inl ⟨by rfl, ?_⟩) (by assumption) ?_; rotate_left; focus (intro w hSw; (try dsimp only at hSw); first | (go_simp; done) | (go_simp; with_reducible rfl))
    try simp only [Act.put, List.setIfInBounds_toArray, List.set_cons_zero, List.set_cons_succ]
    refine wpAnyH_take (i := 1) (v := ?_) (by simp only [List.getElem?_toArray, List.getElem?_cons_succ, List.getElem?_cons_zero]; rfl) (by kernel_rfl) (by kernel_rfl) (by kernel_rfl) (by exact fun _ _ _ h => h) (Or.inl ⟨by rfl, ?_⟩) (by assumption) ?_; rotate_left; focus (intro w hSw; (try dsimp only at hSw); first | (go_simp; done) | (go_simp; with_reducible rfl))
    try simp only [Act.put, List.setIfInBounds_toArray, List.set_cons_zero, List.set_cons_succ]
    refine wpAnyH_ready (rs := [2]) (by kernel_rfl) (by simp) ?_
    refine AllReadyH.cons rfl (fun K hK => ?_) AllReadyH.nil
    rw [if_pos (by rfl)]
    go_simp
    go_at_call 18
    have kB := hHeld.2.2.2.2
    refine (toChart_any _ _ d0 _ (R0.out.below (BW.out.trans ((B8.out.trans (kB.out.mono B8.out.size)).mono hs0)))).mono ?_
    intro e wt hN
    obtain ⟨Q0, q0, Q1, q1, rfl, hRD, hbk⟩ := hN.rd (by omega) (by omega)
    have HRD := Lib.hid hRD
    have HBK := kB.out.trans (hbk.mono kB.out.size)
    have QS := Lib.hid (show wt.cell? ⟨w6.heap.size, 0, none⟩ = some (.slice D6_0 d0.points.length k6_0) ∧ wt.cell? ⟨w6.heap.size, 1, none⟩ = some (.slice D6_1 d0.segs.length k6_1) ∧ wt.cell? ⟨w.heap.size, 0, none⟩ = some (.slice A0_0 d0.points.length c0_0) ∧ wt.cell? ⟨w.heap.size, 1, none⟩ = some (.slice A0_1 d0.segs.length c0_1) ∧ Hid (Below (w8).heap.size (w8) wt) from ⟨(x0_8.out.below HBK).1, (x0_8.out.below HBK).2.1, cell_onV (cell_onV (ABX0.out.1) B8.out) HBK, cell_onV (cell_onV (ABX0.out.2) B8.out) HBK, Lib.hid HBK⟩)
    clear hbk kB hHeld hN hRD HBK
    go_simp
    refine hK.out _ _ ?_ (fun hHeld => ?_)
    · (try dsimp only); exact QS.out
    clear hK K
    try simp only [Act.put, List.setIfInBounds_toArray, List.set_cons_zero, List.set_cons_succ]
    refine wpAnyH_ready (rs := [3]) (by kernel_rfl) (by simp) ?_
    refine AllReadyH.cons rfl (fun K hK => ?_) AllReadyH.nil
    rw [if_pos (by rfl)]
    go_simp
    go_at_call 22
    have kB := hHeld.2.2.2.2
    refine (eqChart_same _ _ _ _ d0 _ (x0_8.out.below kB.out).2.2 HRD.out).mono ?_
    rintro e wq ⟨rfl, hbk⟩
    have HBK := kB.out.trans (hbk.mono kB.out.size)
    have QQ := Lib.hid (show wq.cell? ⟨w6.heap.size, 0, none⟩ = some (.slice D6_0 d0.points.length k6_0) ∧ wq.cell? ⟨w6.heap.size, 1, none⟩ = some (.slice D6_1 d0.segs.length k6_1) ∧ wq.cell? ⟨w.heap.size, 0, none⟩ = some (.slice A0_0 d0.points.length c0_0) ∧ wq.cell? ⟨w.heap.size, 1, none⟩ = some (.slice A0_1 d0.segs.length c0_1) ∧ Hid (Below (w8).heap.size (w8) wq) from ⟨(x0_8.out.below HBK).1, (x0_8.out.below HBK).2.1, cell_onV (cell_onV (ABX0.out.1) B8.out) HBK, cell_onV (cell_onV (ABX0.out.2) B8.out) HBK, Lib.hid HBK⟩)
    clear hbk kB hHeld HBK
    go_simp
    refine hK.out _ _ ?_ (fun hHeld => ?_)
    · (try dsimp only); exact QQ.out
    clear hK K
    try simp only [Act.put, List.setIfInBounds_toArray, List.set_cons_zero, List.set_cons_succ]
    refine wpAnyH_take (i := 4) (v := ?_) (by simp only [List.getElem?_toArray, List.getElem?_cons_succ, List.getElem?_cons_zero]; rfl) (by kernel_rfl) (by kernel_rfl) (by kernel_rfl) (by exact fun _ _ _ h => h) (Or.inl ⟨by rfl, ?_⟩) (by assumption) ?_; rotate_left; focus (intro w hSw; (try dsimp only at hSw); first | (go_simp; done) | (go_simp; with_reducible rfl))
    try simp only [Act.put, List.setIfInBounds_toArray, List.set_cons_zero, List.set_cons_succ]
    refine wpAnyH_done (by kernel_rfl) ?_ _
    go_wp2_with fail
    go_meet
    exact ⟨rfl, hHeld.2.2.2.2⟩
  case rest =>
    obtain ⟨rfl, hbH⟩ := hcut
    have hb9 := hbH.out
    obtain ⟨w9, rfl⟩ : ∃ W, W = wc := ⟨_, rfl⟩
    clear hbH DD y0_0 y0_1 z_x0_0 z_x0_1
    have B9 := Lib.hid (B8.out.trans (hb9.mono B8.out.size))
    have x0_9 := Lib.hid (x0_8.out.below hb9)
    have x0F0_9 := Lib.hid (x0F0_8.out.below hb9)
    have x0F1_9 := Lib.hid (x0F1_8.out.below hb9)
    have x1_9 := Lib.hid (x1_8.out.below hb9)
    have x1F_9 := Lib.hid (x1F_8.out.below hb9)
    have hz9 : (w8).heap.size ≤ w9.heap.size := hb9.size
    clear hb9
    -- if !eqPassageS(x1, toPassageS(aList)) {
    go_wp2_with fail
    refine (toPassageS_any _ l1 _ (R1.out.below (BW.out.trans (B9.out.mono hs0)))).mono ?_
    rintro e w10 ⟨u10, rfl, o10, hb10⟩
    have S10 := Lib.hid (OwnPassage.sl o10 (by omega))
    have RG10 := Lib.hid (own_range o10)
    have FR10 := Lib.hid (own_freeV o10)
    obtain ⟨D10, k10, rfl⟩ := own_form o10
    have B10 := Lib.hid (B9.out.trans (hb10.mono B9.out.size))
    have x0_10 := Lib.hid (x0_9.out.below hb10)
    have x0F0_10 := Lib.hid (x0F0_9.out.below hb10)
    have x0F1_10 := Lib.hid (x0F1_9.out.below hb10)
    have x1_10 := Lib.hid (x1_9.out.below hb10)
    have x1F_10 := Lib.hid (x1F_9.out.below hb10)
    have hz10 : (w9).heap.size ≤ w10.heap.size := hb10.size
    clear hb10 o10
    go_wp2_with fail
    refine (eqPassageS_same _ _ l1 _ x1_10.out S10.out).mono ?_
    rintro e w11 ⟨rfl, hb11⟩
    have B11 := Lib.hid (B10.out.trans (hb11.mono B10.out.size))
    have x0_11 := Lib.hid (x0_10.out.below hb11)
    have x0F0_11 := Lib.hid (x0F0_10.out.below hb11)
    have x0F1_11 := Lib.hid (x0F1_10.out.below hb11)
    have x1_11 := Lib.hid (x1_10.out.below hb11)
    have x1F_11 := Lib.hid (x1F_10.out.below hb11)
    have hz11 : (w10).heap.size ≤ w11.heap.size := hb11.size
    clear hb11
    -- return true
    go_wp2
    go_ret
    exact ⟨rfl, BW.out.trans (B11.out.mono hs0)⟩
set_option maxRecDepth 100000 in
theorem lifted (os : Os) (started : os.Started) (H : Type) (enc : TypeId × Value → H) :
    ReturnsInHanded {} Try.checked os 7 .any (Rows.fnExactIsChainSpec.pre6 enc Try.prog Try.f7 Rows.fnExactIsChainRow.domain false) (Rows.fnExactIsChainSpec.post enc Try.prog Try.f7 false true false false) := by
  refine returnsInHanded_of_change (C := Try.checked) own started (by kernel_rfl) Try.func7
    (ChangeSpec.witness6 (enc := enc) (C := Try.checked) false ⟨#[], #[.agg #[.slice none 0 0, .slice none 0 0], .slice none 0 0], []⟩ 8 (by kernel_rfl) (by kernel_rfl) (by kernel_rfl) (by kernel_rfl)) ?_
  intro W base args ds gs before hval0 hW _ _
  have hval : ∀ (j : Nat) t v, Try.f7.params[j]? = some t → args[j]? = some v → Value.okWide Try.prog W .any base t v := hval0
  have hW' := hW
  obtain ⟨p, q, hA0, hV, rfl, _, _⟩ := hW
  have hA : DataW.TrodAll enc Try.prog W 0 (fun _ => true) true Try.f7.params.toList args.toList ds p := hA0
  rw [Try.params7] at hA hval
  obtain ⟨v0, vs0, d0, ds0, p0, q0, hargs, rfl, rfl, h0, r0⟩ := trodAll_cons hA
  obtain ⟨v1, vs1, d1, ds1, p1, q1, rfl, rfl, rfl, h1, r1⟩ := trodAll_cons r0
  obtain ⟨rfl, rfl, rfl⟩ := trodAll_nil r1
  obtain rfl : args = #[v0, v1] := by cases args; simp_all
  obtain ⟨A0_0, c0_0, A0_1, c0_1, d0', rfl, g0⟩ := open_chart_arg (hval 0 58 v0 rfl rfl) h0
  obtain ⟨A1, c1, l1, rfl, g1⟩ := open_passages_arg (hval 1 85 v1 rfl rfl) h1
  refine (law A0_0 c0_0 A0_1 c0_1 d0' A1 c1 l1 W g0 g1).mono fun e W' ⟨he, hb⟩ => ⟨_, he, ?_⟩
  exact law_post laidOut (by kernel_rfl) rfl (by kernel_rfl) Try.underlying4 rfl rfl rfl hW' hb
theorem holds : Rows.FnExactIsChainSaid :=
  OpenClaim.holds_of_wide 7 Try.f7 rfl rfl rfl rfl rfl rfl rfl ⟨rfl, rfl, rfl, rfl, rfl⟩ rfl rfl rfl rfl rfl (by kernel_rfl) Try.func7 (by kernel_rfl)
    (of_decide_eq_true (by kernel_rfl)) (by unfold Func.isWrapper; first | (rw [if_pos (by decide +kernel)]; kernel_rfl) | (rw [if_neg (by decide +kernel)]; exact ⟨rfl, rfl⟩))
    (fun os started H enc _ => lifted os started H enc)
end Go.Proofs.Ytooeikimoheecaa.exactIsChain
