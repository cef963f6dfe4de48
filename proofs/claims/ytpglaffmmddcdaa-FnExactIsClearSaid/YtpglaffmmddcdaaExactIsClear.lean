
/- The exact law of IsClear holds for all arguments: impl.IsClear answers as its model, and the arguments read as before. No condition. -/
import Derived.Test.YtpglaffmmddcdaaRows
import Derived.Test.YtpglaffmmddcdaaKit
import Derived.Test.YtpglaffmmddcdaaFirstSpec
import Derived.Test.YtpglaffmmddcdaaFirstImpl
import Derived.Test.YtpglaffmmddcdaaPassagesArg
import Derived.Deep.RegionHeld3
import Derived.Deep.DeepCutAuto
namespace Go.Proofs.Ytpglaffmmddcdaa.exactIsClear
open Go.ChangeShapes Go.WideShapes Go.ChangeAt Go.RowKit
set_option maxRecDepth 100000

theorem own : ownKnob Try.prog.godebug = none := by kernel_rfl
theorem laidOut : laidOutB Try.prog = true := by kernel_rfl

set_option maxHeartbeats 16000000 in
theorem law (A0_0 : Option Addr) (c0_0 : Nat) (A0_1 : Option Addr) (c0_1 : Nat) (d0 : ChartD) (d1 : RegimeD) (A2 : Option Addr) (c2 : Nat) (l2 : List PassageD) (w : World) (hin0 : ChartIn w A0_0 A0_1 c0_0 c0_1 d0) (_ : d1.wf) (hin2 : l2.length ≤ maxLen ∧ (l2.length ≤ 1000000000 → SlPassage w (.slice A2 l2.length c2) l2) ∧ ∀ x ∈ l2, PassageD.wf x) :
    Calls Try.prog 9 #[.agg #[.slice A0_0 d0.points.length c0_0, .slice A0_1 d0.segs.length c0_1], .agg #[.int .i64 d1.gap, .bool d1.noMeet], .slice A2 l2.length c2] w fun e w' => e = .returned (.bool true) ∧ Below w.heap.size w w' := by
  have hsz0 : SizChart w A0_0 A0_1 c0_0 c0_1 d0 := hin0
  clear hin0
  have SZ0 := Lib.hid hsz0
  obtain ⟨m0_0, s0_0, f0_0, m0_1, s0_1, f0_1⟩ := hsz0
  have SS0_0 := Lib.hid s0_0
  have SS0_1 := Lib.hid s0_1
  have WF0_0 := Lib.hid f0_0
  clear s0_0 f0_0 s0_1 f0_1
  have bp0 := bulkChart_pos d0
  obtain ⟨m2, s2, f2⟩ := hin2
  unfold maxLen at m2
  have SS2 := Lib.hid s2
  have FF2 := Lib.hid f2
  clear s2 f2
  have HB0 : Below w.heap.size w ((w.alloc (.cells #[.slice A0_0 d0.points.length c0_0, .slice A0_1 d0.segs.length c0_1] 54)).alloc (.cells #[.int .i64 d1.gap, .bool d1.noMeet] 45)) := by
    repeat (first | exact Below.refl _ _ | refine Below.alloc ?_ (by simp <;> omega) _)
  have BW := Lib.hid HB0
  clear HB0
  go_enter Try.func9, Try.ntmps9
  have B0 := Lib.hid (Below.refl (((w.alloc (.cells #[.slice A0_0 d0.points.length c0_0, .slice A0_1 d0.segs.length c0_1] 54)).alloc (.cells #[.int .i64 d1.gap, .bool d1.noMeet] 45))).heap.size ((w.alloc (.cells #[.slice A0_0 d0.points.length c0_0, .slice A0_1 d0.segs.length c0_1] 54)).alloc (.cells #[.int .i64 d1.gap, .bool d1.noMeet] 45)))
  have hs0 : w.heap.size ≤ (((w.alloc (.cells #[.slice A0_0 d0.points.length c0_0, .slice A0_1 d0.segs.length c0_1] 54)).alloc (.cells #[.int .i64 d1.gap, .bool d1.noMeet] 45))).heap.size := BW.out.size
  have ABX0 := Lib.hid (show (((w.alloc (.cells #[.slice A0_0 d0.points.length c0_0, .slice A0_1 d0.segs.length c0_1] 54)).alloc (.cells #[.int .i64 d1.gap, .bool d1.noMeet] 45))).cell? ⟨w.heap.size, 0, none⟩ = some (.slice A0_0 d0.points.length c0_0) ∧ (((w.alloc (.cells #[.slice A0_0 d0.points.length c0_0, .slice A0_1 d0.segs.length c0_1] 54)).alloc (.cells #[.int .i64 d1.gap, .bool d1.noMeet] 45))).cell? ⟨w.heap.size, 1, none⟩ = some (.slice A0_1 d0.segs.length c0_1) from by
    have hBk0 : Blk (w.alloc (.cells #[.slice A0_0 d0.points.length c0_0, .slice A0_1 d0.segs.length c0_1] 54)) (w.heap.size) #[.slice A0_0 d0.points.length c0_0, .slice A0_1 d0.segs.length c0_1] 54 := Blk.newAt (w := w) (by first | rfl | simp) _ _
    have hBk : Blk ((w.alloc (.cells #[.slice A0_0 d0.points.length c0_0, .slice A0_1 d0.segs.length c0_1] 54)).alloc (.cells #[.int .i64 d1.gap, .bool d1.noMeet] 45)) (w.heap.size) #[.slice A0_0 d0.points.length c0_0, .slice A0_1 d0.segs.length c0_1] 54 := hBk0.below (by repeat (first | exact Below.refl _ _ | refine Below.alloc ?_ (by simp) _))
    exact ⟨hBk.cell 0, hBk.cell 1⟩)
  have ABX1 := Lib.hid (show (((w.alloc (.cells #[.slice A0_0 d0.points.length c0_0, .slice A0_1 d0.segs.length c0_1] 54)).alloc (.cells #[.int .i64 d1.gap, .bool d1.noMeet] 45))).cell? ⟨w.heap.size + 1, 0, none⟩ = some (.int .i64 d1.gap) ∧ (((w.alloc (.cells #[.slice A0_0 d0.points.length c0_0, .slice A0_1 d0.segs.length c0_1] 54)).alloc (.cells #[.int .i64 d1.gap, .bool d1.noMeet] 45))).cell? ⟨w.heap.size + 1, 1, none⟩ = some (.bool d1.noMeet) from by
    have hBk0 : Blk ((w.alloc (.cells #[.slice A0_0 d0.points.length c0_0, .slice A0_1 d0.segs.length c0_1] 54)).alloc (.cells #[.int .i64 d1.gap, .bool d1.noMeet] 45)) (w.heap.size + 1) #[.int .i64 d1.gap, .bool d1.noMeet] 45 := Blk.newAt (w := (w.alloc (.cells #[.slice A0_0 d0.points.length c0_0, .slice A0_1 d0.segs.length c0_1] 54))) (by first | rfl | simp) _ _
    have hBk : Blk ((w.alloc (.cells #[.slice A0_0 d0.points.length c0_0, .slice A0_1 d0.segs.length c0_1] 54)).alloc (.cells #[.int .i64 d1.gap, .bool d1.noMeet] 45)) (w.heap.size + 1) #[.int .i64 d1.gap, .bool d1.noMeet] 45 := hBk0.below (by repeat (first | exact Below.refl _ _ | refine Below.alloc ?_ (by simp) _))
    exact ⟨hBk.cell 0, hBk.cell 1⟩)
  obtain ⟨r0, hr0⟩ : ∃ r0, (clearB d0 d1 l2) = r0 := ⟨_, rfl⟩
  have HR0 := Lib.hid hr0
  clear hr0
  -- left := 1 << 20
  -- left = szChart(aC, left)
  have y0_0 : (((w.alloc (.cells #[.slice A0_0 d0.points.length c0_0, .slice A0_1 d0.segs.length c0_1] 54)).alloc (.cells #[.int .i64 d1.gap, .bool d1.noMeet] 45))).cell? ⟨w.heap.size, 0, none⟩ = some (.slice A0_0 d0.points.length c0_0) := cell_onV (ABX0.out.1) B0.out
  have y0_1 : (((w.alloc (.cells #[.slice A0_0 d0.points.length c0_0, .slice A0_1 d0.segs.length c0_1] 54)).alloc (.cells #[.int .i64 d1.gap, .bool d1.noMeet] 45))).cell? ⟨w.heap.size, 1, none⟩ = some (.slice A0_1 d0.segs.length c0_1) := cell_onV (ABX0.out.2) B0.out
  have hl1 : 0 ≤ (1048576 : Int) := by omega
  have hll1 : (1048576 : Int) ≤ 1048576 := by omega
  go_wp2_with fail
  refine (szChart_any _ _ _ _ d0 _ (SizChart.below SZ0.out (BW.out.trans (B0.out.mono hs0))) (1048576) hl1 hll1).mono ?_
  rintro e w1 ⟨rfl, hb1⟩
  have B1 := Lib.hid (B0.out.trans (hb1.mono B0.out.size))
  have hz1 : (((w.alloc (.cells #[.slice A0_0 d0.points.length c0_0, .slice A0_1 d0.segs.length c0_1] 54)).alloc (.cells #[.int .i64 d1.gap, .bool d1.noMeet] 45))).heap.size ≤ w1.heap.size := hb1.size
  clear hb1 y0_0 y0_1
  by_cases neg1 : (1048576 : Int) < bulkChart d0
  · rw [leftOf_no neg1]
    go_wp2
    go_ret
    exact ⟨rfl, BW.out.trans (B1.out.mono hs0)⟩
  rw [leftOf_yes neg1]
  have ne1 : ¬ (1048576 - bulkChart d0 : Int) < 0 := by omega
  have le0 := bulkChart_le d0
  have R0 : Hid (RdChart w (.slice A0_0 d0.points.length c0_0) (.slice A0_1 d0.segs.length c0_1) d0) := Lib.hid ⟨SS0_0.out (by omega), SS0_1.out (by omega)⟩
  -- left = szPassageS(aList, left)
  have hl2 : 0 ≤ (1048576 - bulkChart d0 : Int) := by omega
  have hll2 : (1048576 - bulkChart d0 : Int) ≤ 1048576 := by omega
  go_wp2_with fail
  refine (szPassageS_any A2 l2 c2 _ (by omega) (fun h => (SS2.out h).below (BW.out.trans (B1.out.mono hs0))) (1048576 - bulkChart d0) hl2 hll2).mono ?_
  rintro e w2 ⟨rfl, hb2⟩
  have B2 := Lib.hid (B1.out.trans (hb2.mono B1.out.size))
  have hz2 : (w1).heap.size ≤ w2.heap.size := hb2.size
  clear hb2 
  have ps2 := bulkPassage_pos l2
  by_cases neg2 : (1048576 - bulkChart d0 : Int) < ((l2.length : Int) + bulkPassage l2)
  · rw [leftOf_no neg2]
    go_wp2
    go_ret
    exact ⟨rfl, BW.out.trans (B2.out.mono hs0)⟩
  rw [leftOf_yes neg2]
  have ne2 : ¬ (1048576 - bulkChart d0 - ((l2.length : Int) + bulkPassage l2) : Int) < 0 := by omega
  have R2 := Lib.hid (SS2.out (by omega))
  clear SS2
  -- w0 := spec.IsClear(toChart(aC), toRegime(aR), toPassageS(aList))
  have y0_0 : (w2).cell? ⟨w.heap.size, 0, none⟩ = some (.slice A0_0 d0.points.length c0_0) := cell_onV (ABX0.out.1) B2.out
  have y0_1 : (w2).cell? ⟨w.heap.size, 1, none⟩ = some (.slice A0_1 d0.segs.length c0_1) := cell_onV (ABX0.out.2) B2.out
  have y1_0 : (w2).cell? ⟨w.heap.size + 1, 0, none⟩ = some (.int .i64 d1.gap) := cell_onV (ABX1.out.1) B2.out
  have y1_1 : (w2).cell? ⟨w.heap.size + 1, 1, none⟩ = some (.bool d1.noMeet) := cell_onV (ABX1.out.2) B2.out
  have DD := Lib.hid ((Below.refl (w2).heap.size (w2)).drew)
  go_upto_region 8 with fail
  go_cut [8] (fun sL wx => sL = .bool r0 ∧ Hid (Below (w2).heap.size (w2) wx))
  case first =>
    refine wp_region_held_drew (S := (fun w' => w'.cell? ⟨w.heap.size, 0, none⟩ = some (.slice A0_0 d0.points.length c0_0) ∧ w'.cell? ⟨w.heap.size, 1, none⟩ = some (.slice A0_1 d0.segs.length c0_1) ∧ w'.cell? ⟨w.heap.size + 1, 0, none⟩ = some (.int .i64 d1.gap) ∧ w'.cell? ⟨w.heap.size + 1, 1, none⟩ = some (.bool d1.noMeet) ∧ Hid (Below (w2).heap.size (w2) w'))) (by kernel_rfl) ?_ (fun hHeld => ?_)
    · (try dsimp only); go_keep
    refine wpAnyH_take (i := 0) (v := ?_) (by simp only [List.getElem?_toArray, List.getElem?_cons_zero]; rfl) (by kernel_rfl) (by kernel_rfl) (by kernel_rfl) (by exact fun _ _ _ h => h) (Or.inl ⟨by rfl, ?_⟩) (by assumption) ?_; rotate_left; focus (intro w hSw; (try dsimp only at hSw); first | (go_simp; done) | (go_simp; with_reducible rfl))
    try simp only [Act.put, List.setIfInBounds_toArray, List.set_cons_zero, List.set_cons_succ]
    refine wpAnyH_take (i := 2) (v := ?_) (by simp only [List.getElem?_toArray, List.getElem?_cons_succ, List.getElem?_cons_zero]; rfl) (by kernel_rfl) (by kernel_rfl) (by kernel_rfl) (by exact fun _ _ _ h => h) (Or.inl ⟨by rfl, ?_⟩) (by assumption) ?_; rotate_left; focus (intro w hSw; (try dsimp only at hSw); first | (go_simp; done) | (go_simp; with_reducible rfl))
    try simp only [Act.put, List.setIfInBounds_toArray, List.set_cons_zero, List.set_cons_succ]
    refine wpAnyH_take (i := 4) (v := ?_) (by simp only [List.getElem?_toArray, List.getElem?_cons_succ, List.getElem?_cons_zero]; rfl) (by kernel_rfl) (by kernel_rfl) (by kernel_rfl) (by exact fun _ _ _ h => h) (Or.inl ⟨by rfl, ?_⟩) (by assumption) ?_; rotate_left; focus (intro w hSw; (try dsimp only at hSw); first | (go_simp; done) | (go_simp; with_reducible rfl))
    try simp only [Act.put, List.setIfInBounds_toArray, List.set_cons_zero, List.set_cons_succ]
    refine wpAnyH_ready (rs := [1]) (by kernel_rfl) (by simp) ?_
    refine AllReadyH.cons rfl (fun K hK => ?_) AllReadyH.nil
    rw [if_pos (by rfl)]
    go_simp
    go_at_call 28
    have kB := hHeld.2.2.2.2
    refine (toChart_any _ _ d0 _ (R0.out.below (BW.out.trans ((B2.out.trans (kB.out.mono B2.out.size)).mono hs0)))).mono ?_
    intro e wt0 hN
    obtain ⟨Q0_0, q0_0, Q0_1, q0_1, rfl, hRD, hbk⟩ := hN.rd (by omega) (by omega)
    have HRD0 := Lib.hid hRD
    have HBK := kB.out.trans (hbk.mono kB.out.size)
    have QS0 := Lib.hid (show wt0.cell? ⟨w.heap.size, 0, none⟩ = some (.slice A0_0 d0.points.length c0_0) ∧ wt0.cell? ⟨w.heap.size, 1, none⟩ = some (.slice A0_1 d0.segs.length c0_1) ∧ wt0.cell? ⟨w.heap.size + 1, 0, none⟩ = some (.int .i64 d1.gap) ∧ wt0.cell? ⟨w.heap.size + 1, 1, none⟩ = some (.bool d1.noMeet) ∧ Hid (Below (w2).heap.size (w2) wt0) from ⟨cell_onV (cell_onV (ABX0.out.1) B2.out) HBK, cell_onV (cell_onV (ABX0.out.2) B2.out) HBK, cell_onV (cell_onV (ABX1.out.1) B2.out) HBK, cell_onV (cell_onV (ABX1.out.2) B2.out) HBK, Lib.hid HBK⟩)
    clear hbk kB hHeld hN hRD HBK
    go_simp
    refine hK.out _ _ ?_ (fun hHeld => ?_)
    · (try dsimp only); exact QS0.out
    clear hK K
    try simp only [Act.put, List.setIfInBounds_toArray, List.set_cons_zero, List.set_cons_succ]
    refine wpAnyH_ready (rs := [3]) (by kernel_rfl) (by simp) ?_
    refine AllReadyH.cons rfl (fun K hK => ?_) AllReadyH.nil
    rw [if_pos (by rfl)]
    go_simp
    go_at_call 23
    have kB := hHeld.2.2.2.2
    refine (toRegime_any d1.gap d1.noMeet _).mono ?_
    rintro e wt1 ⟨rfl, hbk⟩
    have HRD0' := Lib.hid (HRD0.out.below hbk)
    clear HRD0
    have HRD0 := HRD0'
    clear HRD0'
    have HBK := kB.out.trans (hbk.mono kB.out.size)
    have QS1 := Lib.hid (show wt1.cell? ⟨w.heap.size, 0, none⟩ = some (.slice A0_0 d0.points.length c0_0) ∧ wt1.cell? ⟨w.heap.size, 1, none⟩ = some (.slice A0_1 d0.segs.length c0_1) ∧ wt1.cell? ⟨w.heap.size + 1, 0, none⟩ = some (.int .i64 d1.gap) ∧ wt1.cell? ⟨w.heap.size + 1, 1, none⟩ = some (.bool d1.noMeet) ∧ Hid (Below (w2).heap.size (w2) wt1) from ⟨cell_onV (cell_onV (ABX0.out.1) B2.out) HBK, cell_onV (cell_onV (ABX0.out.2) B2.out) HBK, cell_onV (cell_onV (ABX1.out.1) B2.out) HBK, cell_onV (cell_onV (ABX1.out.2) B2.out) HBK, Lib.hid HBK⟩)
    clear hbk kB hHeld HBK
    go_simp
    refine hK.out _ _ ?_ (fun hHeld => ?_)
    · (try dsimp only); exact QS1.out
    clear hK K
    try simp only [Act.put, List.setIfInBounds_toArray, List.set_cons_zero, List.set_cons_succ]
    refine wpAnyH_ready (rs := [5]) (by kernel_rfl) (by simp) ?_
    refine AllReadyH.cons rfl (fun K hK => ?_) AllReadyH.nil
    rw [if_pos (by rfl)]
    go_simp
    go_at_call 33
    have kB := hHeld.2.2.2.2
    refine (toPassageS_any _ l2 _ (R2.out.below (BW.out.trans ((B2.out.trans (kB.out.mono B2.out.size)).mono hs0)))).mono ?_
    rintro e wt2 ⟨uz2, rfl, oz2, hbk⟩
    have hRD := OwnPassage.sl oz2 (by omega)
    obtain ⟨Dz2, kz2, rfl⟩ := own_form oz2
    have HRD0' := Lib.hid (HRD0.out.below hbk)
    clear HRD0
    have HRD0 := HRD0'
    clear HRD0'
    have HRD2 := Lib.hid hRD
    have HBK := kB.out.trans (hbk.mono kB.out.size)
    have QS2 := Lib.hid (show wt2.cell? ⟨w.heap.size, 0, none⟩ = some (.slice A0_0 d0.points.length c0_0) ∧ wt2.cell? ⟨w.heap.size, 1, none⟩ = some (.slice A0_1 d0.segs.length c0_1) ∧ wt2.cell? ⟨w.heap.size + 1, 0, none⟩ = some (.int .i64 d1.gap) ∧ wt2.cell? ⟨w.heap.size + 1, 1, none⟩ = some (.bool d1.noMeet) ∧ Hid (Below (w2).heap.size (w2) wt2) from ⟨cell_onV (cell_onV (ABX0.out.1) B2.out) HBK, cell_onV (cell_onV (ABX0.out.2) B2.out) HBK, cell_onV (cell_onV (ABX1.out.1) B2.out) HBK, cell_onV (cell_onV (ABX1.out.2) B2.out) HBK, Lib.hid HBK⟩)
    clear hbk kB hHeld oz2 hRD HBK
    go_simp
    refine hK.out _ _ ?_ (fun hHeld => ?_)
    · (try dsimp only); exact QS2.out
    clear hK K
    try simp only [Act.put, List.setIfInBounds_toArray, List.set_cons_zero, List.set_cons_succ]
    refine wpAnyH_ready (rs := [6]) (by kernel_rfl) (by simp) ?_
    refine AllReadyH.cons rfl (fun K hK => ?_) AllReadyH.nil
    rw [if_pos (by rfl)]
    go_simp
    go_at_call 35
    have kB := hHeld.2.2.2.2
    refine (specIsClear _ _ d0 d1 _ l2 _ HRD0.out HRD2.out WF0_0.out FF2.out).mono ?_
    rw [HR0.out]
    rintro e wq ⟨rfl, hbk⟩
    have HBK := kB.out.trans (hbk.mono kB.out.size)
    have QQ := Lib.hid (show wq.cell? ⟨w.heap.size, 0, none⟩ = some (.slice A0_0 d0.points.length c0_0) ∧ wq.cell? ⟨w.heap.size, 1, none⟩ = some (.slice A0_1 d0.segs.length c0_1) ∧ wq.cell? ⟨w.heap.size + 1, 0, none⟩ = some (.int .i64 d1.gap) ∧ wq.cell? ⟨w.heap.size + 1, 1, none⟩ = some (.bool d1.noMeet) ∧ Hid (Below (w2).heap.size (w2) wq) from ⟨cell_onV (cell_onV (ABX0.out.1) B2.out) HBK, cell_onV (cell_onV (ABX0.out.2) B2.out) HBK, cell_onV (cell_onV (ABX1.out.1) B2.out) HBK, cell_onV (cell_onV (ABX1.out.2) B2.out) HBK, Lib.hid HBK⟩)
    clear hbk kB hHeld HBK
    go_simp
    refine hK.out _ _ ?_ (fun hHeld => ?_)
    · (try dsimp only); exact QQ.out
    clear hK K
    try simp only [Act.put, List.setIfInBounds_toArray, List.set_cons_zero, List.set_cons_succ]
    refine wpAnyH_take (i := 7) (v := ?_) (by simp only [List.getElem?_toArray, List.getElem?_cons_succ, List.getElem?_cons_zero]; rfl) (by kernel_rfl) (by kernel_rfl) (by kernel_rfl) (by exact fun _ _ _ h => h) (Or.inl ⟨by rfl, ?_⟩) (by assumption) ?_; rotate_left; focus (intro w hSw; (try dsimp only at hSw); first | (go_simp; done) | (go_simp; with_reducible rfl))
    try simp only [Act.put, List.setIfInBounds_toArray, List.set_cons_zero, List.set_cons_succ]
    refine wpAnyH_done (by kernel_rfl) ?_ _
    go_wp2_with fail
    go_meet
    exact ⟨rfl, hHeld.2.2.2.2⟩
  case rest =>
    obtain ⟨rfl, hbH⟩ := hcut
    have hb3 := hbH.out
    obtain ⟨w3, rfl⟩ : ∃ W, W = wc := ⟨_, rfl⟩
    clear hbH DD y0_0 y0_1 y1_0 y1_1 
    have B3 := Lib.hid (B2.out.trans (hb3.mono B2.out.size))
    have hz3 : (w2).heap.size ≤ w3.heap.size := hb3.size
    clear hb3
    -- x0 := toChart(aC)
    have y0_0 : (w3).cell? ⟨w.heap.size, 0, none⟩ = some (.slice A0_0 d0.points.length c0_0) := cell_onV (ABX0.out.1) B3.out
    have y0_1 : (w3).cell? ⟨w.heap.size, 1, none⟩ = some (.slice A0_1 d0.segs.length c0_1) := cell_onV (ABX0.out.2) B3.out
    go_wp2_with fail
    refine (toChart_any _ _ d0 _ (R0.out.below (BW.out.trans (B3.out.mono hs0)))).mono ?_
    intro e w4 hN
    obtain ⟨u4_0, u4_1, rfl, o4_0, o4_1, ap4_0_1, hb4⟩ := hN
    have S4_0 := Lib.hid (OwnPoint.sl o4_0 (by omega))
    have RG4_0 := Lib.hid (own_range o4_0)
    have FR4_0 := Lib.hid (own_freeV o4_0)
    obtain ⟨D4_0, k4_0, rfl⟩ := own_form o4_0
    have S4_1 := Lib.hid (OwnSegment.sl o4_1 (by omega))
    have RG4_1 := Lib.hid (own_range o4_1)
    have FR4_1 := Lib.hid (own_freeV o4_1)
    obtain ⟨D4_1, k4_1, rfl⟩ := own_form o4_1
    have AP4_0_1 := Lib.hid ap4_0_1
    clear ap4_0_1
    have B4 := Lib.hid (B3.out.trans (hb4.mono B3.out.size))
    have hz4 : (w3).heap.size ≤ w4.heap.size := hb4.size
    clear hb4 o4_0 o4_1 y0_0 y0_1
    have BX_x0 := Lib.hid (ChartBox.new 26 (show RdChart w4 (.slice D4_0 d0.points.length k4_0) (.slice D4_1 d0.segs.length k4_1) d0 from ⟨S4_0.out, S4_1.out⟩))
    have hb4b := Joins.below_alloc1 w4 (.cells #[.slice D4_0 d0.points.length k4_0, .slice D4_1 d0.segs.length k4_1] 26)
    have B4x := Lib.hid (B4.out.trans (hb4b.mono B4.out.size))
    have FX_x0_0 := Lib.hid (FR4_0.out.below hb4b)
    have FX_x0_1 := Lib.hid (FR4_1.out.below hb4b)
    clear hb4b
    have hsx4 : ((w4.alloc (.cells #[.slice D4_0 d0.points.length k4_0, .slice D4_1 d0.segs.length k4_1] 26))).heap.size = w4.heap.size + 1 := by simp
    -- x2 := toPassageS(aList)
    go_wp2_with fail
    refine (toPassageS_any _ l2 _ (R2.out.below (BW.out.trans (B4x.out.mono hs0)))).mono ?_
    rintro e w5 ⟨u5, rfl, o5, hb5⟩
    have S5 := Lib.hid (OwnPassage.sl o5 (by omega))
    have RG5 := Lib.hid (own_range o5)
    have FR5 := Lib.hid (own_freeV o5)
    obtain ⟨D5, k5, rfl⟩ := own_form o5
    have B5 := Lib.hid (B4x.out.trans (hb5.mono B4x.out.size))
    have x0_5 := Lib.hid (BX_x0.out.below hb5)
    have x0F0_5 := Lib.hid (FX_x0_0.out.below hb5)
    have x0F1_5 := Lib.hid (FX_x0_1.out.below hb5)
    have hz5 : ((w4.alloc (.cells #[.slice D4_0 d0.points.length k4_0, .slice D4_1 d0.segs.length k4_1] 26))).heap.size ≤ w5.heap.size := hb5.size
    clear hb5 o5
    -- g0 := impl.IsClear(x0, toRegime(aR), x2)
    have y1_0 : (w5).cell? ⟨w.heap.size + 1, 0, none⟩ = some (.int .i64 d1.gap) := cell_onV (ABX1.out.1) B5.out
    have y1_1 : (w5).cell? ⟨w.heap.size + 1, 1, none⟩ = some (.bool d1.noMeet) := cell_onV (ABX1.out.2) B5.out
    obtain ⟨z_x0_0, z_x0_1, _⟩ := x0_5.out
    have DD := Lib.hid ((Below.refl (w5).heap.size (w5)).drew)
    go_upto_region 11 with fail
    go_cut [11] (fun sL wx => sL = .bool r0 ∧ Hid (Below (w5).heap.size (w5) wx))
    case first =>
      refine wp_region_held_drew (S := (fun w' => w'.cell? ⟨w4.heap.size, 0, none⟩ = some (.slice D4_0 d0.points.length k4_0) ∧ w'.cell? ⟨w4.heap.size, 1, none⟩ = some (.slice D4_1 d0.segs.length k4_1) ∧ w'.cell? ⟨w.heap.size + 1, 0, none⟩ = some (.int .i64 d1.gap) ∧ w'.cell? ⟨w.heap.size + 1, 1, none⟩ = some (.bool d1.noMeet) ∧ Hid (Below (w5).heap.size (w5) w'))) (by kernel_rfl) ?_ (fun hHeld => ?_)
      · (try dsimp only); go_keep
      refine wpAnyH_take (i := 0) (v := ?_) (by simp only [List.getElem?_toArray, List.getElem?_cons_zero]; rfl) (by kernel_rfl) (by kernel_rfl) (by kernel_rfl) (by exact fun _ _ _ h => h) (Or.inl ⟨by rfl, ?_⟩) (by assumption) ?_; rotate_left; focus (intro w hSw; (try dsimp only at hSw); first | (go_simp; done) | (go_simp; with_reducible rfl))
      try simp only [Act.put, List.setIfInBounds_toArray, List.set_cons_zero, List.set_cons_succ]
      refine wpAnyH_take (i := 1) (v := ?_) (by simp only [List.getElem?_toArray, List.getElem?_cons_succ, List.getElem?_cons_zero]; rfl) (by kernel_rfl) (by kernel_rfl) (by kernel_rfl) (by exact fun _ _ _ h => h) (Or.inl ⟨by rfl, ?_⟩) (by assumption) ?_; rotate_left; focus (intro w hSw; (try dsimp only at hSw); first | (go_simp; done) | (go_simp; with_reducible rfl))
      try simp only [Act.put, List.setIfInBounds_toArray, List.set_cons_zero, List.set_cons_succ]
      refine wpAnyH_take (i := 3) (v := ?_) (by simp only [List.getElem?_toArray, List.getElem?_cons_succ, List.getElem?_cons_zero]; rfl) (by kernel_rfl) (by kernel_rfl) (by kernel_rfl) (by exact fun _ _ _ h => h) (Or.inl ⟨by rfl, ?_⟩) (by assumption) ?_; rotate_left; focus (intro w hSw; (try dsimp only at hSw); first | (go_simp; done) | (go_simp; with_reducible rfl))
      try simp only [Act.put, List.setIfInBounds_toArray, List.set_cons_zero, List.set_cons_succ]
      refine wpAnyH_ready (rs := [2]) (by kernel_rfl) (by simp) ?_
      refine AllReadyH.cons rfl (fun K hK => ?_) AllReadyH.nil
      rw [if_pos (by rfl)]
      go_simp
      go_at_call 23
      have kB := hHeld.2.2.2.2
      refine (toRegime_any d1.gap d1.noMeet _).mono ?_
      rintro e wt0 ⟨rfl, hbk⟩
      have HBK := kB.out.trans (hbk.mono kB.out.size)
      have QS0 := Lib.hid (show wt0.cell? ⟨w4.heap.size, 0, none⟩ = some (.slice D4_0 d0.points.length k4_0) ∧ wt0.cell? ⟨w4.heap.size, 1, none⟩ = some (.slice D4_1 d0.segs.length k4_1) ∧ wt0.cell? ⟨w.heap.size + 1, 0, none⟩ = some (.int .i64 d1.gap) ∧ wt0.cell? ⟨w.heap.size + 1, 1, none⟩ = some (.bool d1.noMeet) ∧ Hid (Below (w5).heap.size (w5) wt0) from ⟨(x0_5.out.below HBK).1, (x0_5.out.below HBK).2.1, cell_onV (cell_onV (ABX1.out.1) B5.out) HBK, cell_onV (cell_onV (ABX1.out.2) B5.out) HBK, Lib.hid HBK⟩)
      clear hbk kB hHeld HBK
      go_simp
      refine hK.out _ _ ?_ (fun hHeld => ?_)
      · (try dsimp only); exact QS0.out
      clear hK K
      try simp only [Act.put, List.setIfInBounds_toArray, List.set_cons_zero, List.set_cons_succ]
      refine wpAnyH_ready (rs := [4]) (by kernel_rfl) (by simp) ?_
      refine AllReadyH.cons rfl (fun K hK => ?_) AllReadyH.nil
      rw [if_pos (by rfl)]
      go_simp
      go_at_call 17
      have kB := hHeld.2.2.2.2
      refine (implIsClear _ _ d0 d1 _ l2 _ (x0_5.out.below kB.out).2.2 (S5.out.below kB.out) WF0_0.out FF2.out).mono ?_
      rw [HR0.out]
      rintro e wq ⟨rfl, hbk⟩
      have HBK := kB.out.trans (hbk.mono kB.out.size)
      have QQ := Lib.hid (show wq.cell? ⟨w4.heap.size, 0, none⟩ = some (.slice D4_0 d0.points.length k4_0) ∧ wq.cell? ⟨w4.heap.size, 1, none⟩ = some (.slice D4_1 d0.segs.length k4_1) ∧ wq.cell? ⟨w.heap.size + 1, 0, none⟩ = some (.int .i64 d1.gap) ∧ wq.cell? ⟨w.heap.size + 1, 1, none⟩ = some (.bool d1.noMeet) ∧ Hid (Below (w5).heap.size (w5) wq) from ⟨(x0_5.out.below HBK).1, (x0_5.out.below HBK).2.1, cell_onV (cell_onV (ABX1.out.1) B5.out) HBK, cell_onV (cell_onV (ABX1.out.2) B5.out) HBK, Lib.hid HBK⟩)
      clear hbk kB hHeld HBK
      go_simp
      refine hK.out _ _ ?_ (fun hHeld => ?_)
      · (try dsimp only); exact QQ.out
      clear hK K
      try simp only [Act.put, List.setIfInBounds_toArray, List.set_cons_zero, List.set_cons_succ]
      refine wpAnyH_take (i := 5) (v := ?_) (by simp only [List.getElem?_toArray, List.getElem?_cons_succ, List.getElem?_cons_zero]; rfl) (by kernel_rfl) (by kernel_rfl) (by kernel_rfl) (by exact fun _ _ _ h => h) (Or.inl ⟨by rfl, ?_⟩) (by assumption) ?_; rotate_left; focus (intro w hSw; (try dsimp only at hSw); first | (go_simp; done) | (go_simp; with_reducible rfl))
      try simp only [Act.put, List.setIfInBounds_toArray, List.set_cons_zero, List.set_cons_succ]
      refine wpAnyH_done (by kernel_rfl) ?_ _
      go_wp2_with fail
      go_meet
      exact ⟨rfl, hHeld.2.2.2.2⟩
    case rest =>
      obtain ⟨rfl, hbH⟩ := hcut
      have hb6 := hbH.out
      obtain ⟨w6, rfl⟩ : ∃ W, W = wc := ⟨_, rfl⟩
      clear hbH DD y1_0 y1_1 z_x0_0 z_x0_1
      have B6 := Lib.hid (B5.out.trans (hb6.mono B5.out.size))
      have x0_6 := Lib.hid (x0_5.out.below hb6)
      have x0F0_6 := Lib.hid (x0F0_5.out.below hb6)
      have x0F1_6 := Lib.hid (x0F1_5.out.below hb6)
      have x2_6 := Lib.hid (S5.out.below hb6)
      have x2F_6 := Lib.hid (FR5.out.below hb6)
      have hz6 : (w5).heap.size ≤ w6.heap.size := hb6.size
      clear hb6
      -- if g0 != w0 {
      -- if !eqChart(x0, toChart(aC)) {
      have y0_0 : (w6).cell? ⟨w.heap.size, 0, none⟩ = some (.slice A0_0 d0.points.length c0_0) := cell_onV (ABX0.out.1) B6.out
      have y0_1 : (w6).cell? ⟨w.heap.size, 1, none⟩ = some (.slice A0_1 d0.segs.length c0_1) := cell_onV (ABX0.out.2) B6.out
      obtain ⟨z_x0_0, z_x0_1, _⟩ := x0_6.out
      have DD := Lib.hid ((Below.refl (w6).heap.size (w6)).drew)
      go_upto_region 14 with fail
      go_cut [45] (fun sL wx => sL = .bool false ∧ Hid (Below (w6).heap.size (w6) wx))
      case first =>
        refine wp_region_held_drew (S := (fun w' => w'.cell? ⟨w4.heap.size, 0, none⟩ = some (.slice D4_0 d0.points.length k4_0) ∧ w'.cell? ⟨w4.heap.size, 1, none⟩ = some (.slice D4_1 d0.segs.length k4_1) ∧ w'.cell? ⟨w.heap.size, 0, none⟩ = some (.slice A0_0 d0.points.length c0_0) ∧ w'.cell? ⟨w.heap.size, 1, none⟩ = some (.slice A0_1 d0.segs.length c0_1) ∧ Hid (Below (w6).heap.size (w6) w'))) (by kernel_rfl) ?_ (fun hHeld => ?_)
        · (try dsimp only); go_keep
        refine wpAnyH_take (i := 0) (v := ?_) (by simp only [List.getElem?_toArray, List.getElem?_cons_zero]; rfl) (by kernel_rfl) (by kernel_rfl) (by kernel_rfl) (by exact fun _ _ _ h => h) (Or.inl ⟨by rfl, ?_⟩) (by assumption) ?_; rotate_left; focus (intro w hSw; (try dsimp only at hSw); first | (go_simp; done) | (go_simp; with_reducible rfl))
        try simp only [Act.put, List.setIfInBounds_toArray, List.set_cons_zero, List.set_cons_succ]
        refine wpAnyH_take (i := 1) (v := ?_) (by simp only [List.getElem?_toArray, List.getElem?_cons_succ, List.getElem?_cons_zero]; rfl) (by kernel_rfl) (by kernel_rfl) (by kernel_rfl) (by exact fun _ _ _ h => h) (Or.inl ⟨by rfl, ?_⟩) (by assumption) ?_; rotate_left; focus (intro w hSw; (try dsimp only at hSw); first | (go_simp; done) | (go_simp; with_reducible rfl))
        try simp only [Act.put, List.setIfInBounds_toArray, List.set_cons_zero, List.set_cons_succ]
        refine wpAnyH_ready (rs := [2]) (by kernel_rfl) (by simp) ?_
        refine AllReadyH.cons rfl (fun K hK => ?_) AllReadyH.nil
        rw [if_pos (by rfl)]
        go_simp
        go_at_call 28
        have kB := hHeld.2.2.2.2
        refine (toChart_any _ _ d0 _ (R0.out.below (BW.out.trans ((B6.out.trans (kB.out.mono B6.out.size)).mono hs0)))).mono ?_
        intro e wt hN
        obtain ⟨Q0, q0, Q1, q1, rfl, hRD, hbk⟩ := hN.rd (by omega) (by omega)
        have HRD := Lib.hid hRD
        have HBK := kB.out.trans (hbk.mono kB.out.size)
        have QS := Lib.hid (show wt.cell? ⟨w4.heap.size, 0, none⟩ = some (.slice D4_0 d0.points.length k4_0) ∧ wt.cell? ⟨w4.heap.size, 1, none⟩ = some (.slice D4_1 d0.segs.length k4_1) ∧ wt.cell? ⟨w.heap.size, 0, none⟩ = some (.slice A0_0 d0.points.length c0_0) ∧ wt.cell? ⟨w.heap.size, 1, none⟩ = some (.slice A0_1 d0.segs.length c0_1) ∧ Hid (Below (w6).heap.size (w6) wt) from ⟨(x0_6.out.below HBK).1, (x0_6.out.below HBK).2.1, cell_onV (cell_onV (ABX0.out.1) B6.out) HBK, cell_onV (cell_onV (ABX0.out.2) B6.out) HBK, Lib.hid HBK⟩)
        clear hbk kB hHeld hN hRD HBK
        go_simp
        refine hK.out _ _ ?_ (fun hHeld => ?_)
        · (try dsimp only); exact QS.out
        clear hK K
        try simp only [Act.put, List.setIfInBounds_toArray, List.set_cons_zero, List.set_cons_succ]
        refine wpAnyH_ready (rs := [3]) (by kernel_rfl) (by simp) ?_
        refine AllReadyH.cons rfl (fun K hK => ?_) AllReadyH.nil
        rw [if_pos (by rfl)]
        go_simp
        go_at_call 29
        have kB := hHeld.2.2.2.2
        refine (eqChart_same _ _ _ _ d0 _ (x0_6.out.below kB.out).2.2 HRD.out).mono ?_
        rintro e wq ⟨rfl, hbk⟩
        have HBK := kB.out.trans (hbk.mono kB.out.size)
        have QQ := Lib.hid (show wq.cell? ⟨w4.heap.size, 0, none⟩ = some (.slice D4_0 d0.points.length k4_0) ∧ wq.cell? ⟨w4.heap.size, 1, none⟩ = some (.slice D4_1 d0.segs.length k4_1) ∧ wq.cell? ⟨w.heap.size, 0, none⟩ = some (.slice A0_0 d0.points.length c0_0) ∧ wq.cell? ⟨w.heap.size, 1, none⟩ = some (.slice A0_1 d0.segs.length c0_1) ∧ Hid (Below (w6).heap.size (w6) wq) from ⟨(x0_6.out.below HBK).1, (x0_6.out.below HBK).2.1, cell_onV (cell_onV (ABX0.out.1) B6.out) HBK, cell_onV (cell_onV (ABX0.out.2) B6.out) HBK, Lib.hid HBK⟩)
        clear hbk kB hHeld HBK
        go_simp
        refine hK.out _ _ ?_ (fun hHeld => ?_)
        · (try dsimp only); exact QQ.out
        clear hK K
        try simp only [Act.put, List.setIfInBounds_toArray, List.set_cons_zero, List.set_cons_succ]
        refine wpAnyH_take (i := 4) (v := ?_) (by simp only [List.getElem?_toArray, List.getElem?_cons_succ, List.getElem?_cons_zero]; rfl) (by kernel_rfl) (by kernel_rfl) (by kernel_rfl) (by exact fun _ _ _ h => h) (Or.inl ⟨by rfl, ?_⟩) (by assumption) ?_; rotate_left; focus (intro w hSw; (try dsimp only at hSw); first | (go_simp; done) | (go_simp; with_reducible rfl))
        try simp only [Act.put, List.setIfInBounds_toArray, List.set_cons_zero, List.set_cons_succ]
        refine wpAnyH_done (by kernel_rfl) ?_ _
        go_wp2_with fail
        go_meet
        exact ⟨rfl, hHeld.2.2.2.2⟩
      case rest =>
        obtain ⟨rfl, hbH⟩ := hcut
        have hb7 := hbH.out
        obtain ⟨w7, rfl⟩ : ∃ W, W = wc := ⟨_, rfl⟩
        clear hbH DD y0_0 y0_1 z_x0_0 z_x0_1
        have B7 := Lib.hid (B6.out.trans (hb7.mono B6.out.size))
        have x0_7 := Lib.hid (x0_6.out.below hb7)
        have x0F0_7 := Lib.hid (x0F0_6.out.below hb7)
        have x0F1_7 := Lib.hid (x0F1_6.out.below hb7)
        have x2_7 := Lib.hid (x2_6.out.below hb7)
        have x2F_7 := Lib.hid (x2F_6.out.below hb7)
        have hz7 : (w6).heap.size ≤ w7.heap.size := hb7.size
        clear hb7
        -- if !eqPassageS(x2, toPassageS(aList)) {
        go_wp2_with fail
        refine (toPassageS_any _ l2 _ (R2.out.below (BW.out.trans (B7.out.mono hs0)))).mono ?_
        rintro e w8 ⟨u8, rfl, o8, hb8⟩
        have S8 := Lib.hid (OwnPassage.sl o8 (by omega))
        have RG8 := Lib.hid (own_range o8)
        have FR8 := Lib.hid (own_freeV o8)
        obtain ⟨D8, k8, rfl⟩ := own_form o8
        have B8 := Lib.hid (B7.out.trans (hb8.mono B7.out.size))
        have x0_8 := Lib.hid (x0_7.out.below hb8)
        have x0F0_8 := Lib.hid (x0F0_7.out.below hb8)
        have x0F1_8 := Lib.hid (x0F1_7.out.below hb8)
        have x2_8 := Lib.hid (x2_7.out.below hb8)
        have x2F_8 := Lib.hid (x2F_7.out.below hb8)
        have hz8 : (w7).heap.size ≤ w8.heap.size := hb8.size
        clear hb8 o8
        go_wp2_with fail
        refine (eqPassageS_same _ _ l2 _ x2_8.out S8.out).mono ?_
        rintro e w9 ⟨rfl, hb9⟩
        have B9 := Lib.hid (B8.out.trans (hb9.mono B8.out.size))
        have x0_9 := Lib.hid (x0_8.out.below hb9)
        have x0F0_9 := Lib.hid (x0F0_8.out.below hb9)
        have x0F1_9 := Lib.hid (x0F1_8.out.below hb9)
        have x2_9 := Lib.hid (x2_8.out.below hb9)
        have x2F_9 := Lib.hid (x2F_8.out.below hb9)
        have hz9 : (w8).heap.size ≤ w9.heap.size := hb9.size
        clear hb9
        -- return true
        go_wp2
        go_ret
        exact ⟨rfl, BW.out.trans (B9.out.mono hs0)⟩

set_option maxRecDepth 100000 in
theorem lifted (os : Os) (started : os.Started) (H : Type) (enc : TypeId × Value → H) :
    ReturnsInHanded {} Try.checked os 9 .any (Rows.fnExactIsClearSpec.pre6 enc Try.prog Try.f9 Rows.fnExactIsClearRow.domain false) (Rows.fnExactIsClearSpec.post enc Try.prog Try.f9 false true false false) := by
  refine returnsInHanded_of_change (C := Try.checked) own started (by kernel_rfl) Try.func9
    (ChangeSpec.witness6 (enc := enc) (C := Try.checked) false ⟨#[], #[.agg #[.slice none 0 0, .slice none 0 0], .agg #[.int .i64 0, .bool false], .slice none 0 0], []⟩ 8 (by kernel_rfl) (by kernel_rfl) (by kernel_rfl) (by kernel_rfl)) ?_
  intro W base args ds gs before hval0 hW _ _
  have hval : ∀ (j : Nat) t v, Try.f9.params[j]? = some t → args[j]? = some v → Value.okWide Try.prog W .any base t v := hval0
  have hW' := hW
  obtain ⟨p, q, hA0, hV, rfl, _, _⟩ := hW
  have hA : DataW.TrodAll enc Try.prog W 0 (fun _ => true) true Try.f9.params.toList args.toList ds p := hA0
  rw [Try.params9] at hA hval
  obtain ⟨v0, vs0, d0, ds0, p0, q0, hargs, rfl, rfl, h0, r0⟩ := trodAll_cons hA
  obtain ⟨v1, vs1, d1, ds1, p1, q1, rfl, rfl, rfl, h1, r1⟩ := trodAll_cons r0
  obtain ⟨v2, vs2, d2, ds2, p2, q2, rfl, rfl, rfl, h2, r2⟩ := trodAll_cons r1
  obtain ⟨rfl, rfl, rfl⟩ := trodAll_nil r2
  obtain rfl : args = #[v0, v1, v2] := by cases args; simp_all
  obtain ⟨A0_0, c0_0, A0_1, c0_1, d0', rfl, g0⟩ := open_chart_arg (hval 0 54 v0 rfl rfl) h0
  obtain ⟨d1', rfl, g1⟩ := open_regime_arg (hval 1 45 v1 rfl rfl) h1
  obtain ⟨A2, c2, l2, rfl, g2⟩ := open_passages_arg (hval 2 60 v2 rfl rfl) h2
  refine (law A0_0 c0_0 A0_1 c0_1 d0' d1' A2 c2 l2 W g0 g1 g2).mono fun e W' ⟨he, hb⟩ => ⟨_, he, ?_⟩
  exact law_post laidOut (by kernel_rfl) rfl (by kernel_rfl) Try.underlying4 rfl rfl rfl hW' hb

theorem holds : Rows.FnExactIsClearSaid :=
  OpenClaim.holds_of_wide 9 Try.f9 rfl rfl rfl rfl rfl rfl rfl ⟨rfl, rfl, rfl, rfl, rfl⟩ rfl rfl rfl rfl rfl (by kernel_rfl) Try.func9 (by kernel_rfl)
    (of_decide_eq_true (by kernel_rfl)) (by unfold Func.isWrapper; first | (rw [if_pos (by decide +kernel)]; kernel_rfl) | (rw [if_neg (by decide +kernel)]; exact ⟨rfl, rfl⟩))
    (fun os started H enc _ => lifted os started H enc)

end Go.Proofs.Ytpglaffmmddcdaa.exactIsClear
