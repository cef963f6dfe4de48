
/- The exact law of Clashes holds for all arguments: impl.Clashes answers as its model, and the arguments read as before. No condition. -/
import Derived.Test.YtpglaffmmddcdaaRows
import Derived.Test.YtpglaffmmddcdaaKit
import Derived.Test.YtpglaffmmddcdaaFirstSpec
import Derived.Test.YtpglaffmmddcdaaFirstImpl
import Derived.Test.YtpglaffmmddcdaaPassagesArg
import Derived.Deep.RegionHeld3
import Derived.Deep.DeepCutAuto
namespace Go.Proofs.Ytpglaffmmddcdaa.exactClashes
open Go.ChangeShapes Go.WideShapes Go.ChangeAt Go.RowKit
set_option maxRecDepth 100000

theorem own : ownKnob Try.prog.godebug = none := by kernel_rfl
theorem laidOut : laidOutB Try.prog = true := by kernel_rfl

set_option maxHeartbeats 16000000 in
theorem law (A0_0 : Option Addr) (c0_0 : Nat) (A0_1 : Option Addr) (c0_1 : Nat) (d0 : ChartD) (d1 : RegimeD) (A2 : Option Addr) (c2 : Nat) (l2 : List PassageD) (A3 : Option Addr) (c3 : Nat) (l3 : List PassageD) (w : World) (hin0 : ChartIn w A0_0 A0_1 c0_0 c0_1 d0) (_ : d1.wf) (hin2 : l2.length ≤ maxLen ∧ (l2.length ≤ 1000000000 → SlPassage w (.slice A2 l2.length c2) l2) ∧ ∀ x ∈ l2, PassageD.wf x) (hin3 : l3.length ≤ maxLen ∧ (l3.length ≤ 1000000000 → SlPassage w (.slice A3 l3.length c3) l3) ∧ ∀ x ∈ l3, PassageD.wf x) :
    Calls Try.prog 10 #[.agg #[.slice A0_0 d0.points.length c0_0, .slice A0_1 d0.segs.length c0_1], .agg #[.int .i64 d1.gap, .bool d1.noMeet], .slice A2 l2.length c2, .slice A3 l3.length c3] w fun e w' => e = .returned (.bool true) ∧ Below w.heap.size w w' := by
  have hsz0 : SizChart w A0_0 A0_1 c0_0 c0_1 d0 := hin0
  clear hin0
  have SZ0 := Lib.hid hsz0
  obtain ⟨m0_0, s0_0, f0_0, m0_1, s0_1, f0_1⟩ := hsz0
  have SS0_0 := Lib.hid s0_0
  have SS0_1 := Lib.hid s0_1
  have WF0_0 := Lib.hid f0_0
  clear s0_0 f0_0 s0_1 f0_1
  have bp0 := bulkChart_pos d0
  obtain ⟨m2, s2, f2⟩ := hin2
  unfold maxLen at m2
  have SS2 := Lib.hid s2
  have FF2 := Lib.hid f2
  clear s2 f2
  obtain ⟨m3, s3, f3⟩ := hin3
  unfold maxLen at m3
  have SS3 := Lib.hid s3
  have FF3 := Lib.hid f3
  clear s3 f3
  have HB0 : Below w.heap.size w ((w.alloc (.cells #[.slice A0_0 d0.points.length c0_0, .slice A0_1 d0.segs.length c0_1] 54)).alloc (.cells #[.int .i64 d1.gap, .bool d1.noMeet] 45)) := by
    repeat (first | exact Below.refl _ _ | refine Below.alloc ?_ (by simp <;> omega) _)
  have BW := Lib.hid HB0
  clear HB0
  go_enter Try.func10, Try.ntmps10
  have B0 := Lib.hid (Below.refl (((w.alloc (.cells #[.slice A0_0 d0.points.length c0_0, .slice A0_1 d0.segs.length c0_1] 54)).alloc (.cells #[.int .i64 d1.gap, .bool d1.noMeet] 45))).heap.size ((w.alloc (.cells #[.slice A0_0 d0.points.length c0_0, .slice A0_1 d0.segs.length c0_1] 54)).alloc (.cells #[.int .i64 d1.gap, .bool d1.noMeet] 45)))
  have hs0 : w.heap.size ≤ (((w.alloc (.cells #[.slice A0_0 d0.points.length c0_0, .slice A0_1 d0.segs.length c0_1] 54)).alloc (.cells #[.int .i64 d1.gap, .bool d1.noMeet] 45))).heap.size := BW.out.size
  have ABX0 := Lib.hid (show (((w.alloc (.cells #[.slice A0_0 d0.points.length c0_0, .slice A0_1 d0.segs.length c0_1] 54)).alloc (.cells #[.int .i64 d1.gap, .bool d1.noMeet] 45))).cell? ⟨w.heap.size, 0, none⟩ = some (.slice A0_0 d0.points.length c0_0) ∧ (((w.alloc (.cells #[.slice A0_0 d0.points.length c0_0, .slice A0_1 d0.segs.length c0_1] 54)).alloc (.cells #[.int .i64 d1.gap, .bool d1.noMeet] 45))).cell? ⟨w.heap.size, 1, none⟩ = some (.slice A0_1 d0.segs.length c0_1) from by
    have hBk0 : Blk (w.alloc (.cells #[.slice A0_0 d0.points.length c0_0, .slice A0_1 d0.segs.length c0_1] 54)) (w.heap.size) #[.slice A0_0 d0.points.length c0_0, .slice A0_1 d0.segs.length c0_1] 54 := Blk.newAt (w := w) (by first | rfl | simp) _ _
    have hBk : Blk ((w.alloc (.cells #[.slice A0_0 d0.points.length c0_0, .slice A0_1 d0.segs.length c0_1] 54)).alloc (.cells #[.int .i64 d1.gap, .bool d1.noMeet] 45)) (w.heap.size) #[.slice A0_0 d0.points.length c0_0, .slice A0_1 d0.segs.length c0_1] 54 := hBk0.below (by repeat (first | exact Below.refl _ _ | refine Below.alloc ?_ (by simp) _))
    exact ⟨hBk.cell 0, hBk.cell 1⟩)
  have ABX1 := Lib.hid (show (((w.alloc (.cells #[.slice A0_0 d0.points.length c0_0, .slice A0_1 d0.segs.length c0_1] 54)).alloc (.cells #[.int .i64 d1.gap, .bool d1.noMeet] 45))).cell? ⟨w.heap.size + 1, 0, none⟩ = some (.int .i64 d1.gap) ∧ (((w.alloc (.cells #[.slice A0_0 d0.points.length c0_0, .slice A0_1 d0.segs.length c0_1] 54)).alloc (.cells #[.int .i64 d1.gap, .bool d1.noMeet] 45))).cell? ⟨w.heap.size + 1, 1, none⟩ = some (.bool d1.noMeet) from by
    have hBk0 : Blk ((w.alloc (.cells #[.slice A0_0 d0.points.length c0_0, .slice A0_1 d0.segs.length c0_1] 54)).alloc (.cells #[.int .i64 d1.gap, .bool d1.noMeet] 45)) (w.heap.size + 1) #[.int .i64 d1.gap, .bool d1.noMeet] 45 := Blk.newAt (w := (w.alloc (.cells #[.slice A0_0 d0.points.length c0_0, .slice A0_1 d0.segs.length c0_1] 54))) (by first | rfl | simp) _ _
    have hBk : Blk ((w.alloc (.cells #[.slice A0_0 d0.points.length c0_0, .slice A0_1 d0.segs.length c0_1] 54)).alloc (.cells #[.int .i64 d1.gap, .bool d1.noMeet] 45)) (w.heap.size + 1) #[.int .i64 d1.gap, .bool d1.noMeet] 45 := hBk0.below (by repeat (first | exact Below.refl _ _ | refine Below.alloc ?_ (by simp) _))
    exact ⟨hBk.cell 0, hBk.cell 1⟩)
  obtain ⟨r0, hr0⟩ : ∃ r0, (clashB d0 d1 l2 l3) = r0 := ⟨_, rfl⟩
  have HR0 := Lib.hid hr0
  clear hr0
  -- left := 1 << 20
  -- left = szChart(aC, left)
  have y0_0 : (((w.alloc (.cells #[.slice A0_0 d0.points.length c0_0, .slice A0_1 d0.segs.length c0_1] 54)).alloc (.cells #[.int .i64 d1.gap, .bool d1.noMeet] 45))).cell? ⟨w.heap.size, 0, none⟩ = some (.slice A0_0 d0.points.length c0_0) := cell_onV (ABX0.out.1) B0.out
  have y0_1 : (((w.alloc (.cells #[.slice A0_0 d0.points.length c0_0, .slice A0_1 d0.segs.length c0_1] 54)).alloc (.cells #[.int .i64 d1.gap, .bool d1.noMeet] 45))).cell? ⟨w.heap.size, 1, none⟩ = some (.slice A0_1 d0.segs.length c0_1) := cell_onV (ABX0.out.2) B0.out
  have hl1 : 0 ≤ (1048576 : Int) := by omega
  have hll1 : (1048576 : Int) ≤ 1048576 := by omega
  go_wp2_with fail
  refine (szChart_any _ _ _ _ d0 _ (SizChart.below SZ0.out (BW.out.trans (B0.out.mono hs0))) (1048576) hl1 hll1).mono ?_
  rintro e w1 ⟨rfl, hb1⟩
  have B1 := Lib.hid (B0.out.trans (hb1.mono B0.out.size))
  have hz1 : (((w.alloc (.cells #[.slice A0_0 d0.points.length c0_0, .slice A0_1 d0.segs.length c0_1] 54)).alloc (.cells #[.int .i64 d1.gap, .bool d1.noMeet] 45))).heap.size ≤ w1.heap.size := hb1.size
  clear hb1 y0_0 y0_1
  by_cases neg1 : (1048576 : Int) < bulkChart d0
  · rw [leftOf_no neg1]
    go_wp2
    go_ret
    exact ⟨rfl, BW.out.trans (B1.out.mono hs0)⟩
  rw [leftOf_yes neg1]
  have ne1 : ¬ (1048576 - bulkChart d0 : Int) < 0 := by omega
  have le0 := bulkChart_le d0
  have R0 : Hid (RdChart w (.slice A0_0 d0.points.length c0_0) (.slice A0_1 d0.segs.length c0_1) d0) := Lib.hid ⟨SS0_0.out (by omega), SS0_1.out (by omega)⟩
  -- left = szPassageS(aA, left)
  have hl2 : 0 ≤ (1048576 - bulkChart d0 : Int) := by omega
  have hll2 : (1048576 - bulkChart d0 : Int) ≤ 1048576 := by omega
  go_wp2_with fail
  refine (szPassageS_any A2 l2 c2 _ (by omega) (fun h => (SS2.out h).below (BW.out.trans (B1.out.mono hs0))) (1048576 - bulkChart d0) hl2 hll2).mono ?_
  rintro e w2 ⟨rfl, hb2⟩
  have B2 := Lib.hid (B1.out.trans (hb2.mono B1.out.size))
  have hz2 : (w1).heap.size ≤ w2.heap.size := hb2.size
  clear hb2 
  have ps2 := bulkPassage_pos l2
  by_cases neg2 : (1048576 - bulkChart d0 : Int) < ((l2.length : Int) + bulkPassage l2)
  · rw [leftOf_no neg2]
    go_wp2
    go_ret
    exact ⟨rfl, BW.out.trans (B2.out.mono hs0)⟩
  rw [leftOf_yes neg2]
  have ne2 : ¬ (1048576 - bulkChart d0 - ((l2.length : Int) + bulkPassage l2) : Int) < 0 := by omega
  have R2 := Lib.hid (SS2.out (by omega))
  clear SS2
  -- left = szPassageS(aB, left)
  have hl3 : 0 ≤ (1048576 - bulkChart d0 - ((l2.length : Int) + bulkPassage l2) : Int) := by omega
  have hll3 : (1048576 - bulkChart d0 - ((l2.length : Int) + bulkPassage l2) : Int) ≤ 1048576 := by omega
  go_wp2_with fail
  refine (szPassageS_any A3 l3 c3 _ (by omega) (fun h => (SS3.out h).below (BW.out.trans (B2.out.mono hs0))) (1048576 - bulkChart d0 - ((l2.length : Int) + bulkPassage l2)) hl3 hll3).mono ?_
  rintro e w3 ⟨rfl, hb3⟩
  have B3 := Lib.hid (B2.out.trans (hb3.mono B2.out.size))
  have hz3 : (w2).heap.size ≤ w3.heap.size := hb3.size
  clear hb3 
  have ps3 := bulkPassage_pos l3
  by_cases neg3 : (1048576 - bulkChart d0 - ((l2.length : Int) + bulkPassage l2) : Int) < ((l3.length : Int) + bulkPassage l3)
  · rw [leftOf_no neg3]
    go_wp2
    go_ret
    exact ⟨rfl, BW.out.trans (B3.out.mono hs0)⟩
  rw [leftOf_yes neg3]
  have ne3 : ¬ (1048576 - bulkChart d0 - ((l2.length : Int) + bulkPassage l2) - ((l3.length : Int) + bulkPassage l3) : Int) < 0 := by omega
  have R3 := Lib.hid (SS3.out (by omega))
  clear SS3
  -- w0 := spec.Clashes(toChart(aC), toRegime(aR), toPassageS(aA), toPassageS(aB))
  have y0_0 : (w3).cell? ⟨w.heap.size, 0, none⟩ = some (.slice A0_0 d0.points.length c0_0) := cell_onV (ABX0.out.1) B3.out
  have y0_1 : (w3).cell? ⟨w.heap.size, 1, none⟩ = some (.slice A0_1 d0.segs.length c0_1) := cell_onV (ABX0.out.2) B3.out
  have y1_0 : (w3).cell? ⟨w.heap.size + 1, 0, none⟩ = some (.int .i64 d1.gap) := cell_onV (ABX1.out.1) B3.out
  have y1_1 : (w3).cell? ⟨w.heap.size + 1, 1, none⟩ = some (.bool d1.noMeet) := cell_onV (ABX1.out.2) B3.out
  have DD := Lib.hid ((Below.refl (w3).heap.size (w3)).drew)
  go_upto_region 11 with fail
  go_cut [10] (fun sL wx => sL = .bool r0 ∧ Hid (Below (w3).heap.size (w3) wx))
  case first =>
    refine wp_region_held_drew (S := (fun w' => w'.cell? ⟨w.heap.size, 0, none⟩ = some (.slice A0_0 d0.points.length c0_0) ∧ w'.cell? ⟨w.heap.size, 1, none⟩ = some (.slice A0_1 d0.segs.length c0_1) ∧ w'.cell? ⟨w.heap.size + 1, 0, none⟩ = some (.int .i64 d1.gap) ∧ w'.cell? ⟨w.heap.size + 1, 1, none⟩ = some (.bool d1.noMeet) ∧ Hid (Below (w3).heap.size (w3) w'))) (by kernel_rfl) ?_ (fun hHeld => ?_)
    · (try dsimp only); go_keep
    refine wpAnyH_take (i := 0) (v := ?_) (by simp only [List.getElem?_toArray, List.getElem?_cons_zero]; rfl) (by kernel_rfl) (by kernel_rfl) (by kernel_rfl) (by exact fun _ _ _ h => h) (Or.inl ⟨by rfl, ?_⟩) (by assumption) ?_; rotate_left; focus (intro w hSw; (try dsimp only at hSw); first | (go_simp; done) | (go_simp; with_reducible rfl))
    try simp only [Act.put, List.setIfInBounds_toArray, List.set_cons_zero, List.set_cons_succ]
    refine wpAnyH_take (i := 2) (v := ?_) (by simp only [List.getElem?_toArray, List.getElem?_cons_succ, List.getElem?_cons_zero]; rfl) (by kernel_rfl) (by kernel_rfl) (by kernel_rfl) (by exact fun _ _ _ h => h) (Or.inl ⟨by rfl, ?_⟩) (by assumption) ?_; rotate_left; focus (intro w hSw; (try dsimp only at hSw); first | (go_simp; done) | (go_simp; with_reducible rfl))
    try simp only [Act.put, List.setIfInBounds_toArray, List.set_cons_zero, List.set_cons_succ]
    refine wpAnyH_take (i := 4) (v := ?_) (by simp only [List.getElem?_toArray, List.getElem?_cons_succ, List.getElem?_cons_zero]; rfl) (by kernel_rfl) (by kernel_rfl) (by kernel_rfl) (by exact fun _ _ _ h => h) (Or.inl ⟨by rfl, ?_⟩) (by assumption) ?_; rotate_left; focus (intro w hSw; (try dsimp only at hSw); first | (go_simp; done) | (go_simp; with_reducible rfl))
    try simp only [Act.put, List.setIfInBounds_toArray, List.set_cons_zero, List.set_cons_succ]
    refine wpAnyH_take (i := 6) (v := ?_) (by simp only [List.getElem?_toArray, List.getElem?_cons_succ, List.getElem?_cons_zero]; rfl) (by kernel_rfl) (by kernel_rfl) (by kernel_rfl) (by exact fun _ _ _ h => h) (Or.inl ⟨by rfl, ?_⟩) (by assumption) ?_; rotate_left; focus (intro w hSw; (try dsimp only at hSw); first | (go_simp; done) | (go_simp; with_reducible rfl))
    try simp only [Act.put, List.setIfInBounds_toArray, List.set_cons_zero, List.set_cons_succ]
    refine wpAnyH_ready (rs := [1]) (by kernel_rfl) (by simp) ?_
    refine AllReadyH.cons rfl (fun K hK => ?_) AllReadyH.nil
    rw [if_pos (by rfl)]
    go_simp
    go_at_call 28
    have kB := hHeld.2.2.2.2
    refine (toChart_any _ _ d0 _ (R0.out.below (BW.out.trans ((B3.out.trans (kB.out.mono B3.out.size)).mono hs0)))).mono ?_
    intro e wt0 hN
    obtain ⟨Q0_0, q0_0, Q0_1, q0_1, rfl, hRD, hbk⟩ := hN.rd (by omega) (by omega)
    have HRD0 := Lib.hid hRD
    have HBK := kB.out.trans (hbk.mono kB.out.size)
    have QS0 := Lib.hid (show wt0.cell? ⟨w.heap.size, 0, none⟩ = some (.slice A0_0 d0.points.length c0_0) ∧ wt0.cell? ⟨w.heap.size, 1, none⟩ = some (.slice A0_1 d0.segs.length c0_1) ∧ wt0.cell? ⟨w.heap.size + 1, 0, none⟩ = some (.int .i64 d1.gap) ∧ wt0.cell? ⟨w.heap.size + 1, 1, none⟩ = some (.bool d1.noMeet) ∧ Hid (Below (w3).heap.size (w3) wt0) from ⟨cell_onV (cell_onV (ABX0.out.1) B3.out) HBK, cell_onV (cell_onV (ABX0.out.2) B3.out) HBK, cell_onV (cell_onV (ABX1.out.1) B3.out) HBK, cell_onV (cell_onV (ABX1.out.2) B3.out) HBK, Lib.hid HBK⟩)
    clear hbk kB hHeld hN hRD HBK
    go_simp
    refine hK.out _ _ ?_ (fun hHeld => ?_)
    · (try dsimp only); exact QS0.out
    clear hK K
    try simp only [Act.put, List.setIfInBounds_toArray, List.set_cons_zero, List.set_cons_succ]
    refine wpAnyH_ready (rs := [3]) (by kernel_rfl) (by simp) ?_
    refine AllReadyH.cons rfl (fun K hK => ?_) AllReadyH.nil
    rw [if_pos (by rfl)]
    go_simp
    go_at_call 23
    have kB := hHeld.2.2.2.2
    refine (toRegime_any d1.gap d1.noMeet _).mono ?_
    rintro e wt1 ⟨rfl, hbk⟩
    have HRD0' := Lib.hid (HRD0.out.below hbk)
    clear HRD0
    have HRD0 := HRD0'
    clear HRD0'
    have HBK := kB.out.trans (hbk.mono kB.out.size)
    have QS1 := Lib.hid (show wt1.cell? ⟨w.heap.size, 0, none⟩ = some (.slice A0_0 d0.points.length c0_0) ∧ wt1.cell? ⟨w.heap.size, 1, none⟩ = some (.slice A0_1 d0.segs.length c0_1) ∧ wt1.cell? ⟨w.heap.size + 1, 0, none⟩ = some (.int .i64 d1.gap) ∧ wt1.cell? ⟨w.heap.size + 1, 1, none⟩ = some (.bool d1.noMeet) ∧ Hid (Below (w3).heap.size (w3) wt1) from ⟨cell_onV (cell_onV (ABX0.out.1) B3.out) HBK, cell_onV (cell_onV (ABX0.out.2) B3.out) HBK, cell_onV (cell_onV (ABX1.out.1) B3.out) HBK, cell_onV (cell_onV (ABX1.out.2) B3.out) HBK, Lib.hid HBK⟩)
    clear hbk kB hHeld HBK
    go_simp
    refine hK.out _ _ ?_ (fun hHeld => ?_)
    · (try dsimp only); exact QS1.out
    clear hK K
    try simp only [Act.put, List.setIfInBounds_toArray, List.set_cons_zero, List.set_cons_succ]
    refine wpAnyH_ready (rs := [5]) (by kernel_rfl) (by simp) ?_
    refine AllReadyH.cons rfl (fun K hK => ?_) AllReadyH.nil
    rw [if_pos (by rfl)]
    go_simp
    go_at_call 33
    have kB := hHeld.2.2.2.2
    refine (toPassageS_any _ l2 _ (R2.out.below (BW.out.trans ((B3.out.trans (kB.out.mono B3.out.size)).mono hs0)))).mono ?_
    rintro e wt2 ⟨uz2, rfl, oz2, hbk⟩
    have hRD := OwnPassage.sl oz2 (by omega)
    obtain ⟨Dz2, kz2, rfl⟩ := own_form oz2
    have HRD0' := Lib.hid (HRD0.out.below hbk)
    clear HRD0
    have HRD0 := HRD0'
    clear HRD0'
    have HRD2 := Lib.hid hRD
    have HBK := kB.out.trans (hbk.mono kB.out.size)
    have QS2 := Lib.hid (show wt2.cell? ⟨w.heap.size, 0, none⟩ = some (.slice A0_0 d0.points.length c0_0) ∧ wt2.cell? ⟨w.heap.size, 1, none⟩ = some (.slice A0_1 d0.segs.length c0_1) ∧ wt2.cell? ⟨w.heap.size + 1, 0, none⟩ = some (.int .i64 d1.gap) ∧ wt2.cell? ⟨w.heap.size + 1, 1, none⟩ = some (.bool d1.noMeet) ∧ Hid (Below (w3).heap.size (w3) wt2) from ⟨cell_onV (cell_onV (ABX0.out.1) B3.out) HBK, cell_onV (cell_onV (ABX0.out.2) B3.out) HBK, cell_onV (cell_onV (ABX1.out.1) B3.out) HBK, cell_onV (cell_onV (ABX1.out.2) B3.out) HBK, Lib.hid HBK⟩)
    clear hbk kB hHeld oz2 hRD HBK
    go_simp
    refine hK.out _ _ ?_ (fun hHeld => ?_)
    · (try dsimp only); exact QS2.out
    clear hK K
    try simp only [Act.put, List.setIfInBounds_toArray, List.set_cons_zero, List.set_cons_succ]
    refine wpAnyH_ready (rs := [7]) (by kernel_rfl) (by simp) ?_
    refine AllReadyH.cons rfl (fun K hK => ?_) AllReadyH.nil
    rw [if_pos (by rfl)]
    go_simp
    go_at_call 33
    have kB := hHeld.2.2.2.2
    refine (toPassageS_any _ l3 _ (R3.out.below (BW.out.trans ((B3.out.trans (kB.out.mono B3.out.size)).mono hs0)))).mono ?_
    rintro e wt3 ⟨uz3, rfl, oz3, hbk⟩
    have hRD := OwnPassage.sl oz3 (by omega)
    obtain ⟨Dz3, kz3, rfl⟩ := own_form oz3
    have HRD0' := Lib.hid (HRD0.out.below hbk)
    clear HRD0
    have HRD0 := HRD0'
    clear HRD0'
    have HRD2' := Lib.hid (HRD2.out.below hbk)
    clear HRD2
    have HRD2 := HRD2'
    clear HRD2'
    have HRD3 := Lib.hid hRD
    have HBK := kB.out.trans (hbk.mono kB.out.size)
    have QS3 := Lib.hid (show wt3.cell? ⟨w.heap.size, 0, none⟩ = some (.slice A0_0 d0.points.length c0_0) ∧ wt3.cell? ⟨w.heap.size, 1, none⟩ = some (.slice A0_1 d0.segs.length c0_1) ∧ wt3.cell? ⟨w.heap.size + 1, 0, none⟩ = some (.int .i64 d1.gap) ∧ wt3.cell? ⟨w.heap.size + 1, 1, none⟩ = some (.bool d1.noMeet) ∧ Hid (Below (w3).heap.size (w3) wt3) from ⟨cell_onV (cell_onV (ABX0.out.1) B3.out) HBK, cell_onV (cell_onV (ABX0.out.2) B3.out) HBK, cell_onV (cell_onV (ABX1.out.1) B3.out) HBK, cell_onV (cell_onV (ABX1.out.2) B3.out) HBK, Lib.hid HBK⟩)
    clear hbk kB hHeld oz3 hRD HBK
    go_simp
    refine hK.out _ _ ?_ (fun hHeld => ?_)
    · (try dsimp only); exact QS3.out
    clear hK K
    try simp only [Act.put, List.setIfInBounds_toArray, List.set_cons_zero, List.set_cons_succ]
    refine wpAnyH_ready (rs := [8]) (by kernel_rfl) (by simp) ?_
    refine AllReadyH.cons rfl (fun K hK => ?_) AllReadyH.nil
    rw [if_pos (by rfl)]
    go_simp
    go_at_call 36
    have kB := hHeld.2.2.2.2
    refine (specClashes _ _ d0 d1 _ l2 _ l3 _ HRD0.out HRD2.out HRD3.out WF0_0.out FF2.out FF3.out).mono ?_
    rw [HR0.out]
    rintro e wq ⟨rfl, hbk⟩
    have HBK := kB.out.trans (hbk.mono kB.out.size)
    have QQ := Lib.hid (show wq.cell? ⟨w.heap.size, 0, none⟩ = some (.slice A0_0 d0.points.length c0_0) ∧ wq.cell? ⟨w.heap.size, 1, none⟩ = some (.slice A0_1 d0.segs.length c0_1) ∧ wq.cell? ⟨w.heap.size + 1, 0, none⟩ = some (.int .i64 d1.gap) ∧ wq.cell? ⟨w.heap.size + 1, 1, none⟩ = some (.bool d1.noMeet) ∧ Hid (Below (w3).heap.size (w3) wq) from ⟨cell_onV (cell_onV (ABX0.out.1) B3.out) HBK, cell_onV (cell_onV (ABX0.out.2) B3.out) HBK, cell_onV (cell_onV (ABX1.out.1) B3.out) HBK, cell_onV (cell_onV (ABX1.out.2) B3.out) HBK, Lib.hid HBK⟩)
    clear hbk kB hHeld HBK
    go_simp
    refine hK.out _ _ ?_ (fun hHeld => ?_)
    · (try dsimp only); exact QQ.out
    clear hK K
    try simp only [Act.put, List.setIfInBounds_toArray, List.set_cons_zero, List.set_cons_succ]
    refine wpAnyH_take (i := 9) (v := ?_) (by simp only [List.getElem?_toArray, List.getElem?_cons_succ, List.getElem?_cons_zero]; rfl) (by kernel_rfl) (by kernel_rfl) (by kernel_rfl) (by exact fun _ _ _ h => h) (Or.inl ⟨by rfl, ?_⟩) (by assumption) ?_; rotate_left; focus (intro w hSw; (try dsimp only at hSw); first | (go_simp; done) | (go_simp; with_reducible rfl))
    try simp only [Act.put, List.setIfInBounds_toArray, List.set_cons_zero, List.set_cons_succ]
    refine wpAnyH_done (by kernel_rfl) ?_ _
    go_wp2_with fail
    go_meet
    exact ⟨rfl, hHeld.2.2.2.2⟩
  case rest =>
    obtain ⟨rfl, hbH⟩ := hcut
    have hb4 := hbH.out
    obtain ⟨w4, rfl⟩ : ∃ W, W = wc := ⟨_, rfl⟩
    clear hbH DD y0_0 y0_1 y1_0 y1_1 
    have B4 := Lib.hid (B3.out.trans (hb4.mono B3.out.size))
    have hz4 : (w3).heap.size ≤ w4.heap.size := hb4.size
    clear hb4
    -- x0 := toChart(aC)
    have y0_0 : (w4).cell? ⟨w.heap.size, 0, none⟩ = some (.slice A0_0 d0.points.length c0_0) := cell_onV (ABX0.out.1) B4.out
    have y0_1 : (w4).cell? ⟨w.heap.size, 1, none⟩ = some (.slice A0_1 d0.segs.length c0_1) := cell_onV (ABX0.out.2) B4.out
    go_wp2_with fail
    refine (toChart_any _ _ d0 _ (R0.out.below (BW.out.trans (B4.out.mono hs0)))).mono ?_
    intro e w5 hN
    obtain ⟨u5_0, u5_1, rfl, o5_0, o5_1, ap5_0_1, hb5⟩ := hN
    have S5_0 := Lib.hid (OwnPoint.sl o5_0 (by omega))
    have RG5_0 := Lib.hid (own_range o5_0)
    have FR5_0 := Lib.hid (own_freeV o5_0)
    obtain ⟨D5_0, k5_0, rfl⟩ := own_form o5_0
    have S5_1 := Lib.hid (OwnSegment.sl o5_1 (by omega))
    have RG5_1 := Lib.hid (own_range o5_1)
    have FR5_1 := Lib.hid (own_freeV o5_1)
    obtain ⟨D5_1, k5_1, rfl⟩ := own_form o5_1
    have AP5_0_1 := Lib.hid ap5_0_1
    clear ap5_0_1
    have B5 := Lib.hid (B4.out.trans (hb5.mono B4.out.size))
    have hz5 : (w4).heap.size ≤ w5.heap.size := hb5.size
    clear hb5 o5_0 o5_1 y0_0 y0_1
    have BX_x0 := Lib.hid (ChartBox.new 26 (show RdChart w5 (.slice D5_0 d0.points.length k5_0) (.slice D5_1 d0.segs.length k5_1) d0 from ⟨S5_0.out, S5_1.out⟩))
    have hb5b := Joins.below_alloc1 w5 (.cells #[.slice D5_0 d0.points.length k5_0, .slice D5_1 d0.segs.length k5_1] 26)
    have B5x := Lib.hid (B5.out.trans (hb5b.mono B5.out.size))
    have FX_x0_0 := Lib.hid (FR5_0.out.below hb5b)
    have FX_x0_1 := Lib.hid (FR5_1.out.below hb5b)
    clear hb5b
    have hsx5 : ((w5.alloc (.cells #[.slice D5_0 d0.points.length k5_0, .slice D5_1 d0.segs.length k5_1] 26))).heap.size = w5.heap.size + 1 := by simp
    -- x2 := toPassageS(aA)
    go_wp2_with fail
    refine (toPassageS_any _ l2 _ (R2.out.below (BW.out.trans (B5x.out.mono hs0)))).mono ?_
    rintro e w6 ⟨u6, rfl, o6, hb6⟩
    have S6 := Lib.hid (OwnPassage.sl o6 (by omega))
    have RG6 := Lib.hid (own_range o6)
    have FR6 := Lib.hid (own_freeV o6)
    obtain ⟨D6, k6, rfl⟩ := own_form o6
    have B6 := Lib.hid (B5x.out.trans (hb6.mono B5x.out.size))
    have x0_6 := Lib.hid (BX_x0.out.below hb6)
    have x0F0_6 := Lib.hid (FX_x0_0.out.below hb6)
    have x0F1_6 := Lib.hid (FX_x0_1.out.below hb6)
    have hz6 : ((w5.alloc (.cells #[.slice D5_0 d0.points.length k5_0, .slice D5_1 d0.segs.length k5_1] 26))).heap.size ≤ w6.heap.size := hb6.size
    clear hb6 o6
    -- x3 := toPassageS(aB)
    go_wp2_with fail
    refine (toPassageS_any _ l3 _ (R3.out.below (BW.out.trans (B6.out.mono hs0)))).mono ?_
    rintro e w7 ⟨u7, rfl, o7, hb7⟩
    have S7 := Lib.hid (OwnPassage.sl o7 (by omega))
    have RG7 := Lib.hid (own_range o7)
    have FR7 := Lib.hid (own_freeV o7)
    obtain ⟨D7, k7, rfl⟩ := own_form o7
    have B7 := Lib.hid (B6.out.trans (hb7.mono B6.out.size))
    have x0_7 := Lib.hid (x0_6.out.below hb7)
    have x0F0_7 := Lib.hid (x0F0_6.out.below hb7)
    have x0F1_7 := Lib.hid (x0F1_6.out.below hb7)
    have x2_7 := Lib.hid (S6.out.below hb7)
    have x2F_7 := Lib.hid (FR6.out.below hb7)
    have hz7 : (w6).heap.size ≤ w7.heap.size := hb7.size
    clear hb7 o7
    -- g0 := impl.Clashes(x0, toRegime(aR), x2, x3)
    have y1_0 : (w7).cell? ⟨w.heap.size + 1, 0, none⟩ = some (.int .i64 d1.gap) := cell_onV (ABX1.out.1) B7.out
    have y1_1 : (w7).cell? ⟨w.heap.size + 1, 1, none⟩ = some (.bool d1.noMeet) := cell_onV (ABX1.out.2) B7.out
    obtain ⟨z_x0_0, z_x0_1, _⟩ := x0_7.out
    have DD := Lib.hid ((Below.refl (w7).heap.size (w7)).drew)
    go_upto_region 15 with fail
    go_cut [14] (fun sL wx => sL = .bool r0 ∧ Hid (Below (w7).heap.size (w7) wx))
    case first =>
      refine wp_region_held_drew (S := (fun w' => w'.cell? ⟨w5.heap.size, 0, none⟩ = some (.slice D5_0 d0.points.length k5_0) ∧ w'.cell? ⟨w5.heap.size, 1, none⟩ = some (.slice D5_1 d0.segs.length k5_1) ∧ w'.cell? ⟨w.heap.size + 1, 0, none⟩ = some (.int .i64 d1.gap) ∧ w'.cell? ⟨w.heap.size + 1, 1, none⟩ = some (.bool d1.noMeet) ∧ Hid (Below (w7).heap.size (w7) w'))) (by kernel_rfl) ?_ (fun hHeld => ?_)
      · (try dsimp only); go_keep
      refine wpAnyH_take (i := 0) (v := ?_) (by simp only [List.getElem?_toArray, List.getElem?_cons_zero]; rfl) (by kernel_rfl) (by kernel_rfl) (by kernel_rfl) (by exact fun _ _ _ h => h) (Or.inl ⟨by rfl, ?_⟩) (by assumption) ?_; rotate_left; focus (intro w hSw; (try dsimp only at hSw); first | (go_simp; done) | (go_simp; with_reducible rfl))
      try simp only [Act.put, List.setIfInBounds_toArray, List.set_cons_zero, List.set_cons_succ]
      refine wpAnyH_take (i := 1) (v := ?_) (by simp only [List.getElem?_toArray, List.getElem?_cons_succ, List.getElem?_cons_zero]; rfl) (by kernel_rfl) (by kernel_rfl) (by kernel_rfl) (by exact fun _ _ _ h => h) (Or.inl ⟨by rfl, ?_⟩) (by assumption) ?_; rotate_left; focus (intro w hSw; (try dsimp only at hSw); first | (go_simp; done) | (go_simp; with_reducible rfl))
      try simp only [Act.put, List.setIfInBounds_toArray, List.set_cons_zero, List.set_cons_succ]
      refine wpAnyH_take (i := 3) (v := ?_) (by simp only [List.getElem?_toArray, List.getElem?_cons_succ, List.getElem?_cons_zero]; rfl) (by kernel_rfl) (by kernel_rfl) (by kernel_rfl) (by exact fun _ _ _ h => h) (Or.inl ⟨by rfl, ?_⟩) (by assumption) ?_; rotate_left; focus (intro w hSw; (try dsimp only at hSw); first | (go_simp; done) | (go_simp; with_reducible rfl))
      try simp only [Act.put, List.setIfInBounds_toArray, List.set_cons_zero, List.set_cons_succ]
      refine wpAnyH_take (i := 4) (v := ?_) (by simp only [List.getElem?_toArray, List.getElem?_cons_succ, List.getElem?_cons_zero]; rfl) (by kernel_rfl) (by kernel_rfl) (by kernel_rfl) (by exact fun _ _ _ h => h) (Or.inl ⟨by rfl, ?_⟩) (by assumption) ?_; rotate_left; focus (intro w hSw; (try dsimp only at hSw); first | (go_simp; done) | (go_simp; with_reducible rfl))
      try simp only [Act.put, List.setIfInBounds_toArray, List.set_cons_zero, List.set_cons_succ]
      refine wpAnyH_ready (rs := [2]) (by kernel_rfl) (by simp) ?_
      refine AllReadyH.cons rfl (fun K hK => ?_) AllReadyH.nil
      rw [if_pos (by rfl)]
      go_simp
      go_at_call 23
      have kB := hHeld.2.2.2.2
      refine (toRegime_any d1.gap d1.noMeet _).mono ?_
      rintro e wt0 ⟨rfl, hbk⟩
      have HBK := kB.out.trans (hbk.mono kB.out.size)
      have QS0 := Lib.hid (show wt0.cell? ⟨w5.heap.size, 0, none⟩ = some (.slice D5_0 d0.points.length k5_0) ∧ wt0.cell? ⟨w5.heap.size, 1, none⟩ = some (.slice D5_1 d0.segs.length k5_1) ∧ wt0.cell? ⟨w.heap.size + 1, 0, none⟩ = some (.int .i64 d1.gap) ∧ wt0.cell? ⟨w.heap.size + 1, 1, none⟩ = some (.bool d1.noMeet) ∧ Hid (Below (w7).heap.size (w7) wt0) from ⟨(x0_7.out.below HBK).1, (x0_7.out.below HBK).2.1, cell_onV (cell_onV (ABX1.out.1) B7.out) HBK, cell_onV (cell_onV (ABX1.out.2) B7.out) HBK, Lib.hid HBK⟩)
      clear hbk kB hHeld HBK
      go_simp
      refine hK.out _ _ ?_ (fun hHeld => ?_)
      · (try dsimp only); exact QS0.out
      clear hK K
      try simp only [Act.put, List.setIfInBounds_toArray, List.set_cons_zero, List.set_cons_succ]
      refine wpAnyH_ready (rs := [5]) (by kernel_rfl) (by simp) ?_
      refine AllReadyH.cons rfl (fun K hK => ?_) AllReadyH.nil
      rw [if_pos (by rfl)]
      go_simp
      go_at_call 21
      have kB := hHeld.2.2.2.2
      refine (implClashes _ _ d0 d1 _ l2 _ l3 _ (x0_7.out.below kB.out).2.2 (x2_7.out.below kB.out) (S7.out.below kB.out) WF0_0.out FF2.out FF3.out).mono ?_
      rw [HR0.out]
      rintro e wq ⟨rfl, hbk⟩
      have HBK := kB.out.trans (hbk.mono kB.out.size)
      have QQ := Lib.hid (show wq.cell? ⟨w5.heap.size, 0, none⟩ = some (.slice D5_0 d0.points.length k5_0) ∧ wq.cell? ⟨w5.heap.size, 1, none⟩ = some (.slice D5_1 d0.segs.length k5_1) ∧ wq.cell? ⟨w.heap.size + 1, 0, none⟩ = some (.int .i64 d1.gap) ∧ wq.cell? ⟨w.heap.size + 1, 1, none⟩ = some (.bool d1.noMeet) ∧ Hid (Below (w7).heap.size (w7) wq) from ⟨(x0_7.out.below HBK).1, (x0_7.out.below HBK).2.1, cell_onV (cell_onV (ABX1.out.1) B7.out) HBK, cell_onV (cell_onV (ABX1.out.2) B7.out) HBK, Lib.hid HBK⟩)
      clear hbk kB hHeld HBK
      go_simp
      refine hK.out _ _ ?_ (fun hHeld => ?_)
      · (try dsimp only); exact QQ.out
      clear hK K
      try simp only [Act.put, List.setIfInBounds_toArray, List.set_cons_zero, List.set_cons_succ]
      refine wpAnyH_take (i := 6) (v := ?_) (by simp only [List.getElem?_toArray, List.getElem?_cons_succ, List.getElem?_cons_zero]; rfl) (by kernel_rfl) (by kernel_rfl) (by kernel_rfl) (by exact fun _ _ _ h => h) (Or.inl ⟨by rfl, ?_⟩) (by assumption) ?_; rotate_left; focus (intro w hSw; (try dsimp only at hSw); first | (go_simp; done) | (go_simp; with_reducible rfl))
      try simp only [Act.put, List.setIfInBounds_toArray, List.set_cons_zero, List.set_cons_succ]
      refine wpAnyH_done (by kernel_rfl) ?_ _
      go_wp2_with fail
      go_meet
      exact ⟨rfl, hHeld.2.2.2.2⟩
    case rest =>
      obtain ⟨rfl, hbH⟩ := hcut
      have hb8 := hbH.out
      obtain ⟨w8, rfl⟩ : ∃ W, W = wc := ⟨_, rfl⟩
      clear hbH DD y1_0 y1_1 z_x0_0 z_x0_1
      have B8 := Lib.hid (B7.out.trans (hb8.mono B7.out.size))
      have x0_8 := Lib.hid (x0_7.out.below hb8)
      have x0F0_8 := Lib.hid (x0F0_7.out.below hb8)
      have x0F1_8 := Lib.hid (x0F1_7.out.below hb8)
      have x2_8 := Lib.hid (x2_7.out.below hb8)
      have x2F_8 := Lib.hid (x2F_7.out.below hb8)
      have x3_8 := Lib.hid (S7.out.below hb8)
      have x3F_8 := Lib.hid (FR7.out.below hb8)
      have hz8 : (w7).heap.size ≤ w8.heap.size := hb8.size
      clear hb8
      -- if g0 != w0 {
      -- if !eqChart(x0, toChart(aC)) {
      have y0_0 : (w8).cell? ⟨w.heap.size, 0, none⟩ = some (.slice A0_0 d0.points.length c0_0) := cell_onV (ABX0.out.1) B8.out
      have y0_1 : (w8).cell? ⟨w.heap.size, 1, none⟩ = some (.slice A0_1 d0.segs.length c0_1) := cell_onV (ABX0.out.2) B8.out
      obtain ⟨z_x0_0, z_x0_1, _⟩ := x0_8.out
      have DD := Lib.hid ((Below.refl (w8).heap.size (w8)).drew)
      go_upto_region 18 with fail
      go_cut [58] (fun sL wx => sL = .bool false ∧ Hid (Below (w8).heap.size (w8) wx))
      case first =>
        refine wp_region_held_drew (S := (fun w' => w'.cell? ⟨w5.heap.size, 0, none⟩ = some (.slice D5_0 d0.points.length k5_0) ∧ w'.cell? ⟨w5.heap.size, 1, none⟩ = some (.slice D5_1 d0.segs.length k5_1) ∧ w'.cell? ⟨w.heap.size, 0, none⟩ = some (.slice A0_0 d0.points.length c0_0) ∧ w'.cell? ⟨w.heap.size, 1, none⟩ = some (.slice A0_1 d0.segs.length c0_1) ∧ Hid (Below (w8).heap.size (w8) w'))) (by kernel_rfl) ?_ (fun hHeld => ?_)
        · (try dsimp only); go_keep
        refine wpAnyH_take (i := 0) (v := ?_) (by simp only [List.getElem?_toArray, List.getElem?_cons_zero]; rfl) (by kernel_rfl) (by kernel_rfl) (by kernel_rfl) (by exact fun _ _ _ h => h) (Or.inl ⟨by rfl, ?_⟩) (by assumption) ?_; rotate_left; focus (intro w hSw; (try dsimp only at hSw); first | (go_simp; done) | (go_simp; with_reducible rfl))
        try simp only [Act.put, List.setIfInBounds_toArray, List.set_cons_zero, List.set_cons_succ]
        refine wpAnyH_take (i := 1) (v := ?_) (by simp only [List.getElem?_toArray, List.getElem?_cons_succ, List.getElem?_cons_zero]; rfl) (by kernel_rfl) (by kernel_rfl) (by kernel_rfl) (by exact fun _ _ _ h => h) (Or.inl ⟨by rfl, ?_⟩) (by assumption) ?_; rotate_left; focus (intro w hSw; (try dsimp only at hSw); first | (go_simp; done) | (go_simp; with_reducible rfl))
        try simp only [Act.put, List.setIfInBounds_toArray, List.set_cons_zero, List.set_cons_succ]
        refine wpAnyH_ready (rs := [2]) (by kernel_rfl) (by simp) ?_
        refine AllReadyH.cons rfl (fun K hK => ?_) AllReadyH.nil
        rw [if_pos (by rfl)]
        go_simp
        go_at_call 28
        have kB := hHeld.2.2.2.2
        refine (toChart_any _ _ d0 _ (R0.out.below (BW.out.trans ((B8.out.trans (kB.out.mono B8.out.size)).mono hs0)))).mono ?_
        intro e wt hN
        obtain ⟨Q0, q0, Q1, q1, rfl, hRD, hbk⟩ := hN.rd (by omega) (by omega)
        have HRD := Lib.hid hRD
        have HBK := kB.out.trans (hbk.mono kB.out.size)
        have QS := Lib.hid (show wt.cell? ⟨w5.heap.size, 0, none⟩ = some (.slice D5_0 d0.points.length k5_0) ∧ wt.cell? ⟨w5.heap.size, 1, none⟩ = some (.slice D5_1 d0.segs.length k5_1) ∧ wt.cell? ⟨w.heap.size, 0, none⟩ = some (.slice A0_0 d0.points.length c0_0) ∧ wt.cell? ⟨w.heap.size, 1, none⟩ = some (.slice A0_1 d0.segs.length c0_1) ∧ Hid (Below (w8).heap.size (w8) wt) from ⟨(x0_8.out.below HBK).1, (x0_8.out.below HBK).2.1, cell_onV (cell_onV (ABX0.out.1) B8.out) HBK, cell_onV (cell_onV (ABX0.out.2) B8.out) HBK, Lib.hid HBK⟩)
        clear hbk kB hHeld hN hRD HBK
        go_simp
        refine hK.out _ _ ?_ (fun hHeld => ?_)
        · (try dsimp only); exact QS.out
        clear hK K
        try simp only [Act.put, List.setIfInBounds_toArray, List.set_cons_zero, List.set_cons_succ]
        refine wpAnyH_ready (rs := [3]) (by kernel_rfl) (by simp) ?_
        refine AllReadyH.cons rfl (fun K hK => ?_) AllReadyH.nil
        rw [if_pos (by rfl)]
        go_simp
        go_at_call 29
        have kB := hHeld.2.2.2.2
        refine (eqChart_same _ _ _ _ d0 _ (x0_8.out.below kB.out).2.2 HRD.out).mono ?_
        rintro e wq ⟨rfl, hbk⟩
        have HBK := kB.out.trans (hbk.mono kB.out.size)
        have QQ := Lib.hid (show wq.cell? ⟨w5.heap.size, 0, none⟩ = some (.slice D5_0 d0.points.length k5_0) ∧ wq.cell? ⟨w5.heap.size, 1, none⟩ = some (.slice D5_1 d0.segs.length k5_1) ∧ wq.cell? ⟨w.heap.size, 0, none⟩ = some (.slice A0_0 d0.points.length c0_0) ∧ wq.cell? ⟨w.heap.size, 1, none⟩ = some (.slice A0_1 d0.segs.length c0_1) ∧ Hid (Below (w8).heap.size (w8) wq) from ⟨(x0_8.out.below HBK).1, (x0_8.out.below HBK).2.1, cell_onV (cell_onV (ABX0.out.1) B8.out) HBK, cell_onV (cell_onV (ABX0.out.2) B8.out) HBK, Lib.hid HBK⟩)
        clear hbk kB hHeld HBK
        go_simp
        refine hK.out _ _ ?_ (fun hHeld => ?_)
        · (try dsimp only); exact QQ.out
        clear hK K
        try simp only [Act.put, List.setIfInBounds_toArray, List.set_cons_zero, List.set_cons_succ]
        refine wpAnyH_take (i := 4) (v := ?_) (by simp only [List.getElem?_toArray, List.getElem?_cons_succ, List.getElem?_cons_zero]; rfl) (by kernel_rfl) (by kernel_rfl) (by kernel_rfl) (by exact fun _ _ _ h => h) (Or.inl ⟨by rfl, ?_⟩) (by assumption) ?_; rotate_left; focus (intro w hSw; (try dsimp only at hSw); first | (go_simp; done) | (go_simp; with_reducible rfl))
        try simp only [Act.put, List.setIfInBounds_toArray, List.set_cons_zero, List.set_cons_succ]
        refine wpAnyH_done (by kernel_rfl) ?_ _
        go_wp2_with fail
        go_meet
        exact ⟨rfl, hHeld.2.2.2.2⟩
      case rest =>
        obtain ⟨rfl, hbH⟩ := hcut
        have hb9 := hbH.out
        obtain ⟨w9, rfl⟩ : ∃ W, W = wc := ⟨_, rfl⟩
        clear hbH DD y0_0 y0_1 z_x0_0 z_x0_1
        have B9 := Lib.hid (B8.out.trans (hb9.mono B8.out.size))
        have x0_9 := Lib.hid (x0_8.out.below hb9)
        have x0F0_9 := Lib.hid (x0F0_8.out.below hb9)
        have x0F1_9 := Lib.hid (x0F1_8.out.below hb9)
        have x2_9 := Lib.hid (x2_8.out.below hb9)
        have x2F_9 := Lib.hid (x2F_8.out.below hb9)
        have x3_9 := Lib.hid (x3_8.out.below hb9)
        have x3F_9 := Lib.hid (x3F_8.out.below hb9)
        have hz9 : (w8).heap.size ≤ w9.heap.size := hb9.size
        clear hb9
        -- if !eqPassageS(x2, toPassageS(aA)) {
        go_wp2_with fail
        refine (toPassageS_any _ l2 _ (R2.out.below (BW.out.trans (B9.out.mono hs0)))).mono ?_
        rintro e w10 ⟨u10, rfl, o10, hb10⟩
        have S10 := Lib.hid (OwnPassage.sl o10 (by omega))
        have RG10 := Lib.hid (own_range o10)
        have FR10 := Lib.hid (own_freeV o10)
        obtain ⟨D10, k10, rfl⟩ := own_form o10
        have B10 := Lib.hid (B9.out.trans (hb10.mono B9.out.size))
        have x0_10 := Lib.hid (x0_9.out.below hb10)
        have x0F0_10 := Lib.hid (x0F0_9.out.below hb10)
        have x0F1_10 := Lib.hid (x0F1_9.out.below hb10)
        have x2_10 := Lib.hid (x2_9.out.below hb10)
        have x2F_10 := Lib.hid (x2F_9.out.below hb10)
        have x3_10 := Lib.hid (x3_9.out.below hb10)
        have x3F_10 := Lib.hid (x3F_9.out.below hb10)
        have hz10 : (w9).heap.size ≤ w10.heap.size := hb10.size
        clear hb10 o10
        go_wp2_with fail
        refine (eqPassageS_same _ _ l2 _ x2_10.out S10.out).mono ?_
        rintro e w11 ⟨rfl, hb11⟩
        have B11 := Lib.hid (B10.out.trans (hb11.mono B10.out.size))
        have x0_11 := Lib.hid (x0_10.out.below hb11)
        have x0F0_11 := Lib.hid (x0F0_10.out.below hb11)
        have x0F1_11 := Lib.hid (x0F1_10.out.below hb11)
        have x2_11 := Lib.hid (x2_10.out.below hb11)
        have x2F_11 := Lib.hid (x2F_10.out.below hb11)
        have x3_11 := Lib.hid (x3_10.out.below hb11)
        have x3F_11 := Lib.hid (x3F_10.out.below hb11)
        have hz11 : (w10).heap.size ≤ w11.heap.size := hb11.size
        clear hb11
        -- if !eqPassageS(x3, toPassageS(aB)) {
        go_wp2_with fail
        refine (toPassageS_any _ l3 _ (R3.out.below (BW.out.trans (B11.out.mono hs0)))).mono ?_
        rintro e w12 ⟨u12, rfl, o12, hb12⟩
        have S12 := Lib.hid (OwnPassage.sl o12 (by omega))
        have RG12 := Lib.hid (own_range o12)
        have FR12 := Lib.hid (own_freeV o12)
        obtain ⟨D12, k12, rfl⟩ := own_form o12
        have B12 := Lib.hid (B11.out.trans (hb12.mono B11.out.size))
        have x0_12 := Lib.hid (x0_11.out.below hb12)
        have x0F0_12 := Lib.hid (x0F0_11.out.below hb12)
        have x0F1_12 := Lib.hid (x0F1_11.out.below hb12)
        have x2_12 := Lib.hid (x2_11.out.below hb12)
        have x2F_12 := Lib.hid (x2F_11.out.below hb12)
        have x3_12 := Lib.hid (x3_11.out.below hb12)
        have x3F_12 := Lib.hid (x3F_11.out.below hb12)
        have hz12 : (w11).heap.size ≤ w12.heap.size := hb12.size
        clear hb12 o12
        go_wp2_with fail
        refine (eqPassageS_same _ _ l3 _ x3_12.out S12.out).mono ?_
        rintro e w13 ⟨rfl, hb13⟩
        have B13 := Lib.hid (B12.out.trans (hb13.mono B12.out.size))
        have x0_13 := Lib.hid (x0_12.out.below hb13)
        have x0F0_13 := Lib.hid (x0F0_12.out.below hb13)
        have x0F1_13 := Lib.hid (x0F1_12.out.below hb13)
        have x2_13 := Lib.hid (x2_12.out.below hb13)
        have x2F_13 := Lib.hid (x2F_12.out.below hb13)
        have x3_13 := Lib.hid (x3_12.out.below hb13)
        have x3F_13 := Lib.hid (x3F_12.out.below hb13)
        have hz13 : (w12).heap.size ≤ w13.heap.size := hb13.size
        clear hb13
        -- return true
        go_wp2
        go_ret
        exact ⟨rfl, BW.out.trans (B13.out.mono hs0)⟩

set_option maxRecDepth 100000 in
theorem lifted (os : Os) (started : os.Started) (H : Type) (enc : TypeId × Value → H) :
    ReturnsInHanded {} Try.checked os 10 .any (Rows.fnExactClashesSpec.pre6 enc Try.prog Try.f10 Rows.fnExactClashesRow.domain false) (Rows.fnExactClashesSpec.post enc Try.prog Try.f10 false true false false) := by
  refine returnsInHanded_of_change (C := Try.checked) own started (by kernel_rfl) Try.func10
    (ChangeSpec.witness6 (enc := enc) (C := Try.checked) false ⟨#[], #[.agg #[.slice none 0 0, .slice none 0 0], .agg #[.int .i64 0, .bool false], .slice none 0 0, .slice none 0 0], []⟩ 8 (by kernel_rfl) (by kernel_rfl) (by kernel_rfl) (by kernel_rfl)) ?_
  intro W base args ds gs before hval0 hW _ _
  have hval : ∀ (j : Nat) t v, Try.f10.params[j]? = some t → args[j]? = some v → Value.okWide Try.prog W .any base t v := hval0
  have hW' := hW
  obtain ⟨p, q, hA0, hV, rfl, _, _⟩ := hW
  have hA : DataW.TrodAll enc Try.prog W 0 (fun _ => true) true Try.f10.params.toList args.toList ds p := hA0
  rw [Try.params10] at hA hval
  obtain ⟨v0, vs0, d0, ds0, p0, q0, hargs, rfl, rfl, h0, r0⟩ := trodAll_cons hA
  obtain ⟨v1, vs1, d1, ds1, p1, q1, rfl, rfl, rfl, h1, r1⟩ := trodAll_cons r0
  obtain ⟨v2, vs2, d2, ds2, p2, q2, rfl, rfl, rfl, h2, r2⟩ := trodAll_cons r1
  obtain ⟨v3, vs3, d3, ds3, p3, q3, rfl, rfl, rfl, h3, r3⟩ := trodAll_cons r2
  obtain ⟨rfl, rfl, rfl⟩ := trodAll_nil r3
  obtain rfl : args = #[v0, v1, v2, v3] := by cases args; simp_all
  obtain ⟨A0_0, c0_0, A0_1, c0_1, d0', rfl, g0⟩ := open_chart_arg (hval 0 54 v0 rfl rfl) h0
  obtain ⟨d1', rfl, g1⟩ := open_regime_arg (hval 1 45 v1 rfl rfl) h1
  obtain ⟨A2, c2, l2, rfl, g2⟩ := open_passages_arg (hval 2 60 v2 rfl rfl) h2
  obtain ⟨A3, c3, l3, rfl, g3⟩ := open_passages_arg (hval 3 60 v3 rfl rfl) h3
  refine (law A0_0 c0_0 A0_1 c0_1 d0' d1' A2 c2 l2 A3 c3 l3 W g0 g1 g2 g3).mono fun e W' ⟨he, hb⟩ => ⟨_, he, ?_⟩
  exact law_post laidOut (by kernel_rfl) rfl (by kernel_rfl) Try.underlying4 rfl rfl rfl hW' hb

theorem holds : Rows.FnExactClashesSaid :=
  OpenClaim.holds_of_wide 10 Try.f10 rfl rfl rfl rfl rfl rfl rfl ⟨rfl, rfl, rfl, rfl, rfl⟩ rfl rfl rfl rfl rfl (by kernel_rfl) Try.func10 (by kernel_rfl)
    (of_decide_eq_true (by kernel_rfl)) (by unfold Func.isWrapper; first | (rw [if_pos (by decide +kernel)]; kernel_rfl) | (rw [if_neg (by decide +kernel)]; exact ⟨rfl, rfl⟩))
    (fun os started H enc _ => lifted os started H enc)

end Go.Proofs.Ytpglaffmmddcdaa.exactClashes
