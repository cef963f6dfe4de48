
/- The exact law of StricterRegime holds for all arguments: impl.StricterRegime answers as its model, and the arguments read as before. No condition. -/
import Derived.Test.YtpglaffmmddcdaaRows
import Derived.Test.YtpglaffmmddcdaaKit
import Derived.Test.YtpglaffmmddcdaaRuleImpl0
import Derived.Deep.RegionHeld3
import Derived.Deep.DeepCutAuto
namespace Go.Proofs.Ytpglaffmmddcdaa.exactStricterRegime
open Go.ChangeShapes Go.WideShapes Go.ChangeAt Go.RowKit
set_option maxRecDepth 100000

theorem own : ownKnob Try.prog.godebug = none := by kernel_rfl
theorem laidOut : laidOutB Try.prog = true := by kernel_rfl

set_option maxHeartbeats 16000000 in
theorem law (d0 : RegimeD) (d1 : RegimeD) (w : World) (_ : d0.wf) (_ : d1.wf) :
    Calls Try.prog 11 #[.agg #[.int .i64 d0.gap, .bool d0.noMeet], .agg #[.int .i64 d1.gap, .bool d1.noMeet]] w fun e w' => e = .returned (.bool true) ∧ Below w.heap.size w w' := by
  have HB0 : Below w.heap.size w ((w.alloc (.cells #[.int .i64 d0.gap, .bool d0.noMeet] 45)).alloc (.cells #[.int .i64 d1.gap, .bool d1.noMeet] 45)) := by
    repeat (first | exact Below.refl _ _ | refine Below.alloc ?_ (by simp <;> omega) _)
  have BW := Lib.hid HB0
  clear HB0
  go_enter Try.func11, Try.ntmps11
  have B0 := Lib.hid (Below.refl (((w.alloc (.cells #[.int .i64 d0.gap, .bool d0.noMeet] 45)).alloc (.cells #[.int .i64 d1.gap, .bool d1.noMeet] 45))).heap.size ((w.alloc (.cells #[.int .i64 d0.gap, .bool d0.noMeet] 45)).alloc (.cells #[.int .i64 d1.gap, .bool d1.noMeet] 45)))
  have hs0 : w.heap.size ≤ (((w.alloc (.cells #[.int .i64 d0.gap, .bool d0.noMeet] 45)).alloc (.cells #[.int .i64 d1.gap, .bool d1.noMeet] 45))).heap.size := BW.out.size
  have ABX0 := Lib.hid (show (((w.alloc (.cells #[.int .i64 d0.gap, .bool d0.noMeet] 45)).alloc (.cells #[.int .i64 d1.gap, .bool d1.noMeet] 45))).cell? ⟨w.heap.size, 0, none⟩ = some (.int .i64 d0.gap) ∧ (((w.alloc (.cells #[.int .i64 d0.gap, .bool d0.noMeet] 45)).alloc (.cells #[.int .i64 d1.gap, .bool d1.noMeet] 45))).cell? ⟨w.heap.size, 1, none⟩ = some (.bool d0.noMeet) from by
    have hBk0 : Blk (w.alloc (.cells #[.int .i64 d0.gap, .bool d0.noMeet] 45)) (w.heap.size) #[.int .i64 d0.gap, .bool d0.noMeet] 45 := Blk.newAt (w := w) (by first | rfl | simp) _ _
    have hBk : Blk ((w.alloc (.cells #[.int .i64 d0.gap, .bool d0.noMeet] 45)).alloc (.cells #[.int .i64 d1.gap, .bool d1.noMeet] 45)) (w.heap.size) #[.int .i64 d0.gap, .bool d0.noMeet] 45 := hBk0.below (by repeat (first | exact Below.refl _ _ | refine Below.alloc ?_ (by simp) _))
    exact ⟨hBk.cell 0, hBk.cell 1⟩)
  have ABX1 := Lib.hid (show (((w.alloc (.cells #[.int .i64 d0.gap, .bool d0.noMeet] 45)).alloc (.cells #[.int .i64 d1.gap, .bool d1.noMeet] 45))).cell? ⟨w.heap.size + 1, 0, none⟩ = some (.int .i64 d1.gap) ∧ (((w.alloc (.cells #[.int .i64 d0.gap, .bool d0.noMeet] 45)).alloc (.cells #[.int .i64 d1.gap, .bool d1.noMeet] 45))).cell? ⟨w.heap.size + 1, 1, none⟩ = some (.bool d1.noMeet) from by
    have hBk0 : Blk ((w.alloc (.cells #[.int .i64 d0.gap, .bool d0.noMeet] 45)).alloc (.cells #[.int .i64 d1.gap, .bool d1.noMeet] 45)) (w.heap.size + 1) #[.int .i64 d1.gap, .bool d1.noMeet] 45 := Blk.newAt (w := (w.alloc (.cells #[.int .i64 d0.gap, .bool d0.noMeet] 45))) (by first | rfl | simp) _ _
    have hBk : Blk ((w.alloc (.cells #[.int .i64 d0.gap, .bool d0.noMeet] 45)).alloc (.cells #[.int .i64 d1.gap, .bool d1.noMeet] 45)) (w.heap.size + 1) #[.int .i64 d1.gap, .bool d1.noMeet] 45 := hBk0.below (by repeat (first | exact Below.refl _ _ | refine Below.alloc ?_ (by simp) _))
    exact ⟨hBk.cell 0, hBk.cell 1⟩)
  obtain ⟨r0, hr0⟩ : ∃ r0, (strictB d0 d1) = r0 := ⟨_, rfl⟩
  have HR0 := Lib.hid hr0
  clear hr0
  -- w0 := spec.StricterRegime(toRegime(aA), toRegime(aB))
  have y0_0 : (((w.alloc (.cells #[.int .i64 d0.gap, .bool d0.noMeet] 45)).alloc (.cells #[.int .i64 d1.gap, .bool d1.noMeet] 45))).cell? ⟨w.heap.size, 0, none⟩ = some (.int .i64 d0.gap) := cell_onV (ABX0.out.1) B0.out
  have y0_1 : (((w.alloc (.cells #[.int .i64 d0.gap, .bool d0.noMeet] 45)).alloc (.cells #[.int .i64 d1.gap, .bool d1.noMeet] 45))).cell? ⟨w.heap.size, 1, none⟩ = some (.bool d0.noMeet) := cell_onV (ABX0.out.2) B0.out
  have y1_0 : (((w.alloc (.cells #[.int .i64 d0.gap, .bool d0.noMeet] 45)).alloc (.cells #[.int .i64 d1.gap, .bool d1.noMeet] 45))).cell? ⟨w.heap.size + 1, 0, none⟩ = some (.int .i64 d1.gap) := cell_onV (ABX1.out.1) B0.out
  have y1_1 : (((w.alloc (.cells #[.int .i64 d0.gap, .bool d0.noMeet] 45)).alloc (.cells #[.int .i64 d1.gap, .bool d1.noMeet] 45))).cell? ⟨w.heap.size + 1, 1, none⟩ = some (.bool d1.noMeet) := cell_onV (ABX1.out.2) B0.out
  have hDD := (Below.refl (((w.alloc (.cells #[.int .i64 d0.gap, .bool d0.noMeet] 45)).alloc (.cells #[.int .i64 d1.gap, .bool d1.noMeet] 45))).heap.size (((w.alloc (.cells #[.int .i64 d0.gap, .bool d0.noMeet] 45)).alloc (.cells #[.int .i64 d1.gap, .bool d1.noMeet] 45)))).drew
  simp only [World.size_alloc] at hDD
  have DD := Lib.hid hDD
  clear hDD
  go_upto_region 1 with fail
  go_cut [5] (fun sL wx => sL = .bool r0 ∧ Hid (Below (((w.alloc (.cells #[.int .i64 d0.gap, .bool d0.noMeet] 45)).alloc (.cells #[.int .i64 d1.gap, .bool d1.noMeet] 45))).heap.size (((w.alloc (.cells #[.int .i64 d0.gap, .bool d0.noMeet] 45)).alloc (.cells #[.int .i64 d1.gap, .bool d1.noMeet] 45))) wx))
  case first =>
    refine wp_region_held_drew (S := (fun w' => w'.cell? ⟨w.heap.size, 0, none⟩ = some (.int .i64 d0.gap) ∧ w'.cell? ⟨w.heap.size, 1, none⟩ = some (.bool d0.noMeet) ∧ w'.cell? ⟨w.heap.size + 1, 0, none⟩ = some (.int .i64 d1.gap) ∧ w'.cell? ⟨w.heap.size + 1, 1, none⟩ = some (.bool d1.noMeet) ∧ Hid (Below (((w.alloc (.cells #[.int .i64 d0.gap, .bool d0.noMeet] 45)).alloc (.cells #[.int .i64 d1.gap, .bool d1.noMeet] 45))).heap.size (((w.alloc (.cells #[.int .i64 d0.gap, .bool d0.noMeet] 45)).alloc (.cells #[.int .i64 d1.gap, .bool d1.noMeet] 45))) w'))) (by kernel_rfl) ?_ (fun hHeld => ?_)
    · (try dsimp only); go_keep
    refine wpAnyH_take (i := 0) (v := ?_) (by simp only [List.getElem?_toArray, List.getElem?_cons_zero]; rfl) (by kernel_rfl) (by kernel_rfl) (by kernel_rfl) (by exact fun _ _ _ h => h) (Or.inl ⟨by rfl, ?_⟩) (by assumption) ?_; rotate_left; focus (intro w hSw; (try dsimp only at hSw); first | (go_simp; done) | (go_simp; with_reducible rfl))
    try simp only [Act.put, List.setIfInBounds_toArray, List.set_cons_zero, List.set_cons_succ]
    refine wpAnyH_take (i := 2) (v := ?_) (by simp only [List.getElem?_toArray, List.getElem?_cons_succ, List.getElem?_cons_zero]; rfl) (by kernel_rfl) (by kernel_rfl) (by kernel_rfl) (by exact fun _ _ _ h => h) (Or.inl ⟨by rfl, ?_⟩) (by assumption) ?_; rotate_left; focus (intro w hSw; (try dsimp only at hSw); first | (go_simp; done) | (go_simp; with_reducible rfl))
    try simp only [Act.put, List.setIfInBounds_toArray, List.set_cons_zero, List.set_cons_succ]
    refine wpAnyH_ready (rs := [1]) (by kernel_rfl) (by simp) ?_
    refine AllReadyH.cons rfl (fun K hK => ?_) AllReadyH.nil
    rw [if_pos (by rfl)]
    go_simp
    go_at_call 23
    have kB := hHeld.2.2.2.2
    refine (toRegime_any d0.gap d0.noMeet _).mono ?_
    rintro e wt0 ⟨rfl, hbk⟩
    have HBK := kB.out.trans (hbk.mono kB.out.size)
    have QS0 := Lib.hid (show wt0.cell? ⟨w.heap.size, 0, none⟩ = some (.int .i64 d0.gap) ∧ wt0.cell? ⟨w.heap.size, 1, none⟩ = some (.bool d0.noMeet) ∧ wt0.cell? ⟨w.heap.size + 1, 0, none⟩ = some (.int .i64 d1.gap) ∧ wt0.cell? ⟨w.heap.size + 1, 1, none⟩ = some (.bool d1.noMeet) ∧ Hid (Below (((w.alloc (.cells #[.int .i64 d0.gap, .bool d0.noMeet] 45)).alloc (.cells #[.int .i64 d1.gap, .bool d1.noMeet] 45))).heap.size (((w.alloc (.cells #[.int .i64 d0.gap, .bool d0.noMeet] 45)).alloc (.cells #[.int .i64 d1.gap, .bool d1.noMeet] 45))) wt0) from ⟨cell_onV (cell_onV (ABX0.out.1) B0.out) HBK, cell_onV (cell_onV (ABX0.out.2) B0.out) HBK, cell_onV (cell_onV (ABX1.out.1) B0.out) HBK, cell_onV (cell_onV (ABX1.out.2) B0.out) HBK, Lib.hid HBK⟩)
    clear hbk kB hHeld HBK
    go_simp
    refine hK.out _ _ ?_ (fun hHeld => ?_)
    · (try dsimp only); exact QS0.out
    clear hK K
    try simp only [Act.put, List.setIfInBounds_toArray, List.set_cons_zero, List.set_cons_succ]
    refine wpAnyH_ready (rs := [3]) (by kernel_rfl) (by simp) ?_
    refine AllReadyH.cons rfl (fun K hK => ?_) AllReadyH.nil
    rw [if_pos (by rfl)]
    go_simp
    go_at_call 23
    have kB := hHeld.2.2.2.2
    refine (toRegime_any d1.gap d1.noMeet _).mono ?_
    rintro e wt1 ⟨rfl, hbk⟩
    have HBK := kB.out.trans (hbk.mono kB.out.size)
    have QS1 := Lib.hid (show wt1.cell? ⟨w.heap.size, 0, none⟩ = some (.int .i64 d0.gap) ∧ wt1.cell? ⟨w.heap.size, 1, none⟩ = some (.bool d0.noMeet) ∧ wt1.cell? ⟨w.heap.size + 1, 0, none⟩ = some (.int .i64 d1.gap) ∧ wt1.cell? ⟨w.heap.size + 1, 1, none⟩ = some (.bool d1.noMeet) ∧ Hid (Below (((w.alloc (.cells #[.int .i64 d0.gap, .bool d0.noMeet] 45)).alloc (.cells #[.int .i64 d1.gap, .bool d1.noMeet] 45))).heap.size (((w.alloc (.cells #[.int .i64 d0.gap, .bool d0.noMeet] 45)).alloc (.cells #[.int .i64 d1.gap, .bool d1.noMeet] 45))) wt1) from ⟨cell_onV (cell_onV (ABX0.out.1) B0.out) HBK, cell_onV (cell_onV (ABX0.out.2) B0.out) HBK, cell_onV (cell_onV (ABX1.out.1) B0.out) HBK, cell_onV (cell_onV (ABX1.out.2) B0.out) HBK, Lib.hid HBK⟩)
    clear hbk kB hHeld HBK
    go_simp
    refine hK.out _ _ ?_ (fun hHeld => ?_)
    · (try dsimp only); exact QS1.out
    clear hK K
    try simp only [Act.put, List.setIfInBounds_toArray, List.set_cons_zero, List.set_cons_succ]
    refine wpAnyH_ready (rs := [4]) (by kernel_rfl) (by simp) ?_
    refine AllReadyH.cons rfl (fun K hK => ?_) AllReadyH.nil
    rw [if_pos (by rfl)]
    go_simp
    go_at_call 37
    have kB := hHeld.2.2.2.2
    refine (specStricterRegime d0 d1 _  ).mono ?_
    rw [HR0.out]
    rintro e wq ⟨rfl, hbk⟩
    have HBK := kB.out.trans (hbk.mono kB.out.size)
    have QQ := Lib.hid (show wq.cell? ⟨w.heap.size, 0, none⟩ = some (.int .i64 d0.gap) ∧ wq.cell? ⟨w.heap.size, 1, none⟩ = some (.bool d0.noMeet) ∧ wq.cell? ⟨w.heap.size + 1, 0, none⟩ = some (.int .i64 d1.gap) ∧ wq.cell? ⟨w.heap.size + 1, 1, none⟩ = some (.bool d1.noMeet) ∧ Hid (Below (((w.alloc (.cells #[.int .i64 d0.gap, .bool d0.noMeet] 45)).alloc (.cells #[.int .i64 d1.gap, .bool d1.noMeet] 45))).heap.size (((w.alloc (.cells #[.int .i64 d0.gap, .bool d0.noMeet] 45)).alloc (.cells #[.int .i64 d1.gap, .bool d1.noMeet] 45))) wq) from ⟨cell_onV (cell_onV (ABX0.out.1) B0.out) HBK, cell_onV (cell_onV (ABX0.out.2) B0.out) HBK, cell_onV (cell_onV (ABX1.out.1) B0.out) HBK, cell_onV (cell_onV (ABX1.out.2) B0.out) HBK, Lib.hid HBK⟩)
    clear hbk kB hHeld HBK
    go_simp
    refine hK.out _ _ ?_ (fun hHeld => ?_)
    · (try dsimp only); exact QQ.out
    clear hK K
    try simp only [Act.put, List.setIfInBounds_toArray, List.set_cons_zero, List.set_cons_succ]
    refine wpAnyH_take (i := 5) (v := ?_) (by simp only [List.getElem?_toArray, List.getElem?_cons_succ, List.getElem?_cons_zero]; rfl) (by kernel_rfl) (by kernel_rfl) (by kernel_rfl) (by exact fun _ _ _ h => h) (Or.inl ⟨by rfl, ?_⟩) (by assumption) ?_; rotate_left; focus (intro w hSw; (try dsimp only at hSw); first | (go_simp; done) | (go_simp; with_reducible rfl))
    try simp only [Act.put, List.setIfInBounds_toArray, List.set_cons_zero, List.set_cons_succ]
    refine wpAnyH_done (by kernel_rfl) ?_ _
    go_wp2_with fail
    go_meet
    exact ⟨rfl, hHeld.2.2.2.2⟩
  case rest =>
    obtain ⟨rfl, hbH⟩ := hcut
    have hb1 := hbH.out
    obtain ⟨w1, rfl⟩ : ∃ W, W = wc := ⟨_, rfl⟩
    clear hbH DD y0_0 y0_1 y1_0 y1_1 
    have B1 := Lib.hid (B0.out.trans (hb1.mono B0.out.size))
    have hz1 : (((w.alloc (.cells #[.int .i64 d0.gap, .bool d0.noMeet] 45)).alloc (.cells #[.int .i64 d1.gap, .bool d1.noMeet] 45))).heap.size ≤ w1.heap.size := hb1.size
    clear hb1
    -- g0 := impl.StricterRegime(toRegime(aA), toRegime(aB))
    have y0_0 : (w1).cell? ⟨w.heap.size, 0, none⟩ = some (.int .i64 d0.gap) := cell_onV (ABX0.out.1) B1.out
    have y0_1 : (w1).cell? ⟨w.heap.size, 1, none⟩ = some (.bool d0.noMeet) := cell_onV (ABX0.out.2) B1.out
    have y1_0 : (w1).cell? ⟨w.heap.size + 1, 0, none⟩ = some (.int .i64 d1.gap) := cell_onV (ABX1.out.1) B1.out
    have y1_1 : (w1).cell? ⟨w.heap.size + 1, 1, none⟩ = some (.bool d1.noMeet) := cell_onV (ABX1.out.2) B1.out
    have DD := Lib.hid ((Below.refl (w1).heap.size (w1)).drew)
    go_upto_region 2 with fail
    go_cut [6] (fun sL wx => sL = .bool r0 ∧ Hid (Below (w1).heap.size (w1) wx))
    case first =>
      refine wp_region_held_drew (S := (fun w' => w'.cell? ⟨w.heap.size, 0, none⟩ = some (.int .i64 d0.gap) ∧ w'.cell? ⟨w.heap.size, 1, none⟩ = some (.bool d0.noMeet) ∧ w'.cell? ⟨w.heap.size + 1, 0, none⟩ = some (.int .i64 d1.gap) ∧ w'.cell? ⟨w.heap.size + 1, 1, none⟩ = some (.bool d1.noMeet) ∧ Hid (Below (w1).heap.size (w1) w'))) (by kernel_rfl) ?_ (fun hHeld => ?_)
      · (try dsimp only); go_keep
      refine wpAnyH_take (i := 0) (v := ?_) (by simp only [List.getElem?_toArray, List.getElem?_cons_zero]; rfl) (by kernel_rfl) (by kernel_rfl) (by kernel_rfl) (by exact fun _ _ _ h => h) (Or.inl ⟨by rfl, ?_⟩) (by assumption) ?_; rotate_left; focus (intro w hSw; (try dsimp only at hSw); first | (go_simp; done) | (go_simp; with_reducible rfl))
      try simp only [Act.put, List.setIfInBounds_toArray, List.set_cons_zero, List.set_cons_succ]
      refine wpAnyH_take (i := 2) (v := ?_) (by simp only [List.getElem?_toArray, List.getElem?_cons_succ, List.getElem?_cons_zero]; rfl) (by kernel_rfl) (by kernel_rfl) (by kernel_rfl) (by exact fun _ _ _ h => h) (Or.inl ⟨by rfl, ?_⟩) (by assumption) ?_; rotate_left; focus (intro w hSw; (try dsimp only at hSw); first | (go_simp; done) | (go_simp; with_reducible rfl))
      try simp only [Act.put, List.setIfInBounds_toArray, List.set_cons_zero, List.set_cons_succ]
      refine wpAnyH_ready (rs := [1]) (by kernel_rfl) (by simp) ?_
      refine AllReadyH.cons rfl (fun K hK => ?_) AllReadyH.nil
      rw [if_pos (by rfl)]
      go_simp
      go_at_call 23
      have kB := hHeld.2.2.2.2
      refine (toRegime_any d0.gap d0.noMeet _).mono ?_
      rintro e wt0 ⟨rfl, hbk⟩
      have HBK := kB.out.trans (hbk.mono kB.out.size)
      have QS0 := Lib.hid (show wt0.cell? ⟨w.heap.size, 0, none⟩ = some (.int .i64 d0.gap) ∧ wt0.cell? ⟨w.heap.size, 1, none⟩ = some (.bool d0.noMeet) ∧ wt0.cell? ⟨w.heap.size + 1, 0, none⟩ = some (.int .i64 d1.gap) ∧ wt0.cell? ⟨w.heap.size + 1, 1, none⟩ = some (.bool d1.noMeet) ∧ Hid (Below (w1).heap.size (w1) wt0) from ⟨cell_onV (cell_onV (ABX0.out.1) B1.out) HBK, cell_onV (cell_onV (ABX0.out.2) B1.out) HBK, cell_onV (cell_onV (ABX1.out.1) B1.out) HBK, cell_onV (cell_onV (ABX1.out.2) B1.out) HBK, Lib.hid HBK⟩)
      clear hbk kB hHeld HBK
      go_simp
      refine hK.out _ _ ?_ (fun hHeld => ?_)
      · (try dsimp only); exact QS0.out
      clear hK K
      try simp only [Act.put, List.setIfInBounds_toArray, List.set_cons_zero, List.set_cons_succ]
      refine wpAnyH_ready (rs := [3]) (by kernel_rfl) (by simp) ?_
      refine AllReadyH.cons rfl (fun K hK => ?_) AllReadyH.nil
      rw [if_pos (by rfl)]
      go_simp
      go_at_call 23
      have kB := hHeld.2.2.2.2
      refine (toRegime_any d1.gap d1.noMeet _).mono ?_
      rintro e wt1 ⟨rfl, hbk⟩
      have HBK := kB.out.trans (hbk.mono kB.out.size)
      have QS1 := Lib.hid (show wt1.cell? ⟨w.heap.size, 0, none⟩ = some (.int .i64 d0.gap) ∧ wt1.cell? ⟨w.heap.size, 1, none⟩ = some (.bool d0.noMeet) ∧ wt1.cell? ⟨w.heap.size + 1, 0, none⟩ = some (.int .i64 d1.gap) ∧ wt1.cell? ⟨w.heap.size + 1, 1, none⟩ = some (.bool d1.noMeet) ∧ Hid (Below (w1).heap.size (w1) wt1) from ⟨cell_onV (cell_onV (ABX0.out.1) B1.out) HBK, cell_onV (cell_onV (ABX0.out.2) B1.out) HBK, cell_onV (cell_onV (ABX1.out.1) B1.out) HBK, cell_onV (cell_onV (ABX1.out.2) B1.out) HBK, Lib.hid HBK⟩)
      clear hbk kB hHeld HBK
      go_simp
      refine hK.out _ _ ?_ (fun hHeld => ?_)
      · (try dsimp only); exact QS1.out
      clear hK K
      try simp only [Act.put, List.setIfInBounds_toArray, List.set_cons_zero, List.set_cons_succ]
      refine wpAnyH_ready (rs := [4]) (by kernel_rfl) (by simp) ?_
      refine AllReadyH.cons rfl (fun K hK => ?_) AllReadyH.nil
      rw [if_pos (by rfl)]
      go_simp
      go_at_call 15
      have kB := hHeld.2.2.2.2
      refine (implStricterRegime d0 d1 _  ).mono ?_
      rw [HR0.out]
      rintro e wq ⟨rfl, hbk⟩
      have HBK := kB.out.trans (hbk.mono kB.out.size)
      have QQ := Lib.hid (show wq.cell? ⟨w.heap.size, 0, none⟩ = some (.int .i64 d0.gap) ∧ wq.cell? ⟨w.heap.size, 1, none⟩ = some (.bool d0.noMeet) ∧ wq.cell? ⟨w.heap.size + 1, 0, none⟩ = some (.int .i64 d1.gap) ∧ wq.cell? ⟨w.heap.size + 1, 1, none⟩ = some (.bool d1.noMeet) ∧ Hid (Below (w1).heap.size (w1) wq) from ⟨cell_onV (cell_onV (ABX0.out.1) B1.out) HBK, cell_onV (cell_onV (ABX0.out.2) B1.out) HBK, cell_onV (cell_onV (ABX1.out.1) B1.out) HBK, cell_onV (cell_onV (ABX1.out.2) B1.out) HBK, Lib.hid HBK⟩)
      clear hbk kB hHeld HBK
      go_simp
      refine hK.out _ _ ?_ (fun hHeld => ?_)
      · (try dsimp only); exact QQ.out
      clear hK K
      try simp only [Act.put, List.setIfInBounds_toArray, List.set_cons_zero, List.set_cons_succ]
      refine wpAnyH_take (i := 5) (v := ?_) (by simp only [List.getElem?_toArray, List.getElem?_cons_succ, List.getElem?_cons_zero]; rfl) (by kernel_rfl) (by kernel_rfl) (by kernel_rfl) (by exact fun _ _ _ h => h) (Or.inl ⟨by rfl, ?_⟩) (by assumption) ?_; rotate_left; focus (intro w hSw; (try dsimp only at hSw); first | (go_simp; done) | (go_simp; with_reducible rfl))
      try simp only [Act.put, List.setIfInBounds_toArray, List.set_cons_zero, List.set_cons_succ]
      refine wpAnyH_done (by kernel_rfl) ?_ _
      go_wp2_with fail
      go_meet
      exact ⟨rfl, hHeld.2.2.2.2⟩
    case rest =>
      obtain ⟨rfl, hbH⟩ := hcut
      have hb2 := hbH.out
      obtain ⟨w2, rfl⟩ : ∃ W, W = wc := ⟨_, rfl⟩
      clear hbH DD y0_0 y0_1 y1_0 y1_1 
      have B2 := Lib.hid (B1.out.trans (hb2.mono B1.out.size))
      have hz2 : (w1).heap.size ≤ w2.heap.size := hb2.size
      clear hb2
      -- if g0 != w0 {
      -- return true
      go_wp2
      go_ret
      exact ⟨rfl, BW.out.trans (B2.out.mono hs0)⟩

set_option maxRecDepth 100000 in
theorem lifted (os : Os) (started : os.Started) (H : Type) (enc : TypeId × Value → H) :
    ReturnsInHanded {} Try.checked os 11 .any (Rows.fnExactStricterRegimeSpec.pre6 enc Try.prog Try.f11 Rows.fnExactStricterRegimeRow.domain false) (Rows.fnExactStricterRegimeSpec.post enc Try.prog Try.f11 false true false false) := by
  refine returnsInHanded_of_change (C := Try.checked) own started (by kernel_rfl) Try.func11
    (ChangeSpec.witness6 (enc := enc) (C := Try.checked) false ⟨#[], #[.agg #[.int .i64 0, .bool false], .agg #[.int .i64 0, .bool false]], []⟩ 8 (by kernel_rfl) (by kernel_rfl) (by kernel_rfl) (by kernel_rfl)) ?_
  intro W base args ds gs before hval0 hW _ _
  have hval : ∀ (j : Nat) t v, Try.f11.params[j]? = some t → args[j]? = some v → Value.okWide Try.prog W .any base t v := hval0
  have hW' := hW
  obtain ⟨p, q, hA0, hV, rfl, _, _⟩ := hW
  have hA : DataW.TrodAll enc Try.prog W 0 (fun _ => true) true Try.f11.params.toList args.toList ds p := hA0
  rw [Try.params11] at hA hval
  obtain ⟨v0, vs0, d0, ds0, p0, q0, hargs, rfl, rfl, h0, r0⟩ := trodAll_cons hA
  obtain ⟨v1, vs1, d1, ds1, p1, q1, rfl, rfl, rfl, h1, r1⟩ := trodAll_cons r0
  obtain ⟨rfl, rfl, rfl⟩ := trodAll_nil r1
  obtain rfl : args = #[v0, v1] := by cases args; simp_all
  obtain ⟨d0', rfl, g0⟩ := open_regime_arg (hval 0 45 v0 rfl rfl) h0
  obtain ⟨d1', rfl, g1⟩ := open_regime_arg (hval 1 45 v1 rfl rfl) h1
  refine (law d0' d1' W g0 g1).mono fun e W' ⟨he, hb⟩ => ⟨_, he, ?_⟩
  exact law_post laidOut (by kernel_rfl) rfl (by kernel_rfl) Try.underlying4 rfl rfl rfl hW' hb

theorem holds : Rows.FnExactStricterRegimeSaid :=
  OpenClaim.holds_of_wide 11 Try.f11 rfl rfl rfl rfl rfl rfl rfl ⟨rfl, rfl, rfl, rfl, rfl⟩ rfl rfl rfl rfl rfl (by kernel_rfl) Try.func11 (by kernel_rfl)
    (of_decide_eq_true (by kernel_rfl)) (by unfold Func.isWrapper; first | (rw [if_pos (by decide +kernel)]; kernel_rfl) | (rw [if_neg (by decide +kernel)]; exact ⟨rfl, rfl⟩))
    (fun os started H enc _ => lifted os started H enc)

end Go.Proofs.Ytpglaffmmddcdaa.exactStricterRegime
