
/- The exact law of CanFollow holds for all arguments: impl.CanFollow answers as its model, and the arguments read as before. No condition. -/
import Derived.Test.YtfofbnpgjdagkaaRows
import Derived.Test.YtfofbnpgjdagkaaKit
import Derived.Test.YtfofbnpgjdagkaaDutySpec1
import Derived.Test.YtfofbnpgjdagkaaDutyImpl1
import Derived.Test.YtfofbnpgjdagkaaDutys
import Derived.Test.YtfofbnpgjdagkaaDutysArg
import Derived.Test.YtfofbnpgjdagkaaInts
import Derived.Test.YtfofbnpgjdagkaaTouch
import Derived.Deep.RegionHeld3
import Derived.Deep.DeepCutAuto
namespace Go.Proofs.Ytfofbnpgjdagkaa.exactCanFollow
open Go.ChangeShapes Go.WideShapes Go.ChangeAt Go.RowKit
set_option maxRecDepth 100000

theorem own : ownKnob Try.prog.godebug = none := by kernel_rfl
theorem laidOut : laidOutB Try.prog = true := by kernel_rfl

set_option maxHeartbeats 16000000 in
theorem law (a0 : Int) (A1 : Option Addr) (c1 : Nat) (l1 : List IntD) (d2 : DutyD) (d3 : DutyD) (w : World) (_ : (Lit.int .i64 a0).wf = true) (hin1 : l1.length ≤ maxLen ∧ (l1.length ≤ 1000000000 → SlInt w (.slice A1 l1.length c1) l1) ∧ ∀ x ∈ l1, IntD.wf x) (_ : d2.wf) (_ : d3.wf) :
    Calls Try.prog 7 #[.int .i64 a0, .slice A1 l1.length c1, .agg #[.int .i64 d2.fr, .int .i64 d2.tt, .int .i64 d2.a, .int .i64 d2.b], .agg #[.int .i64 d3.fr, .int .i64 d3.tt, .int .i64 d3.a, .int .i64 d3.b]] w fun e w' => e = .returned (.bool true) ∧ Below w.heap.size w w' := by
  obtain ⟨m1, s1, f1⟩ := hin1
  unfold maxLen at m1
  have SS1 := Lib.hid s1
  have FF1 := Lib.hid f1
  clear s1 f1
  have HB0 : Below w.heap.size w ((w.alloc (.cells #[.int .i64 d2.fr, .int .i64 d2.tt, .int .i64 d2.a, .int .i64 d2.b] 45)).alloc (.cells #[.int .i64 d3.fr, .int .i64 d3.tt, .int .i64 d3.a, .int .i64 d3.b] 45)) := by
    repeat (first | exact Below.refl _ _ | refine Below.alloc ?_ (by simp <;> omega) _)
  have BW := Lib.hid HB0
  clear HB0
  go_enter Try.func7, Try.ntmps7
  have B0 := Lib.hid (Below.refl (((w.alloc (.cells #[.int .i64 d2.fr, .int .i64 d2.tt, .int .i64 d2.a, .int .i64 d2.b] 45)).alloc (.cells #[.int .i64 d3.fr, .int .i64 d3.tt, .int .i64 d3.a, .int .i64 d3.b] 45))).heap.size ((w.alloc (.cells #[.int .i64 d2.fr, .int .i64 d2.tt, .int .i64 d2.a, .int .i64 d2.b] 45)).alloc (.cells #[.int .i64 d3.fr, .int .i64 d3.tt, .int .i64 d3.a, .int .i64 d3.b] 45)))
  have hs0 : w.heap.size ≤ (((w.alloc (.cells #[.int .i64 d2.fr, .int .i64 d2.tt, .int .i64 d2.a, .int .i64 d2.b] 45)).alloc (.cells #[.int .i64 d3.fr, .int .i64 d3.tt, .int .i64 d3.a, .int .i64 d3.b] 45))).heap.size := BW.out.size
  have ABX2 := Lib.hid (show (((w.alloc (.cells #[.int .i64 d2.fr, .int .i64 d2.tt, .int .i64 d2.a, .int .i64 d2.b] 45)).alloc (.cells #[.int .i64 d3.fr, .int .i64 d3.tt, .int .i64 d3.a, .int .i64 d3.b] 45))).cell? ⟨w.heap.size, 0, none⟩ = some (.int .i64 d2.fr) ∧ (((w.alloc (.cells #[.int .i64 d2.fr, .int .i64 d2.tt, .int .i64 d2.a, .int .i64 d2.b] 45)).alloc (.cells #[.int .i64 d3.fr, .int .i64 d3.tt, .int .i64 d3.a, .int .i64 d3.b] 45))).cell? ⟨w.heap.size, 1, none⟩ = some (.int .i64 d2.tt) ∧ (((w.alloc (.cells #[.int .i64 d2.fr, .int .i64 d2.tt, .int .i64 d2.a, .int .i64 d2.b] 45)).alloc (.cells #[.int .i64 d3.fr, .int .i64 d3.tt, .int .i64 d3.a, .int .i64 d3.b] 45))).cell? ⟨w.heap.size, 2, none⟩ = some (.int .i64 d2.a) ∧ (((w.alloc (.cells #[.int .i64 d2.fr, .int .i64 d2.tt, .int .i64 d2.a, .int .i64 d2.b] 45)).alloc (.cells #[.int .i64 d3.fr, .int .i64 d3.tt, .int .i64 d3.a, .int .i64 d3.b] 45))).cell? ⟨w.heap.size, 3, none⟩ = some (.int .i64 d2.b) from by
    have hBk0 : Blk (w.alloc (.cells #[.int .i64 d2.fr, .int .i64 d2.tt, .int .i64 d2.a, .int .i64 d2.b] 45)) (w.heap.size) #[.int .i64 d2.fr, .int .i64 d2.tt, .int .i64 d2.a, .int .i64 d2.b] 45 := Blk.newAt (w := w) (by first | rfl | simp) _ _
    have hBk : Blk ((w.alloc (.cells #[.int .i64 d2.fr, .int .i64 d2.tt, .int .i64 d2.a, .int .i64 d2.b] 45)).alloc (.cells #[.int .i64 d3.fr, .int .i64 d3.tt, .int .i64 d3.a, .int .i64 d3.b] 45)) (w.heap.size) #[.int .i64 d2.fr, .int .i64 d2.tt, .int .i64 d2.a, .int .i64 d2.b] 45 := hBk0.below (by repeat (first | exact Below.refl _ _ | refine Below.alloc ?_ (by simp) _))
    exact ⟨hBk.cell 0, hBk.cell 1, hBk.cell 2, hBk.cell 3⟩)
  have ABX3 := Lib.hid (show (((w.alloc (.cells #[.int .i64 d2.fr, .int .i64 d2.tt, .int .i64 d2.a, .int .i64 d2.b] 45)).alloc (.cells #[.int .i64 d3.fr, .int .i64 d3.tt, .int .i64 d3.a, .int .i64 d3.b] 45))).cell? ⟨w.heap.size + 1, 0, none⟩ = some (.int .i64 d3.fr) ∧ (((w.alloc (.cells #[.int .i64 d2.fr, .int .i64 d2.tt, .int .i64 d2.a, .int .i64 d2.b] 45)).alloc (.cells #[.int .i64 d3.fr, .int .i64 d3.tt, .int .i64 d3.a, .int .i64 d3.b] 45))).cell? ⟨w.heap.size + 1, 1, none⟩ = some (.int .i64 d3.tt) ∧ (((w.alloc (.cells #[.int .i64 d2.fr, .int .i64 d2.tt, .int .i64 d2.a, .int .i64 d2.b] 45)).alloc (.cells #[.int .i64 d3.fr, .int .i64 d3.tt, .int .i64 d3.a, .int .i64 d3.b] 45))).cell? ⟨w.heap.size + 1, 2, none⟩ = some (.int .i64 d3.a) ∧ (((w.alloc (.cells #[.int .i64 d2.fr, .int .i64 d2.tt, .int .i64 d2.a, .int .i64 d2.b] 45)).alloc (.cells #[.int .i64 d3.fr, .int .i64 d3.tt, .int .i64 d3.a, .int .i64 d3.b] 45))).cell? ⟨w.heap.size + 1, 3, none⟩ = some (.int .i64 d3.b) from by
    have hBk0 : Blk ((w.alloc (.cells #[.int .i64 d2.fr, .int .i64 d2.tt, .int .i64 d2.a, .int .i64 d2.b] 45)).alloc (.cells #[.int .i64 d3.fr, .int .i64 d3.tt, .int .i64 d3.a, .int .i64 d3.b] 45)) (w.heap.size + 1) #[.int .i64 d3.fr, .int .i64 d3.tt, .int .i64 d3.a, .int .i64 d3.b] 45 := Blk.newAt (w := (w.alloc (.cells #[.int .i64 d2.fr, .int .i64 d2.tt, .int .i64 d2.a, .int .i64 d2.b] 45))) (by first | rfl | simp) _ _
    have hBk : Blk ((w.alloc (.cells #[.int .i64 d2.fr, .int .i64 d2.tt, .int .i64 d2.a, .int .i64 d2.b] 45)).alloc (.cells #[.int .i64 d3.fr, .int .i64 d3.tt, .int .i64 d3.a, .int .i64 d3.b] 45)) (w.heap.size + 1) #[.int .i64 d3.fr, .int .i64 d3.tt, .int .i64 d3.a, .int .i64 d3.b] 45 := hBk0.below (by repeat (first | exact Below.refl _ _ | refine Below.alloc ?_ (by simp) _))
    exact ⟨hBk.cell 0, hBk.cell 1, hBk.cell 2, hBk.cell 3⟩)
  obtain ⟨r0, hr0⟩ : ∃ r0, (canB a0 l1 d2 d3) = r0 := ⟨_, rfl⟩
  have HR0 := Lib.hid hr0
  clear hr0
  -- if len(aMoves) > 1<<20 {
  by_cases big1 : 1048576 < l1.length
  · go_wp2
    go_ret
    exact ⟨rfl, BW.out.trans (B0.out.mono hs0)⟩
  have R1 := Lib.hid (SS1.out (by omega))
  clear SS1
  -- w0 := spec.CanFollow(aPause, toIntS(aMoves), toDuty(aD), toDuty(aE))
  have y2_0 : (((w.alloc (.cells #[.int .i64 d2.fr, .int .i64 d2.tt, .int .i64 d2.a, .int .i64 d2.b] 45)).alloc (.cells #[.int .i64 d3.fr, .int .i64 d3.tt, .int .i64 d3.a, .int .i64 d3.b] 45))).cell? ⟨w.heap.size, 0, none⟩ = some (.int .i64 d2.fr) := cell_onV (ABX2.out.1) B0.out
  have y2_1 : (((w.alloc (.cells #[.int .i64 d2.fr, .int .i64 d2.tt, .int .i64 d2.a, .int .i64 d2.b] 45)).alloc (.cells #[.int .i64 d3.fr, .int .i64 d3.tt, .int .i64 d3.a, .int .i64 d3.b] 45))).cell? ⟨w.heap.size, 1, none⟩ = some (.int .i64 d2.tt) := cell_onV (ABX2.out.2.1) B0.out
  have y2_2 : (((w.alloc (.cells #[.int .i64 d2.fr, .int .i64 d2.tt, .int .i64 d2.a, .int .i64 d2.b] 45)).alloc (.cells #[.int .i64 d3.fr, .int .i64 d3.tt, .int .i64 d3.a, .int .i64 d3.b] 45))).cell? ⟨w.heap.size, 2, none⟩ = some (.int .i64 d2.a) := cell_onV (ABX2.out.2.2.1) B0.out
  have y2_3 : (((w.alloc (.cells #[.int .i64 d2.fr, .int .i64 d2.tt, .int .i64 d2.a, .int .i64 d2.b] 45)).alloc (.cells #[.int .i64 d3.fr, .int .i64 d3.tt, .int .i64 d3.a, .int .i64 d3.b] 45))).cell? ⟨w.heap.size, 3, none⟩ = some (.int .i64 d2.b) := cell_onV (ABX2.out.2.2.2) B0.out
  have y3_0 : (((w.alloc (.cells #[.int .i64 d2.fr, .int .i64 d2.tt, .int .i64 d2.a, .int .i64 d2.b] 45)).alloc (.cells #[.int .i64 d3.fr, .int .i64 d3.tt, .int .i64 d3.a, .int .i64 d3.b] 45))).cell? ⟨w.heap.size + 1, 0, none⟩ = some (.int .i64 d3.fr) := cell_onV (ABX3.out.1) B0.out
  have y3_1 : (((w.alloc (.cells #[.int .i64 d2.fr, .int .i64 d2.tt, .int .i64 d2.a, .int .i64 d2.b] 45)).alloc (.cells #[.int .i64 d3.fr, .int .i64 d3.tt, .int .i64 d3.a, .int .i64 d3.b] 45))).cell? ⟨w.heap.size + 1, 1, none⟩ = some (.int .i64 d3.tt) := cell_onV (ABX3.out.2.1) B0.out
  have y3_2 : (((w.alloc (.cells #[.int .i64 d2.fr, .int .i64 d2.tt, .int .i64 d2.a, .int .i64 d2.b] 45)).alloc (.cells #[.int .i64 d3.fr, .int .i64 d3.tt, .int .i64 d3.a, .int .i64 d3.b] 45))).cell? ⟨w.heap.size + 1, 2, none⟩ = some (.int .i64 d3.a) := cell_onV (ABX3.out.2.2.1) B0.out
  have y3_3 : (((w.alloc (.cells #[.int .i64 d2.fr, .int .i64 d2.tt, .int .i64 d2.a, .int .i64 d2.b] 45)).alloc (.cells #[.int .i64 d3.fr, .int .i64 d3.tt, .int .i64 d3.a, .int .i64 d3.b] 45))).cell? ⟨w.heap.size + 1, 3, none⟩ = some (.int .i64 d3.b) := cell_onV (ABX3.out.2.2.2) B0.out
  have hDD := (Below.refl (((w.alloc (.cells #[.int .i64 d2.fr, .int .i64 d2.tt, .int .i64 d2.a, .int .i64 d2.b] 45)).alloc (.cells #[.int .i64 d3.fr, .int .i64 d3.tt, .int .i64 d3.a, .int .i64 d3.b] 45))).heap.size (((w.alloc (.cells #[.int .i64 d2.fr, .int .i64 d2.tt, .int .i64 d2.a, .int .i64 d2.b] 45)).alloc (.cells #[.int .i64 d3.fr, .int .i64 d3.tt, .int .i64 d3.a, .int .i64 d3.b] 45)))).drew
  simp only [World.size_alloc] at hDD
  have DD := Lib.hid hDD
  clear hDD
  go_upto_region 3 with fail
  go_cut [9] (fun sL wx => sL = .bool r0 ∧ Hid (Below (((w.alloc (.cells #[.int .i64 d2.fr, .int .i64 d2.tt, .int .i64 d2.a, .int .i64 d2.b] 45)).alloc (.cells #[.int .i64 d3.fr, .int .i64 d3.tt, .int .i64 d3.a, .int .i64 d3.b] 45))).heap.size (((w.alloc (.cells #[.int .i64 d2.fr, .int .i64 d2.tt, .int .i64 d2.a, .int .i64 d2.b] 45)).alloc (.cells #[.int .i64 d3.fr, .int .i64 d3.tt, .int .i64 d3.a, .int .i64 d3.b] 45))) wx))
  case first =>
    refine wp_region_held_drew (S := (fun w' => w'.cell? ⟨w.heap.size, 0, none⟩ = some (.int .i64 d2.fr) ∧ w'.cell? ⟨w.heap.size, 1, none⟩ = some (.int .i64 d2.tt) ∧ w'.cell? ⟨w.heap.size, 2, none⟩ = some (.int .i64 d2.a) ∧ w'.cell? ⟨w.heap.size, 3, none⟩ = some (.int .i64 d2.b) ∧ w'.cell? ⟨w.heap.size + 1, 0, none⟩ = some (.int .i64 d3.fr) ∧ w'.cell? ⟨w.heap.size + 1, 1, none⟩ = some (.int .i64 d3.tt) ∧ w'.cell? ⟨w.heap.size + 1, 2, none⟩ = some (.int .i64 d3.a) ∧ w'.cell? ⟨w.heap.size + 1, 3, none⟩ = some (.int .i64 d3.b) ∧ Hid (Below (((w.alloc (.cells #[.int .i64 d2.fr, .int .i64 d2.tt, .int .i64 d2.a, .int .i64 d2.b] 45)).alloc (.cells #[.int .i64 d3.fr, .int .i64 d3.tt, .int .i64 d3.a, .int .i64 d3.b] 45))).heap.size (((w.alloc (.cells #[.int .i64 d2.fr, .int .i64 d2.tt, .int .i64 d2.a, .int .i64 d2.b] 45)).alloc (.cells #[.int .i64 d3.fr, .int .i64 d3.tt, .int .i64 d3.a, .int .i64 d3.b] 45))) w'))) (by kernel_rfl) ?_ (fun hHeld => ?_)
    · (try dsimp only); go_keep
    refine wpAnyH_take (i := 0) (v := ?_) (by simp only [List.getElem?_toArray, List.getElem?_cons_zero]; rfl) (by kernel_rfl) (by kernel_rfl) (by kernel_rfl) (by exact fun _ _ _ h => h) (Or.inl ⟨by rfl, ?_⟩) (by assumption) ?_; rotate_left; focus (intro w hSw; (try dsimp only at hSw); first | (go_simp; done) | (go_simp; with_reducible rfl))
    try simp only [Act.put, List.setIfInBounds_toArray, List.set_cons_zero, List.set_cons_succ]
    refine wpAnyH_take (i := 1) (v := ?_) (by simp only [List.getElem?_toArray, List.getElem?_cons_succ, List.getElem?_cons_zero]; rfl) (by kernel_rfl) (by kernel_rfl) (by kernel_rfl) (by exact fun _ _ _ h => h) (Or.inl ⟨by rfl, ?_⟩) (by assumption) ?_; rotate_left; focus (intro w hSw; (try dsimp only at hSw); first | (go_simp; done) | (go_simp; with_reducible rfl))
    try simp only [Act.put, List.setIfInBounds_toArray, List.set_cons_zero, List.set_cons_succ]
    refine wpAnyH_take (i := 3) (v := ?_) (by simp only [List.getElem?_toArray, List.getElem?_cons_succ, List.getElem?_cons_zero]; rfl) (by kernel_rfl) (by kernel_rfl) (by kernel_rfl) (by exact fun _ _ _ h => h) (Or.inl ⟨by rfl, ?_⟩) (by assumption) ?_; rotate_left; focus (intro w hSw; (try dsimp only at hSw); first | (go_simp; done) | (go_simp; with_reducible rfl))
    try simp only [Act.put, List.setIfInBounds_toArray, List.set_cons_zero, List.set_cons_succ]
    refine wpAnyH_take (i := 5) (v := ?_) (by simp only [List.getElem?_toArray, List.getElem?_cons_succ, List.getElem?_cons_zero]; rfl) (by kernel_rfl) (by kernel_rfl) (by kernel_rfl) (by exact fun _ _ _ h => h) (Or.inl ⟨by rfl, ?_⟩) (by assumption) ?_; rotate_left; focus (intro w hSw; (try dsimp only at hSw); first | (go_simp; done) | (go_simp; with_reducible rfl))
    try simp only [Act.put, List.setIfInBounds_toArray, List.set_cons_zero, List.set_cons_succ]
    refine wpAnyH_ready (rs := [2]) (by kernel_rfl) (by simp) ?_
    refine AllReadyH.cons rfl (fun K hK => ?_) AllReadyH.nil
    rw [if_pos (by rfl)]
    go_simp
    go_at_call 26
    have kB := hHeld.2.2.2.2.2.2.2.2
    refine (toIntS_any _ l1 _ (R1.out.below (BW.out.trans ((B0.out.trans (kB.out.mono B0.out.size)).mono hs0)))).mono ?_
    rintro e wt0 ⟨uz0, rfl, oz0, hbk⟩
    have hRD := OwnInt.sl oz0 (by omega)
    obtain ⟨Dz0, kz0, rfl⟩ := own_form oz0
    have HRD0 := Lib.hid hRD
    have HBK := kB.out.trans (hbk.mono kB.out.size)
    have QS0 := Lib.hid (show wt0.cell? ⟨w.heap.size, 0, none⟩ = some (.int .i64 d2.fr) ∧ wt0.cell? ⟨w.heap.size, 1, none⟩ = some (.int .i64 d2.tt) ∧ wt0.cell? ⟨w.heap.size, 2, none⟩ = some (.int .i64 d2.a) ∧ wt0.cell? ⟨w.heap.size, 3, none⟩ = some (.int .i64 d2.b) ∧ wt0.cell? ⟨w.heap.size + 1, 0, none⟩ = some (.int .i64 d3.fr) ∧ wt0.cell? ⟨w.heap.size + 1, 1, none⟩ = some (.int .i64 d3.tt) ∧ wt0.cell? ⟨w.heap.size + 1, 2, none⟩ = some (.int .i64 d3.a) ∧ wt0.cell? ⟨w.heap.size + 1, 3, none⟩ = some (.int .i64 d3.b) ∧ Hid (Below (((w.alloc (.cells #[.int .i64 d2.fr, .int .i64 d2.tt, .int .i64 d2.a, .int .i64 d2.b] 45)).alloc (.cells #[.int .i64 d3.fr, .int .i64 d3.tt, .int .i64 d3.a, .int .i64 d3.b] 45))).heap.size (((w.alloc (.cells #[.int .i64 d2.fr, .int .i64 d2.tt, .int .i64 d2.a, .int .i64 d2.b] 45)).alloc (.cells #[.int .i64 d3.fr, .int .i64 d3.tt, .int .i64 d3.a, .int .i64 d3.b] 45))) wt0) from ⟨cell_onV (cell_onV (ABX2.out.1) B0.out) HBK, cell_onV (cell_onV (ABX2.out.2.1) B0.out) HBK, cell_onV (cell_onV (ABX2.out.2.2.1) B0.out) HBK, cell_onV (cell_onV (ABX2.out.2.2.2) B0.out) HBK, cell_onV (cell_onV (ABX3.out.1) B0.out) HBK, cell_onV (cell_onV (ABX3.out.2.1) B0.out) HBK, cell_onV (cell_onV (ABX3.out.2.2.1) B0.out) HBK, cell_onV (cell_onV (ABX3.out.2.2.2) B0.out) HBK, Lib.hid HBK⟩)
    clear hbk kB hHeld oz0 hRD HBK
    go_simp
    refine hK.out _ _ ?_ (fun hHeld => ?_)
    · (try dsimp only); exact QS0.out
    clear hK K
    try simp only [Act.put, List.setIfInBounds_toArray, List.set_cons_zero, List.set_cons_succ]
    refine wpAnyH_ready (rs := [4]) (by kernel_rfl) (by simp) ?_
    refine AllReadyH.cons rfl (fun K hK => ?_) AllReadyH.nil
    rw [if_pos (by rfl)]
    go_simp
    go_at_call 27
    have kB := hHeld.2.2.2.2.2.2.2.2
    refine (toDuty_any d2.fr d2.tt d2.a d2.b _).mono ?_
    rintro e wt1 ⟨rfl, hbk⟩
    have HRD0' := Lib.hid (HRD0.out.below hbk)
    clear HRD0
    have HRD0 := HRD0'
    clear HRD0'
    have HBK := kB.out.trans (hbk.mono kB.out.size)
    have QS1 := Lib.hid (show wt1.cell? ⟨w.heap.size, 0, none⟩ = some (.int .i64 d2.fr) ∧ wt1.cell? ⟨w.heap.size, 1, none⟩ = some (.int .i64 d2.tt) ∧ wt1.cell? ⟨w.heap.size, 2, none⟩ = some (.int .i64 d2.a) ∧ wt1.cell? ⟨w.heap.size, 3, none⟩ = some (.int .i64 d2.b) ∧ wt1.cell? ⟨w.heap.size + 1, 0, none⟩ = some (.int .i64 d3.fr) ∧ wt1.cell? ⟨w.heap.size + 1, 1, none⟩ = some (.int .i64 d3.tt) ∧ wt1.cell? ⟨w.heap.size + 1, 2, none⟩ = some (.int .i64 d3.a) ∧ wt1.cell? ⟨w.heap.size + 1, 3, none⟩ = some (.int .i64 d3.b) ∧ Hid (Below (((w.alloc (.cells #[.int .i64 d2.fr, .int .i64 d2.tt, .int .i64 d2.a, .int .i64 d2.b] 45)).alloc (.cells #[.int .i64 d3.fr, .int .i64 d3.tt, .int .i64 d3.a, .int .i64 d3.b] 45))).heap.size (((w.alloc (.cells #[.int .i64 d2.fr, .int .i64 d2.tt, .int .i64 d2.a, .int .i64 d2.b] 45)).alloc (.cells #[.int .i64 d3.fr, .int .i64 d3.tt, .int .i64 d3.a, .int .i64 d3.b] 45))) wt1) from ⟨cell_onV (cell_onV (ABX2.out.1) B0.out) HBK, cell_onV (cell_onV (ABX2.out.2.1) B0.out) HBK, cell_onV (cell_onV (ABX2.out.2.2.1) B0.out) HBK, cell_onV (cell_onV (ABX2.out.2.2.2) B0.out) HBK, cell_onV (cell_onV (ABX3.out.1) B0.out) HBK, cell_onV (cell_onV (ABX3.out.2.1) B0.out) HBK, cell_onV (cell_onV (ABX3.out.2.2.1) B0.out) HBK, cell_onV (cell_onV (ABX3.out.2.2.2) B0.out) HBK, Lib.hid HBK⟩)
    clear hbk kB hHeld HBK
    go_simp
    refine hK.out _ _ ?_ (fun hHeld => ?_)
    · (try dsimp only); exact QS1.out
    clear hK K
    try simp only [Act.put, List.setIfInBounds_toArray, List.set_cons_zero, List.set_cons_succ]
    refine wpAnyH_ready (rs := [6]) (by kernel_rfl) (by simp) ?_
    refine AllReadyH.cons rfl (fun K hK => ?_) AllReadyH.nil
    rw [if_pos (by rfl)]
    go_simp
    go_at_call 27
    have kB := hHeld.2.2.2.2.2.2.2.2
    refine (toDuty_any d3.fr d3.tt d3.a d3.b _).mono ?_
    rintro e wt2 ⟨rfl, hbk⟩
    have HRD0' := Lib.hid (HRD0.out.below hbk)
    clear HRD0
    have HRD0 := HRD0'
    clear HRD0'
    have HBK := kB.out.trans (hbk.mono kB.out.size)
    have QS2 := Lib.hid (show wt2.cell? ⟨w.heap.size, 0, none⟩ = some (.int .i64 d2.fr) ∧ wt2.cell? ⟨w.heap.size, 1, none⟩ = some (.int .i64 d2.tt) ∧ wt2.cell? ⟨w.heap.size, 2, none⟩ = some (.int .i64 d2.a) ∧ wt2.cell? ⟨w.heap.size, 3, none⟩ = some (.int .i64 d2.b) ∧ wt2.cell? ⟨w.heap.size + 1, 0, none⟩ = some (.int .i64 d3.fr) ∧ wt2.cell? ⟨w.heap.size + 1, 1, none⟩ = some (.int .i64 d3.tt) ∧ wt2.cell? ⟨w.heap.size + 1, 2, none⟩ = some (.int .i64 d3.a) ∧ wt2.cell? ⟨w.heap.size + 1, 3, none⟩ = some (.int .i64 d3.b) ∧ Hid (Below (((w.alloc (.cells #[.int .i64 d2.fr, .int .i64 d2.tt, .int .i64 d2.a, .int .i64 d2.b] 45)).alloc (.cells #[.int .i64 d3.fr, .int .i64 d3.tt, .int .i64 d3.a, .int .i64 d3.b] 45))).heap.size (((w.alloc (.cells #[.int .i64 d2.fr, .int .i64 d2.tt, .int .i64 d2.a, .int .i64 d2.b] 45)).alloc (.cells #[.int .i64 d3.fr, .int .i64 d3.tt, .int .i64 d3.a, .int .i64 d3.b] 45))) wt2) from ⟨cell_onV (cell_onV (ABX2.out.1) B0.out) HBK, cell_onV (cell_onV (ABX2.out.2.1) B0.out) HBK, cell_onV (cell_onV (ABX2.out.2.2.1) B0.out) HBK, cell_onV (cell_onV (ABX2.out.2.2.2) B0.out) HBK, cell_onV (cell_onV (ABX3.out.1) B0.out) HBK, cell_onV (cell_onV (ABX3.out.2.1) B0.out) HBK, cell_onV (cell_onV (ABX3.out.2.2.1) B0.out) HBK, cell_onV (cell_onV (ABX3.out.2.2.2) B0.out) HBK, Lib.hid HBK⟩)
    clear hbk kB hHeld HBK
    go_simp
    refine hK.out _ _ ?_ (fun hHeld => ?_)
    · (try dsimp only); exact QS2.out
    clear hK K
    try simp only [Act.put, List.setIfInBounds_toArray, List.set_cons_zero, List.set_cons_succ]
    refine wpAnyH_ready (rs := [7]) (by kernel_rfl) (by simp) ?_
    refine AllReadyH.cons rfl (fun K hK => ?_) AllReadyH.nil
    rw [if_pos (by rfl)]
    go_simp
    go_at_call 29
    have kB := hHeld.2.2.2.2.2.2.2.2
    refine (specCanFollow a0 _ l1 d2 d3 _ HRD0.out ).mono ?_
    rw [HR0.out]
    rintro e wq ⟨rfl, hbk⟩
    have HBK := kB.out.trans (hbk.mono kB.out.size)
    have QQ := Lib.hid (show wq.cell? ⟨w.heap.size, 0, none⟩ = some (.int .i64 d2.fr) ∧ wq.cell? ⟨w.heap.size, 1, none⟩ = some (.int .i64 d2.tt) ∧ wq.cell? ⟨w.heap.size, 2, none⟩ = some (.int .i64 d2.a) ∧ wq.cell? ⟨w.heap.size, 3, none⟩ = some (.int .i64 d2.b) ∧ wq.cell? ⟨w.heap.size + 1, 0, none⟩ = some (.int .i64 d3.fr) ∧ wq.cell? ⟨w.heap.size + 1, 1, none⟩ = some (.int .i64 d3.tt) ∧ wq.cell? ⟨w.heap.size + 1, 2, none⟩ = some (.int .i64 d3.a) ∧ wq.cell? ⟨w.heap.size + 1, 3, none⟩ = some (.int .i64 d3.b) ∧ Hid (Below (((w.alloc (.cells #[.int .i64 d2.fr, .int .i64 d2.tt, .int .i64 d2.a, .int .i64 d2.b] 45)).alloc (.cells #[.int .i64 d3.fr, .int .i64 d3.tt, .int .i64 d3.a, .int .i64 d3.b] 45))).heap.size (((w.alloc (.cells #[.int .i64 d2.fr, .int .i64 d2.tt, .int .i64 d2.a, .int .i64 d2.b] 45)).alloc (.cells #[.int .i64 d3.fr, .int .i64 d3.tt, .int .i64 d3.a, .int .i64 d3.b] 45))) wq) from ⟨cell_onV (cell_onV (ABX2.out.1) B0.out) HBK, cell_onV (cell_onV (ABX2.out.2.1) B0.out) HBK, cell_onV (cell_onV (ABX2.out.2.2.1) B0.out) HBK, cell_onV (cell_onV (ABX2.out.2.2.2) B0.out) HBK, cell_onV (cell_onV (ABX3.out.1) B0.out) HBK, cell_onV (cell_onV (ABX3.out.2.1) B0.out) HBK, cell_onV (cell_onV (ABX3.out.2.2.1) B0.out) HBK, cell_onV (cell_onV (ABX3.out.2.2.2) B0.out) HBK, Lib.hid HBK⟩)
    clear hbk kB hHeld HBK
    go_simp
    refine hK.out _ _ ?_ (fun hHeld => ?_)
    · (try dsimp only); exact QQ.out
    clear hK K
    try simp only [Act.put, List.setIfInBounds_toArray, List.set_cons_zero, List.set_cons_succ]
    refine wpAnyH_take (i := 8) (v := ?_) (by simp only [List.getElem?_toArray, List.getElem?_cons_succ, List.getElem?_cons_zero]; rfl) (by kernel_rfl) (by kernel_rfl) (by kernel_rfl) (by exact fun _ _ _ h => h) (Or.inl ⟨by rfl, ?_⟩) (by assumption) ?_; rotate_left; focus (intro w hSw; (try dsimp only at hSw); first | (go_simp; done) | (go_simp; with_reducible rfl))
    try simp only [Act.put, List.setIfInBounds_toArray, List.set_cons_zero, List.set_cons_succ]
    refine wpAnyH_done (by kernel_rfl) ?_ _
    go_wp2_with fail
    go_meet
    exact ⟨rfl, hHeld.2.2.2.2.2.2.2.2⟩
  case rest =>
    obtain ⟨rfl, hbH⟩ := hcut
    have hb1 := hbH.out
    obtain ⟨w1, rfl⟩ : ∃ W, W = wc := ⟨_, rfl⟩
    clear hbH DD y2_0 y2_1 y2_2 y2_3 y3_0 y3_1 y3_2 y3_3 
    have B1 := Lib.hid (B0.out.trans (hb1.mono B0.out.size))
    have hz1 : (((w.alloc (.cells #[.int .i64 d2.fr, .int .i64 d2.tt, .int .i64 d2.a, .int .i64 d2.b] 45)).alloc (.cells #[.int .i64 d3.fr, .int .i64 d3.tt, .int .i64 d3.a, .int .i64 d3.b] 45))).heap.size ≤ w1.heap.size := hb1.size
    clear hb1
    -- x1 := toIntS(aMoves)
    go_wp2_with fail
    refine (toIntS_any _ l1 _ (R1.out.below (BW.out.trans (B1.out.mono hs0)))).mono ?_
    rintro e w2 ⟨u2, rfl, o2, hb2⟩
    have S2 := Lib.hid (OwnInt.sl o2 (by omega))
    have RG2 := Lib.hid (own_range o2)
    have FR2 := Lib.hid (own_freeV o2)
    obtain ⟨D2, k2, rfl⟩ := own_form o2
    have B2 := Lib.hid (B1.out.trans (hb2.mono B1.out.size))
    have hz2 : (w1).heap.size ≤ w2.heap.size := hb2.size
    clear hb2 o2
    -- g0 := impl.CanFollow(aPause, x1, toDuty(aD), toDuty(aE))
    have y2_0 : (w2).cell? ⟨w.heap.size, 0, none⟩ = some (.int .i64 d2.fr) := cell_onV (ABX2.out.1) B2.out
    have y2_1 : (w2).cell? ⟨w.heap.size, 1, none⟩ = some (.int .i64 d2.tt) := cell_onV (ABX2.out.2.1) B2.out
    have y2_2 : (w2).cell? ⟨w.heap.size, 2, none⟩ = some (.int .i64 d2.a) := cell_onV (ABX2.out.2.2.1) B2.out
    have y2_3 : (w2).cell? ⟨w.heap.size, 3, none⟩ = some (.int .i64 d2.b) := cell_onV (ABX2.out.2.2.2) B2.out
    have y3_0 : (w2).cell? ⟨w.heap.size + 1, 0, none⟩ = some (.int .i64 d3.fr) := cell_onV (ABX3.out.1) B2.out
    have y3_1 : (w2).cell? ⟨w.heap.size + 1, 1, none⟩ = some (.int .i64 d3.tt) := cell_onV (ABX3.out.2.1) B2.out
    have y3_2 : (w2).cell? ⟨w.heap.size + 1, 2, none⟩ = some (.int .i64 d3.a) := cell_onV (ABX3.out.2.2.1) B2.out
    have y3_3 : (w2).cell? ⟨w.heap.size + 1, 3, none⟩ = some (.int .i64 d3.b) := cell_onV (ABX3.out.2.2.2) B2.out
    have DD := Lib.hid ((Below.refl (w2).heap.size (w2)).drew)
    go_upto_region 5 with fail
    go_cut [11] (fun sL wx => sL = .bool r0 ∧ Hid (Below (w2).heap.size (w2) wx))
    case first =>
      refine wp_region_held_drew (S := (fun w' => w'.cell? ⟨w.heap.size, 0, none⟩ = some (.int .i64 d2.fr) ∧ w'.cell? ⟨w.heap.size, 1, none⟩ = some (.int .i64 d2.tt) ∧ w'.cell? ⟨w.heap.size, 2, none⟩ = some (.int .i64 d2.a) ∧ w'.cell? ⟨w.heap.size, 3, none⟩ = some (.int .i64 d2.b) ∧ w'.cell? ⟨w.heap.size + 1, 0, none⟩ = some (.int .i64 d3.fr) ∧ w'.cell? ⟨w.heap.size + 1, 1, none⟩ = some (.int .i64 d3.tt) ∧ w'.cell? ⟨w.heap.size + 1, 2, none⟩ = some (.int .i64 d3.a) ∧ w'.cell? ⟨w.heap.size + 1, 3, none⟩ = some (.int .i64 d3.b) ∧ Hid (Below (w2).heap.size (w2) w'))) (by kernel_rfl) ?_ (fun hHeld => ?_)
      · (try dsimp only); go_keep
      refine wpAnyH_take (i := 0) (v := ?_) (by simp only [List.getElem?_toArray, List.getElem?_cons_zero]; rfl) (by kernel_rfl) (by kernel_rfl) (by kernel_rfl) (by exact fun _ _ _ h => h) (Or.inl ⟨by rfl, ?_⟩) (by assumption) ?_; rotate_left; focus (intro w hSw; (try dsimp only at hSw); first | (go_simp; done) | (go_simp; with_reducible rfl))
      try simp only [Act.put, List.setIfInBounds_toArray, List.set_cons_zero, List.set_cons_succ]
      refine wpAnyH_take (i := 1) (v := ?_) (by simp only [List.getElem?_toArray, List.getElem?_cons_succ, List.getElem?_cons_zero]; rfl) (by kernel_rfl) (by kernel_rfl) (by kernel_rfl) (by exact fun _ _ _ h => h) (Or.inl ⟨by rfl, ?_⟩) (by assumption) ?_; rotate_left; focus (intro w hSw; (try dsimp only at hSw); first | (go_simp; done) | (go_simp; with_reducible rfl))
      try simp only [Act.put, List.setIfInBounds_toArray, List.set_cons_zero, List.set_cons_succ]
      refine wpAnyH_take (i := 2) (v := ?_) (by simp only [List.getElem?_toArray, List.getElem?_cons_succ, List.getElem?_cons_zero]; rfl) (by kernel_rfl) (by kernel_rfl) (by kernel_rfl) (by exact fun _ _ _ h => h) (Or.inl ⟨by rfl, ?_⟩) (by assumption) ?_; rotate_left; focus (intro w hSw; (try dsimp only at hSw); first | (go_simp; done) | (go_simp; with_reducible rfl))
      try simp only [Act.put, List.setIfInBounds_toArray, List.set_cons_zero, List.set_cons_succ]
      refine wpAnyH_take (i := 4) (v := ?_) (by simp only [List.getElem?_toArray, List.getElem?_cons_succ, List.getElem?_cons_zero]; rfl) (by kernel_rfl) (by kernel_rfl) (by kernel_rfl) (by exact fun _ _ _ h => h) (Or.inl ⟨by rfl, ?_⟩) (by assumption) ?_; rotate_left; focus (intro w hSw; (try dsimp only at hSw); first | (go_simp; done) | (go_simp; with_reducible rfl))
      try simp only [Act.put, List.setIfInBounds_toArray, List.set_cons_zero, List.set_cons_succ]
      refine wpAnyH_ready (rs := [3]) (by kernel_rfl) (by simp) ?_
      refine AllReadyH.cons rfl (fun K hK => ?_) AllReadyH.nil
      rw [if_pos (by rfl)]
      go_simp
      go_at_call 27
      have kB := hHeld.2.2.2.2.2.2.2.2
      refine (toDuty_any d2.fr d2.tt d2.a d2.b _).mono ?_
      rintro e wt0 ⟨rfl, hbk⟩
      have HBK := kB.out.trans (hbk.mono kB.out.size)
      have QS0 := Lib.hid (show wt0.cell? ⟨w.heap.size, 0, none⟩ = some (.int .i64 d2.fr) ∧ wt0.cell? ⟨w.heap.size, 1, none⟩ = some (.int .i64 d2.tt) ∧ wt0.cell? ⟨w.heap.size, 2, none⟩ = some (.int .i64 d2.a) ∧ wt0.cell? ⟨w.heap.size, 3, none⟩ = some (.int .i64 d2.b) ∧ wt0.cell? ⟨w.heap.size + 1, 0, none⟩ = some (.int .i64 d3.fr) ∧ wt0.cell? ⟨w.heap.size + 1, 1, none⟩ = some (.int .i64 d3.tt) ∧ wt0.cell? ⟨w.heap.size + 1, 2, none⟩ = some (.int .i64 d3.a) ∧ wt0.cell? ⟨w.heap.size + 1, 3, none⟩ = some (.int .i64 d3.b) ∧ Hid (Below (w2).heap.size (w2) wt0) from ⟨cell_onV (cell_onV (ABX2.out.1) B2.out) HBK, cell_onV (cell_onV (ABX2.out.2.1) B2.out) HBK, cell_onV (cell_onV (ABX2.out.2.2.1) B2.out) HBK, cell_onV (cell_onV (ABX2.out.2.2.2) B2.out) HBK, cell_onV (cell_onV (ABX3.out.1) B2.out) HBK, cell_onV (cell_onV (ABX3.out.2.1) B2.out) HBK, cell_onV (cell_onV (ABX3.out.2.2.1) B2.out) HBK, cell_onV (cell_onV (ABX3.out.2.2.2) B2.out) HBK, Lib.hid HBK⟩)
      clear hbk kB hHeld HBK
      go_simp
      refine hK.out _ _ ?_ (fun hHeld => ?_)
      · (try dsimp only); exact QS0.out
      clear hK K
      try simp only [Act.put, List.setIfInBounds_toArray, List.set_cons_zero, List.set_cons_succ]
      refine wpAnyH_ready (rs := [5]) (by kernel_rfl) (by simp) ?_
      refine AllReadyH.cons rfl (fun K hK => ?_) AllReadyH.nil
      rw [if_pos (by rfl)]
      go_simp
      go_at_call 27
      have kB := hHeld.2.2.2.2.2.2.2.2
      refine (toDuty_any d3.fr d3.tt d3.a d3.b _).mono ?_
      rintro e wt1 ⟨rfl, hbk⟩
      have HBK := kB.out.trans (hbk.mono kB.out.size)
      have QS1 := Lib.hid (show wt1.cell? ⟨w.heap.size, 0, none⟩ = some (.int .i64 d2.fr) ∧ wt1.cell? ⟨w.heap.size, 1, none⟩ = some (.int .i64 d2.tt) ∧ wt1.cell? ⟨w.heap.size, 2, none⟩ = some (.int .i64 d2.a) ∧ wt1.cell? ⟨w.heap.size, 3, none⟩ = some (.int .i64 d2.b) ∧ wt1.cell? ⟨w.heap.size + 1, 0, none⟩ = some (.int .i64 d3.fr) ∧ wt1.cell? ⟨w.heap.size + 1, 1, none⟩ = some (.int .i64 d3.tt) ∧ wt1.cell? ⟨w.heap.size + 1, 2, none⟩ = some (.int .i64 d3.a) ∧ wt1.cell? ⟨w.heap.size + 1, 3, none⟩ = some (.int .i64 d3.b) ∧ Hid (Below (w2).heap.size (w2) wt1) from ⟨cell_onV (cell_onV (ABX2.out.1) B2.out) HBK, cell_onV (cell_onV (ABX2.out.2.1) B2.out) HBK, cell_onV (cell_onV (ABX2.out.2.2.1) B2.out) HBK, cell_onV (cell_onV (ABX2.out.2.2.2) B2.out) HBK, cell_onV (cell_onV (ABX3.out.1) B2.out) HBK, cell_onV (cell_onV (ABX3.out.2.1) B2.out) HBK, cell_onV (cell_onV (ABX3.out.2.2.1) B2.out) HBK, cell_onV (cell_onV (ABX3.out.2.2.2) B2.out) HBK, Lib.hid HBK⟩)
      clear hbk kB hHeld HBK
      go_simp
      refine hK.out _ _ ?_ (fun hHeld => ?_)
      · (try dsimp only); exact QS1.out
      clear hK K
      try simp only [Act.put, List.setIfInBounds_toArray, List.set_cons_zero, List.set_cons_succ]
      refine wpAnyH_ready (rs := [6]) (by kernel_rfl) (by simp) ?_
      refine AllReadyH.cons rfl (fun K hK => ?_) AllReadyH.nil
      rw [if_pos (by rfl)]
      go_simp
      go_at_call 18
      have kB := hHeld.2.2.2.2.2.2.2.2
      refine (implCanFollow a0 _ l1 d2 d3 _ (S2.out.below kB.out) ).mono ?_
      rw [HR0.out]
      rintro e wq ⟨rfl, hbk⟩
      have HBK := kB.out.trans (hbk.mono kB.out.size)
      have QQ := Lib.hid (show wq.cell? ⟨w.heap.size, 0, none⟩ = some (.int .i64 d2.fr) ∧ wq.cell? ⟨w.heap.size, 1, none⟩ = some (.int .i64 d2.tt) ∧ wq.cell? ⟨w.heap.size, 2, none⟩ = some (.int .i64 d2.a) ∧ wq.cell? ⟨w.heap.size, 3, none⟩ = some (.int .i64 d2.b) ∧ wq.cell? ⟨w.heap.size + 1, 0, none⟩ = some (.int .i64 d3.fr) ∧ wq.cell? ⟨w.heap.size + 1, 1, none⟩ = some (.int .i64 d3.tt) ∧ wq.cell? ⟨w.heap.size + 1, 2, none⟩ = some (.int .i64 d3.a) ∧ wq.cell? ⟨w.heap.size + 1, 3, none⟩ = some (.int .i64 d3.b) ∧ Hid (Below (w2).heap.size (w2) wq) from ⟨cell_onV (cell_onV (ABX2.out.1) B2.out) HBK, cell_onV (cell_onV (ABX2.out.2.1) B2.out) HBK, cell_onV (cell_onV (ABX2.out.2.2.1) B2.out) HBK, cell_onV (cell_onV (ABX2.out.2.2.2) B2.out) HBK, cell_onV (cell_onV (ABX3.out.1) B2.out) HBK, cell_onV (cell_onV (ABX3.out.2.1) B2.out) HBK, cell_onV (cell_onV (ABX3.out.2.2.1) B2.out) HBK, cell_onV (cell_onV (ABX3.out.2.2.2) B2.out) HBK, Lib.hid HBK⟩)
      clear hbk kB hHeld HBK
      go_simp
      refine hK.out _ _ ?_ (fun hHeld => ?_)
      · (try dsimp only); exact QQ.out
      clear hK K
      try simp only [Act.put, List.setIfInBounds_toArray, List.set_cons_zero, List.set_cons_succ]
      refine wpAnyH_take (i := 7) (v := ?_) (by simp only [List.getElem?_toArray, List.getElem?_cons_succ, List.getElem?_cons_zero]; rfl) (by kernel_rfl) (by kernel_rfl) (by kernel_rfl) (by exact fun _ _ _ h => h) (Or.inl ⟨by rfl, ?_⟩) (by assumption) ?_; rotate_left; focus (intro w hSw; (try dsimp only at hSw); first | (go_simp; done) | (go_simp; with_reducible rfl))
      try simp only [Act.put, List.setIfInBounds_toArray, List.set_cons_zero, List.set_cons_succ]
      refine wpAnyH_done (by kernel_rfl) ?_ _
      go_wp2_with fail
      go_meet
      exact ⟨rfl, hHeld.2.2.2.2.2.2.2.2⟩
    case rest =>
      obtain ⟨rfl, hbH⟩ := hcut
      have hb3 := hbH.out
      obtain ⟨w3, rfl⟩ : ∃ W, W = wc := ⟨_, rfl⟩
      clear hbH DD y2_0 y2_1 y2_2 y2_3 y3_0 y3_1 y3_2 y3_3 
      have B3 := Lib.hid (B2.out.trans (hb3.mono B2.out.size))
      have x1_3 := Lib.hid (S2.out.below hb3)
      have x1F_3 := Lib.hid (FR2.out.below hb3)
      have hz3 : (w2).heap.size ≤ w3.heap.size := hb3.size
      clear hb3
      -- if g0 != w0 {
      -- if !eqIntS(x1, toIntS(aMoves)) {
      go_wp2_with fail
      refine (toIntS_any _ l1 _ (R1.out.below (BW.out.trans (B3.out.mono hs0)))).mono ?_
      rintro e w4 ⟨u4, rfl, o4, hb4⟩
      have S4 := Lib.hid (OwnInt.sl o4 (by omega))
      have RG4 := Lib.hid (own_range o4)
      have FR4 := Lib.hid (own_freeV o4)
      obtain ⟨D4, k4, rfl⟩ := own_form o4
      have B4 := Lib.hid (B3.out.trans (hb4.mono B3.out.size))
      have x1_4 := Lib.hid (x1_3.out.below hb4)
      have x1F_4 := Lib.hid (x1F_3.out.below hb4)
      have hz4 : (w3).heap.size ≤ w4.heap.size := hb4.size
      clear hb4 o4
      go_wp2_with fail
      refine (eqIntS_same _ _ l1 _ x1_4.out S4.out).mono ?_
      rintro e w5 ⟨rfl, hb5⟩
      have B5 := Lib.hid (B4.out.trans (hb5.mono B4.out.size))
      have x1_5 := Lib.hid (x1_4.out.below hb5)
      have x1F_5 := Lib.hid (x1F_4.out.below hb5)
      have hz5 : (w4).heap.size ≤ w5.heap.size := hb5.size
      clear hb5
      -- return true
      go_wp2
      go_ret
      exact ⟨rfl, BW.out.trans (B5.out.mono hs0)⟩

set_option maxRecDepth 100000 in
theorem lifted (os : Os) (started : os.Started) (H : Type) (enc : TypeId × Value → H) :
    ReturnsInHanded {} Try.checked os 7 .any (Rows.fnExactCanFollowSpec.pre6 enc Try.prog Try.f7 Rows.fnExactCanFollowRow.domain false) (Rows.fnExactCanFollowSpec.post enc Try.prog Try.f7 false true false false) := by
  refine returnsInHanded_of_change (C := Try.checked) own started (by kernel_rfl) Try.func7
    (ChangeSpec.witness6 (enc := enc) (C := Try.checked) false ⟨#[], #[.int .i64 0, .slice none 0 0, .agg #[.int .i64 0, .int .i64 0, .int .i64 0, .int .i64 0], .agg #[.int .i64 0, .int .i64 0, .int .i64 0, .int .i64 0]], []⟩ 8 (by kernel_rfl) (by kernel_rfl) (by kernel_rfl) (by kernel_rfl)) ?_
  intro W base args ds gs before hval0 hW _ _
  have hval : ∀ (j : Nat) t v, Try.f7.params[j]? = some t → args[j]? = some v → Value.okWide Try.prog W .any base t v := hval0
  have hW' := hW
  obtain ⟨p, q, hA0, hV, rfl, _, _⟩ := hW
  have hA : DataW.TrodAll enc Try.prog W 0 (fun _ => true) true Try.f7.params.toList args.toList ds p := hA0
  rw [Try.params7] at hA hval
  obtain ⟨v0, vs0, d0, ds0, p0, q0, hargs, rfl, rfl, h0, r0⟩ := trodAll_cons hA
  obtain ⟨v1, vs1, d1, ds1, p1, q1, rfl, rfl, rfl, h1, r1⟩ := trodAll_cons r0
  obtain ⟨v2, vs2, d2, ds2, p2, q2, rfl, rfl, rfl, h2, r2⟩ := trodAll_cons r1
  obtain ⟨v3, vs3, d3, ds3, p3, q3, rfl, rfl, rfl, h3, r3⟩ := trodAll_cons r2
  obtain ⟨rfl, rfl, rfl⟩ := trodAll_nil r3
  obtain rfl : args = #[v0, v1, v2, v3] := by cases args; simp_all
  obtain ⟨a0, rfl, rfl, rfl, g0⟩ := open_int Try.underlying3 (hval 0 3 v0 rfl rfl) h0
  obtain ⟨A1, c1, l1, rfl, g1⟩ := open_ints_arg (hval 1 23 v1 rfl rfl) h1
  obtain ⟨d2', rfl, g2⟩ := open_duty_arg (hval 2 45 v2 rfl rfl) h2
  obtain ⟨d3', rfl, g3⟩ := open_duty_arg (hval 3 45 v3 rfl rfl) h3
  refine (law a0 A1 c1 l1 d2' d3' W g0 g1 g2 g3).mono fun e W' ⟨he, hb⟩ => ⟨_, he, ?_⟩
  exact law_post laidOut (by kernel_rfl) rfl (by kernel_rfl) Try.underlying4 rfl rfl rfl hW' hb

theorem holds : Rows.FnExactCanFollowSaid :=
  OpenClaim.holds_of_wide 7 Try.f7 rfl rfl rfl rfl rfl rfl rfl ⟨rfl, rfl, rfl, rfl, rfl⟩ rfl rfl rfl rfl rfl (by kernel_rfl) Try.func7 (by kernel_rfl)
    (of_decide_eq_true (by kernel_rfl)) (by unfold Func.isWrapper; first | (rw [if_pos (by decide +kernel)]; kernel_rfl) | (rw [if_neg (by decide +kernel)]; exact ⟨rfl, rfl⟩))
    (fun os started H enc _ => lifted os started H enc)

end Go.Proofs.Ytfofbnpgjdagkaa.exactCanFollow
