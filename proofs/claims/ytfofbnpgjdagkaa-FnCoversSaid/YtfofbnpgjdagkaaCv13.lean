
/- What ExactRivalDuties and Dilworth and CoversLaw rests on, part 13: contracts and mathematics. -/
import Derived.Test.YtfofbnpgjdagkaaCv12
import Derived.Test.YtfofbnpgjdagkaaCv5
import Derived.Test.YtfofbnpgjdagkaaCv1
namespace Go.Proofs.Ytfofbnpgjdagkaa
open Go.RowKit
set_option maxRecDepth 100000
def covW (R : Option (List Nat × Nat)) : List Int := castL ((R.map Prod.fst).getD [])
def covN (R : Option (List Nat × Nat)) : Int := (((R.map Prod.snd).getD 0 : Nat) : Int)
/-- What LeastCover leaves. -/
def NewCover (R : Option (List Nat × Nat)) (w : World) (e : Ending) (w' : World) : Prop := ∃ v, e = .returned (.tuple #[v, .int .i64 (covN R), .bool R.isSome]) ∧ OwnInt w' w.heap.size v (covW R) ∧ Below w.heap.size w w'
end Go.Proofs.Ytfofbnpgjdagkaa
namespace Go.Proofs.Ytfofbnpgjdagkaa
open Go.RowKit
set_option maxRecDepth 100000
theorem OwnsPairs.keep {ex : Nat → Prop} {w w' : World} {b n : Nat} {B : Nat → Nat → Bool} {done : Nat → Nat → Prop} (h : OwnsPairs w b n B done) (hk : KeepX ex w w') (hx : ¬ ex b) : OwnsPairs w' b n B done := h.block (hk.block b h.lt hx)
set_option maxHeartbeats 16000000 in
theorem implPairs (p : Int) (ymv : Value) (mv : List Int) (yl : Value) (l : List DutyD) (w : World) (rmv : SlInt w ymv mv) (rl : SlDuty w yl l) (hl12 : l.length ≤ 12) :
    Calls Try.prog 42 #[.int .i64 p, ymv, yl] w fun e w' => ∃ b, e = .returned (.map (some b)) ∧ w.heap.size ≤ b ∧ PairAt w' b l.length (bothAt p mv l) ∧ Below w.heap.size w w' := by
  have Rmv := Lib.hid rmv
  have HS := Lib.hid rl
  obtain ⟨A0, c0, rfl⟩ := SlOf.form rmv
  obtain ⟨A1, c1, rfl⟩ := SlOf.form rl
  obtain ⟨nm, hnm⟩ : ∃ n, mv.length = n := ⟨_, rfl⟩
  obtain ⟨m, hm⟩ : ∃ n, l.length = n := ⟨_, rfl⟩
  have HM := Lib.hid hm
  rw [hnm] at Rmv
  rw [hm] at hl12 HS
  rw [hnm, hm]
  clear rmv rl hnm hm
  have O0 := Lib.hid (OwnsPairs.made w (bothAt p mv l))
  have hmm := @run_makeMap Try.prog
  go_enter Try.func42, Try.ntmps42
  go_wp2
  go_loopw [15] (fun t wr => ∃ k : Nat, k ≤ m ∧ t = .int .i64 (k : Int) ∧ Hid (OwnsPairs wr w.heap.size (k * 12) (bothAt p mv l) (fun _ k' => k' < k)) ∧ Hid (Below w.heap.size w wr)) (fun t _ => m - (intOf t).toNat)
  case atStart => exact ⟨0, Nat.zero_le _, rfl, Lib.hid (O0.out.imp (Nat.zero_le _) (fun _ _ _ _ h => by omega)), Lib.hid (Joins.below_alloc1 w _)⟩
  case round =>
    obtain ⟨k, hk, rfl, hO, BO⟩ := hrel
    obtain ⟨wo, rfl⟩ : ∃ W, W = wr := ⟨_, rfl⟩
    by_cases hlt : k < m
    rotate_left
    · obtain rfl : k = m := by omega
      go_wp2
      go_ret
      exact ⟨_, rfl, Nat.le_refl _, ⟨hl12, _, hO.out⟩, BO.out⟩
    obtain ⟨x, hx⟩ : ∃ x, l[k]? = some x := ⟨_, List.getElem?_eq_getElem (by have := HM.out; omega)⟩
    have HX := Lib.hid hx
    rcases HS.out.2 with ⟨he, _⟩ | ⟨g, o, c', e, lpos, lcap, lc⟩
    · rw [he] at hx; simp at hx
    injection e with ea e2 e3
    subst ea e3
    have hkc : k ≤ c1 := by have := HM.out; omega
    clear e2 lpos lcap
    have HLC := Lib.hid lc
    obtain ⟨q0, q1, q2, q3⟩ := SlDuty.cells lc k x hx
    have y0 := cell_onV q0 BO.out
    have y1 := cell_onV q1 BO.out
    have y2 := cell_onV q2 BO.out
    have y3 := cell_onV q3 BO.out
    clear q0 q1 q2 q3 lc hx
    go_upto_region 5 with fail
    have BL := Joins.below_alloc1 wo (.cells #[.int .i64 x.fr, .int .i64 x.tt, .int .i64 x.a, .int .i64 x.b] 35)
    have KN := Blk.new wo #[.int .i64 x.fr, .int .i64 x.tt, .int .i64 x.a, .int .i64 x.b] 35
    obtain ⟨w2, hw2⟩ : ∃ W, W = wo.alloc (.cells #[.int .i64 x.fr, .int .i64 x.tt, .int .i64 x.a, .int .i64 x.b] 35) := ⟨_, rfl⟩
    rw [← hw2] at BL KN ⊢
    have B2 := Lib.hid (BO.out.trans (BL.mono BO.out.size))
    have KP := Lib.hid KN
    have O2 := Lib.hid (hO.out.below BL)
    have hws := Lib.hid BO.out.size
    have HW2 := Lib.hid (show wo.heap.size < w2.heap.size by rw [hw2]; simp)
    have HLT0 := Lib.hid hO.out.lt
    clear BL KN hw2 y0 y1 y2 y3
    go_wp2
    go_loopw [24] (fun t wx => ∃ j : Nat, j ≤ k ∧ t = .int .i64 (j : Int) ∧ Hid (OwnsPairs wx w.heap.size (k * 12 + j) (bothAt p mv l) (fun i' k' => k' < k ∨ (k' = k ∧ i' < j))) ∧ Hid (KeepX (fun i => i = w.heap.size) w2 wx)) (fun t _ => k - (intOf t).toNat)
    case atStart => exact ⟨0, Nat.zero_le _, rfl, Lib.hid (O2.out.imp (Nat.le_refl _) (fun _ _ _ _ h => by omega)), Lib.hid (KeepX.refl _ _)⟩
    case round =>
      obtain ⟨j, hj, rfl, hP, KX⟩ := hrel
      have BX := Lib.hid (KX.out.toBelow B2.out (Nat.le_refl _) (fun i hi e => by omega))
      by_cases hjk : j < k
      rotate_left
      · obtain rfl : j = k := by omega
        have PN := Lib.hid (hP.out.imp (n' := (j + 1) * 12) (done' := fun _ k' => k' < j + 1) (by omega) (fun i' k' h1 _ h2 => by omega))
        go_wp2
        go_roundw
        case rel => exact ⟨j + 1, by omega, by go_num, PN, BX⟩
        case measure => simp [intOf]; omega
      obtain ⟨f, hf⟩ : ∃ x, l[j]? = some x := ⟨_, List.getElem?_eq_getElem (by have := HM.out; omega)⟩
      have HF := Lib.hid hf
      obtain ⟨q0, q1, q2, q3⟩ := SlDuty.cells HLC.out j f hf
      have y0 := cell_onV q0 BX.out
      have y1 := cell_onV q1 BX.out
      have y2 := cell_onV q2 BX.out
      have y3 := cell_onV q3 BX.out
      clear q0 q1 q2 q3 hf
      have KB := Lib.hid (show Blk wr wo.heap.size #[.int .i64 x.fr, .int .i64 x.tt, .int .i64 x.a, .int .i64 x.b] 35 from (KX.out.block _ HW2.out (by have := HLT0.out; omega)).trans KP.out)
      go_upto_region 8 with fail
      have BL := Joins.below_alloc1 wr (.cells #[.int .i64 f.fr, .int .i64 f.tt, .int .i64 f.a, .int .i64 f.b] 35)
      have KN := Blk.new wr #[.int .i64 f.fr, .int .i64 f.tt, .int .i64 f.a, .int .i64 f.b] 35
      obtain ⟨w4, hw4⟩ : ∃ W, W = wr.alloc (.cells #[.int .i64 f.fr, .int .i64 f.tt, .int .i64 f.a, .int .i64 f.b] 35) := ⟨_, rfl⟩
      rw [← hw4] at BL KN ⊢
      have B4 := Lib.hid (BX.out.trans (BL.mono BX.out.size))
      have X4 := Lib.hid (KX.out.trans (KeepX.below BL))
      have KF := Lib.hid KN
      have KD := Lib.hid (KB.out.below BL)
      have P4 := Lib.hid (hP.out.below BL)
      clear BL KN hw4 y0 y1 y2 y3
      obtain ⟨b1, hb1⟩ : ∃ b, canB p mv f x = b := ⟨_, rfl⟩
      have H1 := Lib.hid hb1
      clear hb1
      have z0 : w4.cell? ⟨wo.heap.size, 0, none⟩ = some (.int .i64 x.fr) := KD.out.cell 0
      have x0 : w4.cell? ⟨wr.heap.size, 0, none⟩ = some (.int .i64 f.fr) := KF.out.cell 0
      have z1 : w4.cell? ⟨wo.heap.size, 1, none⟩ = some (.int .i64 x.tt) := KD.out.cell 1
      have x1 : w4.cell? ⟨wr.heap.size, 1, none⟩ = some (.int .i64 f.tt) := KF.out.cell 1
      have z2 : w4.cell? ⟨wo.heap.size, 2, none⟩ = some (.int .i64 x.a) := KD.out.cell 2
      have x2 : w4.cell? ⟨wr.heap.size, 2, none⟩ = some (.int .i64 f.a) := KF.out.cell 2
      have z3 : w4.cell? ⟨wo.heap.size, 3, none⟩ = some (.int .i64 x.b) := KD.out.cell 3
      have x3 : w4.cell? ⟨wr.heap.size, 3, none⟩ = some (.int .i64 f.b) := KF.out.cell 3
      go_wp2_with fail
      clear z0 z1 z2 z3 x0 x1 x2 x3
      refine (implCanFollow p _ mv f x _ (Rmv.out.below B4.out)).mono ?_
      rw [H1.out]
      rintro e w5 ⟨rfl, hb5⟩
      have B5 := Lib.hid (B4.out.trans (hb5.mono B4.out.size))
      have X5 := Lib.hid (X4.out.trans (KeepX.below hb5))
      have KF5 := Lib.hid (KF.out.below hb5)
      have KD5 := Lib.hid (KD.out.below hb5)
      have P5 := Lib.hid (P4.out.below hb5)
      clear hb5
      cases b1 with
      | true =>
        have EV := Lib.hid (show bothAt p mv l j k = true by rw [bothAt_at HF.out HX.out]; exact (show bothB p mv f x = true by unfold bothB; rw [H1.out]; rfl))
        go_wp2_with (at_mapUpdate; refine wpList_put_pair _ rfl _ _ _ rfl P5.out (by omega) (i := j) (k := k) hjk (by omega) EV.out rfl rfl rfl ?_; intro w8 ho8 hg8; have O8 := Lib.hid ho8; have X8 := Lib.hid (X5.out.trans (KeepX.grown hg8 (fun g e => by injection e with e; exact e.symm))); clear ho8 hg8)
        have ON := Lib.hid (O8.out.imp (n' := k * 12 + (j + 1)) (done' := fun i' k' => k' < k ∨ (k' = k ∧ i' < j + 1)) (by omega) (fun i' k' _ _ h => by omega))
        go_roundw
        case rel => exact ⟨j + 1, by omega, by go_num, ON, X8⟩
        case measure => simp [intOf]; omega
      | false =>
      obtain ⟨b2, hb2⟩ : ∃ b, canB p mv x f = b := ⟨_, rfl⟩
      have H2 := Lib.hid hb2
      clear hb2
      have z0 : w5.cell? ⟨wo.heap.size, 0, none⟩ = some (.int .i64 x.fr) := KD5.out.cell 0
      have x0 : w5.cell? ⟨wr.heap.size, 0, none⟩ = some (.int .i64 f.fr) := KF5.out.cell 0
      have z1 : w5.cell? ⟨wo.heap.size, 1, none⟩ = some (.int .i64 x.tt) := KD5.out.cell 1
      have x1 : w5.cell? ⟨wr.heap.size, 1, none⟩ = some (.int .i64 f.tt) := KF5.out.cell 1
      have z2 : w5.cell? ⟨wo.heap.size, 2, none⟩ = some (.int .i64 x.a) := KD5.out.cell 2
      have x2 : w5.cell? ⟨wr.heap.size, 2, none⟩ = some (.int .i64 f.a) := KF5.out.cell 2
      have z3 : w5.cell? ⟨wo.heap.size, 3, none⟩ = some (.int .i64 x.b) := KD5.out.cell 3
      have x3 : w5.cell? ⟨wr.heap.size, 3, none⟩ = some (.int .i64 f.b) := KF5.out.cell 3
      go_wp2_with fail
      clear z0 z1 z2 z3 x0 x1 x2 x3
      refine (implCanFollow p _ mv x f _ (Rmv.out.below B5.out)).mono ?_
      rw [H2.out]
      rintro e w6 ⟨rfl, hb6⟩
      have X6 := Lib.hid (X5.out.trans (KeepX.below hb6))
      have P6 := Lib.hid (P5.out.below hb6)
      clear hb6
      have EV := Lib.hid (show bothAt p mv l j k = b2 by rw [bothAt_at HF.out HX.out]; exact (show bothB p mv f x = b2 by unfold bothB; rw [H1.out, H2.out]; rfl))
      go_wp2_with (at_mapUpdate; refine wpList_put_pair _ rfl _ _ _ rfl P6.out (by omega) (i := j) (k := k) hjk (by omega) EV.out rfl rfl rfl ?_; intro w8 ho8 hg8; have O8 := Lib.hid ho8; have X8 := Lib.hid (X6.out.trans (KeepX.grown hg8 (fun g e => by injection e with e; exact e.symm))); clear ho8 hg8)
      have ON := Lib.hid (O8.out.imp (n' := k * 12 + (j + 1)) (done' := fun i' k' => k' < k ∨ (k' = k ∧ i' < j + 1)) (by omega) (fun i' k' _ _ h => by omega))
      go_roundw
      case rel => exact ⟨j + 1, by omega, by go_num, ON, X8⟩
      case measure => simp [intOf]; omega
end Go.Proofs.Ytfofbnpgjdagkaa
