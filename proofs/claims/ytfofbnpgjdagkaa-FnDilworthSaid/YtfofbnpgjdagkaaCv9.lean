
/- What ExactRivalDuties and Dilworth and CoversLaw rests on, part 9: contracts and mathematics. -/
import Derived.Test.YtfofbnpgjdagkaaCv8
import Derived.Test.YtfofbnpgjdagkaaCv5
import Derived.Deep.AppendLies
import Derived.Deep.Upon
import Derived.Lib.SliceRun
import Derived.Deep.RegionHeld3
import Derived.Deep.DeepCutAuto
import Derived.Test.YtfofbnpgjdagkaaCv2
import Derived.Test.YtfofbnpgjdagkaaCv3
import Derived.Test.YtfofbnpgjdagkaaCv1
namespace Go.Proofs.Ytfofbnpgjdagkaa
open Go.RowKit
set_option maxRecDepth 100000
theorem gapO_no {p : Int} {mv : List Int} {d f : DutyD} (h : ¬ (tableB p mv = true ∧ inB d.b 0 7 = true ∧ inB f.a 0 7 = true)) : gapO p mv d f = none := if_neg h
theorem tableB_all {p : Int} {mv : List Int} (h : tableB p mv = true) : (0 ≤ p ∧ p ≤ 2880) ∧ mv.length = 64 ∧ ∀ n ∈ mv, 0 ≤ n ∧ n ≤ 240 := by
  unfold tableB at h
  simp only [Bool.and_eq_true, List.all_eq_true] at h
  exact ⟨of_decide_eq_true h.1.1, of_decide_eq_true h.1.2, fun n hn => of_decide_eq_true (h.2 n hn)⟩
set_option maxHeartbeats 8000000 in
theorem specGap (p : Int) (ymv : Value) (mv : List Int) (d : DutyD) (f : DutyD) (w : World) (rmv : SlInt w ymv mv) :
    Calls Try.prog 25 #[.int .i64 p, ymv, d.val, f.val] w (fun e w' => e = .returned (.tuple #[.int .i64 ((gapO p mv d f).getD 0), .bool (gapO p mv d f).isSome]) ∧ Below w.heap.size w w') := by
  have Rmv := Lib.hid rmv
  obtain ⟨Amv, cmv, rfl⟩ := SlOf.form rmv
  clear rmv
  obtain ⟨W0, hW0⟩ : ∃ W0, W0 = ((w.alloc (.cells #[.int .i64 d.fr, .int .i64 d.tt, .int .i64 d.a, .int .i64 d.b] 35)).alloc (.cells #[.int .i64 f.fr, .int .i64 f.tt, .int .i64 f.a, .int .i64 f.b] 35)) := ⟨_, rfl⟩
  have B := Lib.hid ((Joins.below_alloc1 w (.cells #[.int .i64 d.fr, .int .i64 d.tt, .int .i64 d.a, .int .i64 d.b] 35)).trans ((Joins.below_alloc1 (w.alloc (.cells #[.int .i64 d.fr, .int .i64 d.tt, .int .i64 d.a, .int .i64 d.b] 35)) (.cells #[.int .i64 f.fr, .int .i64 f.tt, .int .i64 f.a, .int .i64 f.b] 35)).mono (by simp; try omega)))
  have Kd := Lib.hid ((Blk.new w #[.int .i64 d.fr, .int .i64 d.tt, .int .i64 d.a, .int .i64 d.b] 35).below (Joins.below_alloc1 _ (.cells #[.int .i64 f.fr, .int .i64 f.tt, .int .i64 f.a, .int .i64 f.b] 35)))
  have Kf := Lib.hid (Blk.new (w.alloc (.cells #[.int .i64 d.fr, .int .i64 d.tt, .int .i64 d.a, .int .i64 d.b] 35)) #[.int .i64 f.fr, .int .i64 f.tt, .int .i64 f.a, .int .i64 f.b] 35)
  rw [World.size_alloc] at Kf
  have HW0 := Lib.hid hW0
  rw [← hW0] at B Kd Kf
  clear hW0
  obtain ⟨b1, hb1⟩ : ∃ b, tableB p mv = b := ⟨_, rfl⟩
  have Hb1 := Lib.hid hb1
  clear hb1
  obtain ⟨b2, hb2⟩ : ∃ b, inB d.b 0 7 = b := ⟨_, rfl⟩
  have Hb2 := Lib.hid hb2
  clear hb2
  obtain ⟨b3, hb3⟩ : ∃ b, inB f.a 0 7 = b := ⟨_, rfl⟩
  have Hb3 := Lib.hid hb3
  clear hb3
  obtain ⟨nm, hnm⟩ : ∃ n, mv.length = n := ⟨_, rfl⟩
  have HNM := Lib.hid hnm
  have RMV := Lib.hid Rmv.out
  rw [hnm] at Rmv
  try rw [hnm]
  clear hnm
  go_enter Try.func25, Try.ntmps25
  have vd0 : W0.cell? ⟨w.heap.size, 0, none⟩ = some (.int .i64 d.fr) := Kd.out.cell 0
  have vd1 : W0.cell? ⟨w.heap.size, 1, none⟩ = some (.int .i64 d.tt) := Kd.out.cell 1
  have vd2 : W0.cell? ⟨w.heap.size, 2, none⟩ = some (.int .i64 d.a) := Kd.out.cell 2
  have vd3 : W0.cell? ⟨w.heap.size, 3, none⟩ = some (.int .i64 d.b) := Kd.out.cell 3
  have vf0 : W0.cell? ⟨w.heap.size + 1, 0, none⟩ = some (.int .i64 f.fr) := Kf.out.cell 0
  have vf1 : W0.cell? ⟨w.heap.size + 1, 1, none⟩ = some (.int .i64 f.tt) := Kf.out.cell 1
  have vf2 : W0.cell? ⟨w.heap.size + 1, 2, none⟩ = some (.int .i64 f.a) := Kf.out.cell 2
  have vf3 : W0.cell? ⟨w.heap.size + 1, 3, none⟩ = some (.int .i64 f.b) := Kf.out.cell 3
  go_wp2_with fail
  rw [← HW0.out]
  clear vd0 vd1 vd2 vd3 vf0 vf1 vf2 vf3
  refine (specTable p _ mv _ (Rmv.out.below B.out)).mono ?_
  rw [Hb1.out]
  rintro e w1 ⟨rfl, hb1⟩
  have B1 := Lib.hid (B.out.trans (hb1.mono B.out.size))
  have Kd_1 := Lib.hid (Kd.out.below hb1)
  have Kf_1 := Lib.hid (Kf.out.below hb1)
  clear hb1
  cases b1 with
  | false =>
    have E := Lib.hid (gapO_no (p := p) (mv := mv) (d := d) (f := f) (by rw [Hb1.out]; simp))
    go_wp2
    refine bodyPost_ret (v := .tuple #[.int .i64 0, .bool false]) (by simp [results, Try.results25, go_sem]) rfl ⟨by rw [E.out]; rfl, B1.out⟩
  | true =>
  have vd0 : w1.cell? ⟨w.heap.size, 0, none⟩ = some (.int .i64 d.fr) := Kd_1.out.cell 0
  have vd1 : w1.cell? ⟨w.heap.size, 1, none⟩ = some (.int .i64 d.tt) := Kd_1.out.cell 1
  have vd2 : w1.cell? ⟨w.heap.size, 2, none⟩ = some (.int .i64 d.a) := Kd_1.out.cell 2
  have vd3 : w1.cell? ⟨w.heap.size, 3, none⟩ = some (.int .i64 d.b) := Kd_1.out.cell 3
  go_wp2_with fail
  clear vd0 vd1 vd2 vd3
  refine (l01In_any _ _ _ _).mono ?_
  rw [Hb2.out]
  rintro e wz ⟨rfl, rfl⟩
  cases b2 with
  | false =>
    have E := Lib.hid (gapO_no (p := p) (mv := mv) (d := d) (f := f) (by rw [Hb2.out]; simp))
    go_wp2
    refine bodyPost_ret (v := .tuple #[.int .i64 0, .bool false]) (by simp [results, Try.results25, go_sem]) rfl ⟨by rw [E.out]; rfl, B1.out⟩
  | true =>
  have vf0 : w1.cell? ⟨w.heap.size + 1, 0, none⟩ = some (.int .i64 f.fr) := Kf_1.out.cell 0
  have vf1 : w1.cell? ⟨w.heap.size + 1, 1, none⟩ = some (.int .i64 f.tt) := Kf_1.out.cell 1
  have vf2 : w1.cell? ⟨w.heap.size + 1, 2, none⟩ = some (.int .i64 f.a) := Kf_1.out.cell 2
  have vf3 : w1.cell? ⟨w.heap.size + 1, 3, none⟩ = some (.int .i64 f.b) := Kf_1.out.cell 3
  go_wp2_with fail
  clear vf0 vf1 vf2 vf3
  refine (l01In_any _ _ _ _).mono ?_
  rw [Hb3.out]
  rintro e wz ⟨rfl, rfl⟩
  cases b3 with
  | false =>
    have E := Lib.hid (gapO_no (p := p) (mv := mv) (d := d) (f := f) (by rw [Hb3.out]; simp))
    go_wp2
    refine bodyPost_ret (v := .tuple #[.int .i64 0, .bool false]) (by simp [results, Try.results25, go_sem]) rfl ⟨by rw [E.out]; rfl, B1.out⟩
  | true =>
  obtain ⟨⟨p0, p1⟩, hl64, hmv⟩ := tableB_all Hb1.out
  have hd := of_decide_eq_true (show decide (0 ≤ d.b ∧ d.b ≤ 7) = true from Hb2.out)
  have hf := of_decide_eq_true (show decide (0 ≤ f.a ∧ f.a ≤ 7) = true from Hb3.out)
  obtain ⟨j, hj⟩ : ∃ j : Nat, d.b * 8 + f.a = (j : Int) := ⟨(d.b * 8 + f.a).toNat, by omega⟩
  have hj64 : j < 64 := by omega
  obtain ⟨x, hx⟩ : ∃ x, mv[j]? = some x := ⟨_, List.getElem?_eq_getElem (by omega)⟩
  obtain ⟨x0, x1⟩ := hmv x (List.mem_of_getElem? hx)
  have E := Lib.hid (show gapO p mv d f = some (p + x) by unfold gapO; rw [if_pos ⟨Hb1.out, Hb2.out, Hb3.out⟩, hj, Int.toNat_natCast, hx]; rfl)
  rcases RMV.out.2 with ⟨he, _⟩ | ⟨gm, om, cm', e, _, _, mc⟩
  · rw [he] at hx; simp at hx
  injection e with ea e2 e3
  subst ea
  clear e2 e3
  have ym := cell_onV (SlInt.cells mc j x hx) B1.out
  have w1' : IntKind.i64.wrap (d.b * 8) = d.b * 8 := by rw [IntKind.wrap_i64]; omega
  have w2' : IntKind.i64.wrap (d.b * 8 + f.a) = (j : Int) := by rw [IntKind.wrap_i64]; omega
  have w3' : IntKind.i64.wrap (p + x) = p + x := by rw [IntKind.wrap_i64]; omega
  have hjn : j < nm := by have := HNM.out; omega
  clear hj hl64 hmv mc hx
  have vd0 : w1.cell? ⟨w.heap.size, 0, none⟩ = some (.int .i64 d.fr) := Kd_1.out.cell 0
  have vd1 : w1.cell? ⟨w.heap.size, 1, none⟩ = some (.int .i64 d.tt) := Kd_1.out.cell 1
  have vd2 : w1.cell? ⟨w.heap.size, 2, none⟩ = some (.int .i64 d.a) := Kd_1.out.cell 2
  have vd3 : w1.cell? ⟨w.heap.size, 3, none⟩ = some (.int .i64 d.b) := Kd_1.out.cell 3
  have vf0 : w1.cell? ⟨w.heap.size + 1, 0, none⟩ = some (.int .i64 f.fr) := Kf_1.out.cell 0
  have vf1 : w1.cell? ⟨w.heap.size + 1, 1, none⟩ = some (.int .i64 f.tt) := Kf_1.out.cell 1
  have vf2 : w1.cell? ⟨w.heap.size + 1, 2, none⟩ = some (.int .i64 f.a) := Kf_1.out.cell 2
  have vf3 : w1.cell? ⟨w.heap.size + 1, 3, none⟩ = some (.int .i64 f.b) := Kf_1.out.cell 3
  go_wp2
  refine bodyPost_ret (v := .tuple #[.int .i64 (p + x), .bool true]) (by simp [results, Try.results25, go_sem]) rfl ⟨by rw [E.out]; rfl, B1.out⟩
set_option maxHeartbeats 8000000 in
theorem specCanFollow (p : Int) (ymv : Value) (mv : List Int) (d : DutyD) (f : DutyD) (w : World) (rmv : SlInt w ymv mv) :
    Calls Try.prog 29 #[.int .i64 p, ymv, d.val, f.val] w (fun e w' => e = .returned (.bool (canB p mv d f)) ∧ Below w.heap.size w w') := by
  have Rmv := Lib.hid rmv
  obtain ⟨Amv, cmv, rfl⟩ := SlOf.form rmv
  clear rmv
  obtain ⟨W0, hW0⟩ : ∃ W0, W0 = ((w.alloc (.cells #[.int .i64 d.fr, .int .i64 d.tt, .int .i64 d.a, .int .i64 d.b] 35)).alloc (.cells #[.int .i64 f.fr, .int .i64 f.tt, .int .i64 f.a, .int .i64 f.b] 35)) := ⟨_, rfl⟩
  have B := Lib.hid ((Joins.below_alloc1 w (.cells #[.int .i64 d.fr, .int .i64 d.tt, .int .i64 d.a, .int .i64 d.b] 35)).trans ((Joins.below_alloc1 (w.alloc (.cells #[.int .i64 d.fr, .int .i64 d.tt, .int .i64 d.a, .int .i64 d.b] 35)) (.cells #[.int .i64 f.fr, .int .i64 f.tt, .int .i64 f.a, .int .i64 f.b] 35)).mono (by simp; try omega)))
  have Kd := Lib.hid ((Blk.new w #[.int .i64 d.fr, .int .i64 d.tt, .int .i64 d.a, .int .i64 d.b] 35).below (Joins.below_alloc1 _ (.cells #[.int .i64 f.fr, .int .i64 f.tt, .int .i64 f.a, .int .i64 f.b] 35)))
  have Kf := Lib.hid (Blk.new (w.alloc (.cells #[.int .i64 d.fr, .int .i64 d.tt, .int .i64 d.a, .int .i64 d.b] 35)) #[.int .i64 f.fr, .int .i64 f.tt, .int .i64 f.a, .int .i64 f.b] 35)
  rw [World.size_alloc] at Kf
  have HW0 := Lib.hid hW0
  rw [← hW0] at B Kd Kf
  clear hW0
  obtain ⟨go, hgo⟩ : ∃ x, gapO p mv d f = x := ⟨_, rfl⟩
  have HGO := Lib.hid hgo
  obtain ⟨b2, hb2⟩ : ∃ b, dutyB d = b := ⟨_, rfl⟩
  have Hb2 := Lib.hid hb2
  obtain ⟨b3, hb3⟩ : ∃ b, dutyB f = b := ⟨_, rfl⟩
  have Hb3 := Lib.hid hb3
  have EN := Lib.hid (fun (hg : go = none) => show canB p mv d f = false by unfold canB; rw [hgo, hg])
  have ES := Lib.hid (fun (n : Int) (hg : go = some n) => show canB p mv d f = (b2 && b3 && decide (d.tt + n ≤ f.fr)) by unfold canB; rw [hgo, hg]; show (dutyB d && dutyB f && _) = _; rw [hb2, hb3])
  have hbn : ∀ n, go = some n → 0 ≤ n ∧ n ≤ 3120 := fun n hn => by
    rw [hn] at hgo
    unfold gapO at hgo
    split at hgo
    · rename_i hh
      obtain ⟨⟨p0, p1⟩, -, hmv⟩ := tableB_all hh.1
      obtain ⟨x, hx, rfl⟩ := Option.map_eq_some_iff.1 hgo
      have := hmv x (List.mem_of_getElem? hx)
      omega
    · cases hgo
  have HBN := Lib.hid hbn
  clear hgo hb2 hb3 hbn
  go_enter Try.func29, Try.ntmps29
  have vd0 : W0.cell? ⟨w.heap.size, 0, none⟩ = some (.int .i64 d.fr) := Kd.out.cell 0
  have vd1 : W0.cell? ⟨w.heap.size, 1, none⟩ = some (.int .i64 d.tt) := Kd.out.cell 1
  have vd2 : W0.cell? ⟨w.heap.size, 2, none⟩ = some (.int .i64 d.a) := Kd.out.cell 2
  have vd3 : W0.cell? ⟨w.heap.size, 3, none⟩ = some (.int .i64 d.b) := Kd.out.cell 3
  have vf0 : W0.cell? ⟨w.heap.size + 1, 0, none⟩ = some (.int .i64 f.fr) := Kf.out.cell 0
  have vf1 : W0.cell? ⟨w.heap.size + 1, 1, none⟩ = some (.int .i64 f.tt) := Kf.out.cell 1
  have vf2 : W0.cell? ⟨w.heap.size + 1, 2, none⟩ = some (.int .i64 f.a) := Kf.out.cell 2
  have vf3 : W0.cell? ⟨w.heap.size + 1, 3, none⟩ = some (.int .i64 f.b) := Kf.out.cell 3
  go_wp2_with fail
  rw [← HW0.out]
  clear vd0 vd1 vd2 vd3 vf0 vf1 vf2 vf3
  refine (specGap p _ mv d f _ (Rmv.out.below B.out)).mono ?_
  rw [HGO.out]
  rintro e w1 ⟨rfl, hb1⟩
  have B1 := Lib.hid (B.out.trans (hb1.mono B.out.size))
  have Kd_1 := Lib.hid (Kd.out.below hb1)
  have Kf_1 := Lib.hid (Kf.out.below hb1)
  clear hb1
  cases go with
  | none =>
    have E := Lib.hid (EN.out rfl)
    go_wp2
    go_ret
    exact ⟨ret_bool (by rw [E.out]), B1.out⟩
  | some n =>
  obtain ⟨n0, n1⟩ := HBN.out n rfl
  have E0 := Lib.hid (ES.out n rfl)
  cases b2 with
  | false =>
    have vd0 : w1.cell? ⟨w.heap.size, 0, none⟩ = some (.int .i64 d.fr) := Kd_1.out.cell 0
    have vd1 : w1.cell? ⟨w.heap.size, 1, none⟩ = some (.int .i64 d.tt) := Kd_1.out.cell 1
    have vd2 : w1.cell? ⟨w.heap.size, 2, none⟩ = some (.int .i64 d.a) := Kd_1.out.cell 2
    have vd3 : w1.cell? ⟨w.heap.size, 3, none⟩ = some (.int .i64 d.b) := Kd_1.out.cell 3
    have vf0 : w1.cell? ⟨w.heap.size + 1, 0, none⟩ = some (.int .i64 f.fr) := Kf_1.out.cell 0
    have vf1 : w1.cell? ⟨w.heap.size + 1, 1, none⟩ = some (.int .i64 f.tt) := Kf_1.out.cell 1
    have vf2 : w1.cell? ⟨w.heap.size + 1, 2, none⟩ = some (.int .i64 f.a) := Kf_1.out.cell 2
    have vf3 : w1.cell? ⟨w.heap.size + 1, 3, none⟩ = some (.int .i64 f.b) := Kf_1.out.cell 3
    go_wp2_with fail
    clear vd0 vd1 vd2 vd3 vf0 vf1 vf2 vf3
    refine (specDuty d _).mono ?_
    rw [Hb2.out]
    rintro e w2 ⟨rfl, hb2⟩
    have B2 := Lib.hid (B1.out.trans (hb2.mono B1.out.size))
    have Kd_2 := Lib.hid (Kd_1.out.below hb2)
    have Kf_2 := Lib.hid (Kf_1.out.below hb2)
    clear hb2
    go_wp2
    go_ret
    exact ⟨ret_bool (by rw [E0.out]; simp), B2.out⟩
  | true =>
  have vd0 : w1.cell? ⟨w.heap.size, 0, none⟩ = some (.int .i64 d.fr) := Kd_1.out.cell 0
  have vd1 : w1.cell? ⟨w.heap.size, 1, none⟩ = some (.int .i64 d.tt) := Kd_1.out.cell 1
  have vd2 : w1.cell? ⟨w.heap.size, 2, none⟩ = some (.int .i64 d.a) := Kd_1.out.cell 2
  have vd3 : w1.cell? ⟨w.heap.size, 3, none⟩ = some (.int .i64 d.b) := Kd_1.out.cell 3
  have vf0 : w1.cell? ⟨w.heap.size + 1, 0, none⟩ = some (.int .i64 f.fr) := Kf_1.out.cell 0
  have vf1 : w1.cell? ⟨w.heap.size + 1, 1, none⟩ = some (.int .i64 f.tt) := Kf_1.out.cell 1
  have vf2 : w1.cell? ⟨w.heap.size + 1, 2, none⟩ = some (.int .i64 f.a) := Kf_1.out.cell 2
  have vf3 : w1.cell? ⟨w.heap.size + 1, 3, none⟩ = some (.int .i64 f.b) := Kf_1.out.cell 3
  go_wp2_with fail
  clear vd0 vd1 vd2 vd3 vf0 vf1 vf2 vf3
  refine (specDuty d _).mono ?_
  rw [Hb2.out]
  rintro e w2 ⟨rfl, hb2⟩
  have B2 := Lib.hid (B1.out.trans (hb2.mono B1.out.size))
  have Kd_2 := Lib.hid (Kd_1.out.below hb2)
  have Kf_2 := Lib.hid (Kf_1.out.below hb2)
  clear hb2
  cases b3 with
  | false =>
    have vd0 : w2.cell? ⟨w.heap.size, 0, none⟩ = some (.int .i64 d.fr) := Kd_2.out.cell 0
    have vd1 : w2.cell? ⟨w.heap.size, 1, none⟩ = some (.int .i64 d.tt) := Kd_2.out.cell 1
    have vd2 : w2.cell? ⟨w.heap.size, 2, none⟩ = some (.int .i64 d.a) := Kd_2.out.cell 2
    have vd3 : w2.cell? ⟨w.heap.size, 3, none⟩ = some (.int .i64 d.b) := Kd_2.out.cell 3
    have vf0 : w2.cell? ⟨w.heap.size + 1, 0, none⟩ = some (.int .i64 f.fr) := Kf_2.out.cell 0
    have vf1 : w2.cell? ⟨w.heap.size + 1, 1, none⟩ = some (.int .i64 f.tt) := Kf_2.out.cell 1
    have vf2 : w2.cell? ⟨w.heap.size + 1, 2, none⟩ = some (.int .i64 f.a) := Kf_2.out.cell 2
    have vf3 : w2.cell? ⟨w.heap.size + 1, 3, none⟩ = some (.int .i64 f.b) := Kf_2.out.cell 3
    go_wp2_with fail
    clear vd0 vd1 vd2 vd3 vf0 vf1 vf2 vf3
    refine (specDuty f _).mono ?_
    rw [Hb3.out]
    rintro e w3 ⟨rfl, hb3⟩
    have B3 := Lib.hid (B2.out.trans (hb3.mono B2.out.size))
    have Kd_3 := Lib.hid (Kd_2.out.below hb3)
    have Kf_3 := Lib.hid (Kf_2.out.below hb3)
    clear hb3
    go_wp2
    go_ret
    exact ⟨ret_bool (by rw [E0.out]; simp), B3.out⟩
  | true =>
  have hdt := dutyB_true Hb2.out
  have vd0 : w2.cell? ⟨w.heap.size, 0, none⟩ = some (.int .i64 d.fr) := Kd_2.out.cell 0
  have vd1 : w2.cell? ⟨w.heap.size, 1, none⟩ = some (.int .i64 d.tt) := Kd_2.out.cell 1
  have vd2 : w2.cell? ⟨w.heap.size, 2, none⟩ = some (.int .i64 d.a) := Kd_2.out.cell 2
  have vd3 : w2.cell? ⟨w.heap.size, 3, none⟩ = some (.int .i64 d.b) := Kd_2.out.cell 3
  have vf0 : w2.cell? ⟨w.heap.size + 1, 0, none⟩ = some (.int .i64 f.fr) := Kf_2.out.cell 0
  have vf1 : w2.cell? ⟨w.heap.size + 1, 1, none⟩ = some (.int .i64 f.tt) := Kf_2.out.cell 1
  have vf2 : w2.cell? ⟨w.heap.size + 1, 2, none⟩ = some (.int .i64 f.a) := Kf_2.out.cell 2
  have vf3 : w2.cell? ⟨w.heap.size + 1, 3, none⟩ = some (.int .i64 f.b) := Kf_2.out.cell 3
  go_wp2_with fail
  clear vd0 vd1 vd2 vd3 vf0 vf1 vf2 vf3
  refine (specDuty f _).mono ?_
  rw [Hb3.out]
  rintro e w3 ⟨rfl, hb3⟩
  have B3 := Lib.hid (B2.out.trans (hb3.mono B2.out.size))
  have Kd_3 := Lib.hid (Kd_2.out.below hb3)
  have Kf_3 := Lib.hid (Kf_2.out.below hb3)
  clear hb3
  obtain ⟨c, hc⟩ : ∃ c, decide (d.tt + n ≤ f.fr) = c := ⟨_, rfl⟩
  have HC := Lib.hid hc
  have wa : IntKind.i64.wrap (d.tt + n) = d.tt + n := by rw [IntKind.wrap_i64]; omega
  clear hdt
  have vd0 : w3.cell? ⟨w.heap.size, 0, none⟩ = some (.int .i64 d.fr) := Kd_3.out.cell 0
  have vd1 : w3.cell? ⟨w.heap.size, 1, none⟩ = some (.int .i64 d.tt) := Kd_3.out.cell 1
  have vd2 : w3.cell? ⟨w.heap.size, 2, none⟩ = some (.int .i64 d.a) := Kd_3.out.cell 2
  have vd3 : w3.cell? ⟨w.heap.size, 3, none⟩ = some (.int .i64 d.b) := Kd_3.out.cell 3
  have vf0 : w3.cell? ⟨w.heap.size + 1, 0, none⟩ = some (.int .i64 f.fr) := Kf_3.out.cell 0
  have vf1 : w3.cell? ⟨w.heap.size + 1, 1, none⟩ = some (.int .i64 f.tt) := Kf_3.out.cell 1
  have vf2 : w3.cell? ⟨w.heap.size + 1, 2, none⟩ = some (.int .i64 f.a) := Kf_3.out.cell 2
  have vf3 : w3.cell? ⟨w.heap.size + 1, 3, none⟩ = some (.int .i64 f.b) := Kf_3.out.cell 3
  go_wp2
  go_ret
  exact ⟨ret_bool (by rw [E0.out]; first | (rw [HC.out]; done) | (rw [HC.out]; rfl) | (show _ = (true && true && _); rw [HC.out]; rfl)), B3.out⟩
end Go.Proofs.Ytfofbnpgjdagkaa
namespace Go.Proofs.Ytfofbnpgjdagkaa
open Go.RowKit
set_option maxRecDepth 100000
set_option maxHeartbeats 2000000 in
theorem cloneL (v : Value) (l : List Int) (w : World) (h : SlInt w v l) (hn : l.length ≤ 9000000) :
    Calls Try.prog 60 #[v] w (NewInt l w) := by
  have q26 : ∀ (w : World) (a : Option Addr) (n c n' c' : Nat), (binOp .eql 23 (.slice a n c) (.slice none n' c')).run Try.prog w = .ok (.bool a.isNone) w := fun w a n c n' c' => Lib.run_eql_slice_nil w _ _ a n c n' c' Try.underlying23
  have L1 := Liv.build (Liv.nil w) 0 [] (by simp)
  have RS := Lib.hid (h.below L1.low)
  have L1 := Lib.hid L1
  have HS := Lib.hid h
  obtain ⟨A, c, rfl⟩ := h.at
  clear h
  cases A with
  | none =>
    have e : l = [] := by
      rcases HS.out.2 with ⟨he, _⟩ | ⟨g, o, c', e, _, _, _⟩
      · exact he
      · injection e with e1; cases e1
    have E := Lib.hid e
    clear e RS L1
    go_enter Try.func60, Try.ntmps60
    go_wp2
    go_ret
    exact ⟨_, rfl, by rw [E.out]; exact World.ownsRow_nil _ _ _ _, Below.refl _ _⟩
  | some a =>
    obtain ⟨m, hm⟩ : ∃ m, l.length = m := ⟨_, rfl⟩
    rw [hm] at RS hn
    try rw [hm]
    have HM := Lib.hid hm
    clear hm
    go_enter Try.func60, Try.ntmps60
    go_wp2_with (at_builtin; refine wpList_plain rfl fun K hK => wp_of_step (ops := #[]) rfl (step_liv L1.out (L' := []) (τ := 0) (v := .slice (some ⟨w.heap.size, 0, none⟩) 0 0) (u := .slice (some a) m c) (l := []) (m := l) 0 rfl (.tmp 5) (.tmp 6) rfl rfl rfl List.mem_cons_self RS.out (by rw [HM.out]; simp; omega) (fun q hq => by cases hq) ?_); intro v5 x5 hl5; refine hK _ _ ?_; have L5 := Lib.hid hl5; clear hl5)
    have HO := Lib.hid (L5.out.own _ List.mem_cons_self)
    have HL := Lib.hid L5.out.low
    clear L5
    go_ret
    exact ⟨_, rfl, HO.out, HL.out⟩
end Go.Proofs.Ytfofbnpgjdagkaa
namespace Go.Proofs.Ytfofbnpgjdagkaa
open Go.RowKit
set_option maxRecDepth 100000
variable {α : Type} {k : Nat} {cs : α → List Value} {t : TypeId}
/-- What holds while a list is drawn. -/
structure DrawsL (k : Nat) (cs : α → List Value) (t : TypeId) (w : World) (p : Nat) (v : Value) (l : List α) (wr : World) : Prop where
  cur : Cursor wr p
  gr : w.grownBy wr (some p)
  own : OwnOf k cs t wr w.heap.size v l
  hp : p < w.heap.size
theorem DrawsL.step {w wr w3 : World} {p : Nat} {v : Value} {l : List α} (h : DrawsL k cs t w p v l wr) (hg : wr.grownBy w3 (some p)) (hc : Cursor w3 p) : DrawsL k cs t w p v l w3 :=
  ⟨hc, grown_trans h.gr hg, own_kept h.own hg (fun b hv e => by have := (own_ge h.own hv).1; have := h.hp; have := Option.some.inj e; omega), h.hp⟩
theorem DrawsL.below {w wr w3 : World} {p : Nat} {v : Value} {l : List α} (h : DrawsL k cs t w p v l wr) (hb : Below wr.heap.size wr w3) : DrawsL k cs t w p v l w3 :=
  ⟨h.cur.below hb, grown_trans h.gr (grown_of_below hb _), own_below h.own hb, h.hp⟩
theorem DrawsL.made {w : World} {p : Nat} (hk : ∀ y, (cs y).length = k) (hc : Cursor w p) : DrawsL k cs t w p (.slice (some ⟨w.heap.size, 0, none⟩) 0 0) [] (w.alloc (.cells #[] t)) :=
  ⟨hc.below (Joins.below_alloc1 w _), grown_of_below (Joins.below_alloc1 w _) _, (LivO.build (LivO.nil w) hk 0 [] (by simp)).own _ List.mem_cons_self, hc.lt⟩
theorem DrawsL.app {w wr w4 : World} {p : Nat} {v : Value} {l : List α} {d : α} {g4 cap4 : Nat} (h : DrawsL k cs t w p v l wr)
    (hown : w4.ownsRow w.heap.size t k (.slice (some ⟨g4, 0, none⟩) (l.length + 1) cap4) (l.length + 1) (l.flatMap cs ++ cs d)) (hgr : wr.grownBy w4 v.ownBlock) : DrawsL k cs t w p (.slice (some ⟨g4, 0, none⟩) (l.length + 1) cap4) (l ++ [d]) w4 := by
  have r0 : ∀ b, v.ownBlock = some b → w.heap.size ≤ b := fun b hv => (own_ge h.own hv).1
  refine ⟨h.cur.grown hgr (fun b hv => by have := r0 b hv; have := h.hp; omega), grown_young h.gr hgr r0, ?_, h.hp⟩
  show World.ownsRow _ _ _ _ _ _ _
  have e : (l ++ [d]).flatMap cs = l.flatMap cs ++ cs d := by simp
  rw [e]
  simpa using hown
theorem DrawsL.form {w wr : World} {p : Nat} {v : Value} {l : List α} (h : DrawsL k cs t w p v l wr) : ∃ A c, v = .slice A l.length c := own_form h.own
theorem DrawsL.size {w wr : World} {p : Nat} {v : Value} {l : List α} (h : DrawsL k cs t w p v l wr) : w.heap.size ≤ wr.heap.size := h.gr.size
end Go.Proofs.Ytfofbnpgjdagkaa
