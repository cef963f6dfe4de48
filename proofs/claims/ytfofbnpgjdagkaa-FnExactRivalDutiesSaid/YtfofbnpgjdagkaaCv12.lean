
/- What ExactRivalDuties and Dilworth and CoversLaw rests on, part 12: contracts and mathematics. -/
import Derived.Test.YtfofbnpgjdagkaaCv10
import Derived.Test.YtfofbnpgjdagkaaCv8
import Derived.Test.YtfofbnpgjdagkaaCv11
namespace Go.Proofs.Ytfofbnpgjdagkaa
open Go.RowKit
set_option maxRecDepth 100000
theorem some_ne {a b : Int} (h : (a == b) = false) : ((some a : Option Int) == some b) = false := by simpa using h
theorem castL_at {l : List Nat} {i n : Nat} (h : l[i]? = some n) : (castL l)[i]? = some (n : Int) := by unfold castL; rw [List.getElem?_map, h]; rfl
theorem castL_len (l : List Nat) : (castL l).length = l.length := by unfold castL; rw [List.length_map]
theorem castL_snoc (l : List Nat) (n : Nat) : castL (l ++ [n]) = castL l ++ [(n : Int)] := by unfold castL; rw [List.map_append]; rfl
end Go.Proofs.Ytfofbnpgjdagkaa
namespace Go.Proofs.Ytfofbnpgjdagkaa
open Go.RowKit
set_option maxRecDepth 100000
set_option maxHeartbeats 8000000 in
theorem implGap (p : Int) (ymv : Value) (mv : List Int) (d : DutyD) (f : DutyD) (w : World) (rmv : SlInt w ymv mv) :
    Calls Try.prog 20 #[.int .i64 p, ymv, d.val, f.val] w (fun e w' => e = .returned (.tuple #[.int .i64 ((gapO p mv d f).getD 0), .bool (gapO p mv d f).isSome]) ∧ Below w.heap.size w w') := by
  have Rmv := Lib.hid rmv
  obtain ⟨Amv, cmv, rfl⟩ := SlOf.form rmv
  clear rmv
  obtain ⟨W0, hW0⟩ : ∃ W0, W0 = ((w.alloc (.cells #[.int .i64 d.fr, .int .i64 d.tt, .int .i64 d.a, .int .i64 d.b] 35)).alloc (.cells #[.int .i64 f.fr, .int .i64 f.tt, .int .i64 f.a, .int .i64 f.b] 35)) := ⟨_, rfl⟩
  have B := Lib.hid ((Joins.below_alloc1 w (.cells #[.int .i64 d.fr, .int .i64 d.tt, .int .i64 d.a, .int .i64 d.b] 35)).trans ((Joins.below_alloc1 (w.alloc (.cells #[.int .i64 d.fr, .int .i64 d.tt, .int .i64 d.a, .int .i64 d.b] 35)) (.cells #[.int .i64 f.fr, .int .i64 f.tt, .int .i64 f.a, .int .i64 f.b] 35)).mono (by simp; try omega)))
  have Kd := Lib.hid ((Blk.new w #[.int .i64 d.fr, .int .i64 d.tt, .int .i64 d.a, .int .i64 d.b] 35).below (Joins.below_alloc1 _ (.cells #[.int .i64 f.fr, .int .i64 f.tt, .int .i64 f.a, .int .i64 f.b] 35)))
  have Kf := Lib.hid (Blk.new (w.alloc (.cells #[.int .i64 d.fr, .int .i64 d.tt, .int .i64 d.a, .int .i64 d.b] 35)) #[.int .i64 f.fr, .int .i64 f.tt, .int .i64 f.a, .int .i64 f.b] 35)
  rw [World.size_alloc] at Kf
  have HW0 := Lib.hid hW0
  rw [← hW0] at B Kd Kf
  clear hW0
  obtain ⟨b1, hb1⟩ : ∃ b, tableB p mv = b := ⟨_, rfl⟩
  have Hb1 := Lib.hid hb1
  clear hb1
  obtain ⟨b2, hb2⟩ : ∃ b, inB d.b 0 7 = b := ⟨_, rfl⟩
  have Hb2 := Lib.hid hb2
  clear hb2
  obtain ⟨b3, hb3⟩ : ∃ b, inB f.a 0 7 = b := ⟨_, rfl⟩
  have Hb3 := Lib.hid hb3
  clear hb3
  obtain ⟨nm, hnm⟩ : ∃ n, mv.length = n := ⟨_, rfl⟩
  have HNM := Lib.hid hnm
  have RMV := Lib.hid Rmv.out
  rw [hnm] at Rmv
  try rw [hnm]
  clear hnm
  go_enter Try.func20, Try.ntmps20
  have vd0 : W0.cell? ⟨w.heap.size, 0, none⟩ = some (.int .i64 d.fr) := Kd.out.cell 0
  have vd1 : W0.cell? ⟨w.heap.size, 1, none⟩ = some (.int .i64 d.tt) := Kd.out.cell 1
  have vd2 : W0.cell? ⟨w.heap.size, 2, none⟩ = some (.int .i64 d.a) := Kd.out.cell 2
  have vd3 : W0.cell? ⟨w.heap.size, 3, none⟩ = some (.int .i64 d.b) := Kd.out.cell 3
  have vf0 : W0.cell? ⟨w.heap.size + 1, 0, none⟩ = some (.int .i64 f.fr) := Kf.out.cell 0
  have vf1 : W0.cell? ⟨w.heap.size + 1, 1, none⟩ = some (.int .i64 f.tt) := Kf.out.cell 1
  have vf2 : W0.cell? ⟨w.heap.size + 1, 2, none⟩ = some (.int .i64 f.a) := Kf.out.cell 2
  have vf3 : W0.cell? ⟨w.heap.size + 1, 3, none⟩ = some (.int .i64 f.b) := Kf.out.cell 3
  go_wp2_with fail
  rw [← HW0.out]
  clear vd0 vd1 vd2 vd3 vf0 vf1 vf2 vf3
  refine (canChange_any p _ mv _ (Rmv.out.below B.out)).mono ?_
  rw [Hb1.out]
  rintro e w1 ⟨rfl, hb1⟩
  have B1 := Lib.hid (B.out.trans (hb1.mono B.out.size))
  have Kd_1 := Lib.hid (Kd.out.below hb1)
  have Kf_1 := Lib.hid (Kf.out.below hb1)
  clear hb1
  cases b1 with
  | false =>
    have E := Lib.hid (gapO_no (p := p) (mv := mv) (d := d) (f := f) (by rw [Hb1.out]; simp))
    go_wp2
    refine bodyPost_ret (v := .tuple #[.int .i64 0, .bool false]) (by simp [results, Try.results20, go_sem]) rfl ⟨by rw [E.out]; rfl, B1.out⟩
  | true =>
  have vd0 : w1.cell? ⟨w.heap.size, 0, none⟩ = some (.int .i64 d.fr) := Kd_1.out.cell 0
  have vd1 : w1.cell? ⟨w.heap.size, 1, none⟩ = some (.int .i64 d.tt) := Kd_1.out.cell 1
  have vd2 : w1.cell? ⟨w.heap.size, 2, none⟩ = some (.int .i64 d.a) := Kd_1.out.cell 2
  have vd3 : w1.cell? ⟨w.heap.size, 3, none⟩ = some (.int .i64 d.b) := Kd_1.out.cell 3
  go_wp2_with fail
  clear vd0 vd1 vd2 vd3
  refine (isIndex8 _ _).mono ?_
  rw [Hb2.out]
  rintro e wz ⟨rfl, rfl⟩
  cases b2 with
  | false =>
    have E := Lib.hid (gapO_no (p := p) (mv := mv) (d := d) (f := f) (by rw [Hb2.out]; simp))
    go_wp2
    refine bodyPost_ret (v := .tuple #[.int .i64 0, .bool false]) (by simp [results, Try.results20, go_sem]) rfl ⟨by rw [E.out]; rfl, B1.out⟩
  | true =>
  have vf0 : w1.cell? ⟨w.heap.size + 1, 0, none⟩ = some (.int .i64 f.fr) := Kf_1.out.cell 0
  have vf1 : w1.cell? ⟨w.heap.size + 1, 1, none⟩ = some (.int .i64 f.tt) := Kf_1.out.cell 1
  have vf2 : w1.cell? ⟨w.heap.size + 1, 2, none⟩ = some (.int .i64 f.a) := Kf_1.out.cell 2
  have vf3 : w1.cell? ⟨w.heap.size + 1, 3, none⟩ = some (.int .i64 f.b) := Kf_1.out.cell 3
  go_wp2_with fail
  clear vf0 vf1 vf2 vf3
  refine (isIndex8 _ _).mono ?_
  rw [Hb3.out]
  rintro e wz ⟨rfl, rfl⟩
  cases b3 with
  | false =>
    have E := Lib.hid (gapO_no (p := p) (mv := mv) (d := d) (f := f) (by rw [Hb3.out]; simp))
    go_wp2
    refine bodyPost_ret (v := .tuple #[.int .i64 0, .bool false]) (by simp [results, Try.results20, go_sem]) rfl ⟨by rw [E.out]; rfl, B1.out⟩
  | true =>
  obtain ⟨⟨p0, p1⟩, hl64, hmv⟩ := tableB_all Hb1.out
  have hd := of_decide_eq_true (show decide (0 ≤ d.b ∧ d.b ≤ 7) = true from Hb2.out)
  have hf := of_decide_eq_true (show decide (0 ≤ f.a ∧ f.a ≤ 7) = true from Hb3.out)
  obtain ⟨j, hj⟩ : ∃ j : Nat, d.b * 8 + f.a = (j : Int) := ⟨(d.b * 8 + f.a).toNat, by omega⟩
  have hj64 : j < 64 := by omega
  obtain ⟨x, hx⟩ : ∃ x, mv[j]? = some x := ⟨_, List.getElem?_eq_getElem (by omega)⟩
  obtain ⟨x0, x1⟩ := hmv x (List.mem_of_getElem? hx)
  have E := Lib.hid (show gapO p mv d f = some (p + x) by unfold gapO; rw [if_pos ⟨Hb1.out, Hb2.out, Hb3.out⟩, hj, Int.toNat_natCast, hx]; rfl)
  rcases RMV.out.2 with ⟨he, _⟩ | ⟨gm, om, cm', e, _, _, mc⟩
  · rw [he] at hx; simp at hx
  injection e with ea e2 e3
  subst ea
  clear e2 e3
  have ym := cell_onV (SlInt.cells mc j x hx) B1.out
  have w1' : IntKind.i64.wrap (d.b * 8) = d.b * 8 := by rw [IntKind.wrap_i64]; omega
  have w2' : IntKind.i64.wrap (d.b * 8 + f.a) = (j : Int) := by rw [IntKind.wrap_i64]; omega
  have w3' : IntKind.i64.wrap (p + x) = p + x := by rw [IntKind.wrap_i64]; omega
  have hjn : j < nm := by have := HNM.out; omega
  clear hj hl64 hmv mc hx
  have vd0 : w1.cell? ⟨w.heap.size, 0, none⟩ = some (.int .i64 d.fr) := Kd_1.out.cell 0
  have vd1 : w1.cell? ⟨w.heap.size, 1, none⟩ = some (.int .i64 d.tt) := Kd_1.out.cell 1
  have vd2 : w1.cell? ⟨w.heap.size, 2, none⟩ = some (.int .i64 d.a) := Kd_1.out.cell 2
  have vd3 : w1.cell? ⟨w.heap.size, 3, none⟩ = some (.int .i64 d.b) := Kd_1.out.cell 3
  have vf0 : w1.cell? ⟨w.heap.size + 1, 0, none⟩ = some (.int .i64 f.fr) := Kf_1.out.cell 0
  have vf1 : w1.cell? ⟨w.heap.size + 1, 1, none⟩ = some (.int .i64 f.tt) := Kf_1.out.cell 1
  have vf2 : w1.cell? ⟨w.heap.size + 1, 2, none⟩ = some (.int .i64 f.a) := Kf_1.out.cell 2
  have vf3 : w1.cell? ⟨w.heap.size + 1, 3, none⟩ = some (.int .i64 f.b) := Kf_1.out.cell 3
  go_wp2
  refine bodyPost_ret (v := .tuple #[.int .i64 (p + x), .bool true]) (by simp [results, Try.results20, go_sem]) rfl ⟨by rw [E.out]; rfl, B1.out⟩
set_option maxHeartbeats 8000000 in
theorem implCanFollow (p : Int) (ymv : Value) (mv : List Int) (d : DutyD) (f : DutyD) (w : World) (rmv : SlInt w ymv mv) :
    Calls Try.prog 18 #[.int .i64 p, ymv, d.val, f.val] w (fun e w' => e = .returned (.bool (canB p mv d f)) ∧ Below w.heap.size w w') := by
  have Rmv := Lib.hid rmv
  obtain ⟨Amv, cmv, rfl⟩ := SlOf.form rmv
  clear rmv
  obtain ⟨W0, hW0⟩ : ∃ W0, W0 = ((w.alloc (.cells #[.int .i64 d.fr, .int .i64 d.tt, .int .i64 d.a, .int .i64 d.b] 35)).alloc (.cells #[.int .i64 f.fr, .int .i64 f.tt, .int .i64 f.a, .int .i64 f.b] 35)) := ⟨_, rfl⟩
  have B := Lib.hid ((Joins.below_alloc1 w (.cells #[.int .i64 d.fr, .int .i64 d.tt, .int .i64 d.a, .int .i64 d.b] 35)).trans ((Joins.below_alloc1 (w.alloc (.cells #[.int .i64 d.fr, .int .i64 d.tt, .int .i64 d.a, .int .i64 d.b] 35)) (.cells #[.int .i64 f.fr, .int .i64 f.tt, .int .i64 f.a, .int .i64 f.b] 35)).mono (by simp; try omega)))
  have Kd := Lib.hid ((Blk.new w #[.int .i64 d.fr, .int .i64 d.tt, .int .i64 d.a, .int .i64 d.b] 35).below (Joins.below_alloc1 _ (.cells #[.int .i64 f.fr, .int .i64 f.tt, .int .i64 f.a, .int .i64 f.b] 35)))
  have Kf := Lib.hid (Blk.new (w.alloc (.cells #[.int .i64 d.fr, .int .i64 d.tt, .int .i64 d.a, .int .i64 d.b] 35)) #[.int .i64 f.fr, .int .i64 f.tt, .int .i64 f.a, .int .i64 f.b] 35)
  rw [World.size_alloc] at Kf
  have HW0 := Lib.hid hW0
  rw [← hW0] at B Kd Kf
  clear hW0
  obtain ⟨go, hgo⟩ : ∃ x, gapO p mv d f = x := ⟨_, rfl⟩
  have HGO := Lib.hid hgo
  obtain ⟨b2, hb2⟩ : ∃ b, dutyB d = b := ⟨_, rfl⟩
  have Hb2 := Lib.hid hb2
  obtain ⟨b3, hb3⟩ : ∃ b, dutyB f = b := ⟨_, rfl⟩
  have Hb3 := Lib.hid hb3
  have EN := Lib.hid (fun (hg : go = none) => show canB p mv d f = false by unfold canB; rw [hgo, hg])
  have ES := Lib.hid (fun (n : Int) (hg : go = some n) => show canB p mv d f = (b2 && b3 && decide (d.tt + n ≤ f.fr)) by unfold canB; rw [hgo, hg]; show (dutyB d && dutyB f && _) = _; rw [hb2, hb3])
  have hbn : ∀ n, go = some n → 0 ≤ n ∧ n ≤ 3120 := fun n hn => by
    rw [hn] at hgo
    unfold gapO at hgo
    split at hgo
    · rename_i hh
      obtain ⟨⟨p0, p1⟩, -, hmv⟩ := tableB_all hh.1
      obtain ⟨x, hx, rfl⟩ := Option.map_eq_some_iff.1 hgo
      have := hmv x (List.mem_of_getElem? hx)
      omega
    · cases hgo
  have HBN := Lib.hid hbn
  clear hgo hb2 hb3 hbn
  go_enter Try.func18, Try.ntmps18
  have vd0 : W0.cell? ⟨w.heap.size, 0, none⟩ = some (.int .i64 d.fr) := Kd.out.cell 0
  have vd1 : W0.cell? ⟨w.heap.size, 1, none⟩ = some (.int .i64 d.tt) := Kd.out.cell 1
  have vd2 : W0.cell? ⟨w.heap.size, 2, none⟩ = some (.int .i64 d.a) := Kd.out.cell 2
  have vd3 : W0.cell? ⟨w.heap.size, 3, none⟩ = some (.int .i64 d.b) := Kd.out.cell 3
  have vf0 : W0.cell? ⟨w.heap.size + 1, 0, none⟩ = some (.int .i64 f.fr) := Kf.out.cell 0
  have vf1 : W0.cell? ⟨w.heap.size + 1, 1, none⟩ = some (.int .i64 f.tt) := Kf.out.cell 1
  have vf2 : W0.cell? ⟨w.heap.size + 1, 2, none⟩ = some (.int .i64 f.a) := Kf.out.cell 2
  have vf3 : W0.cell? ⟨w.heap.size + 1, 3, none⟩ = some (.int .i64 f.b) := Kf.out.cell 3
  go_wp2_with fail
  rw [← HW0.out]
  clear vd0 vd1 vd2 vd3 vf0 vf1 vf2 vf3
  refine (implGap p _ mv d f _ (Rmv.out.below B.out)).mono ?_
  rw [HGO.out]
  rintro e w1 ⟨rfl, hb1⟩
  have B1 := Lib.hid (B.out.trans (hb1.mono B.out.size))
  have Kd_1 := Lib.hid (Kd.out.below hb1)
  have Kf_1 := Lib.hid (Kf.out.below hb1)
  clear hb1
  cases go with
  | none =>
    have E := Lib.hid (EN.out rfl)
    go_wp2
    go_ret
    exact ⟨ret_bool (by rw [E.out]), B1.out⟩
  | some n =>
  obtain ⟨n0, n1⟩ := HBN.out n rfl
  have E0 := Lib.hid (ES.out n rfl)
  cases b2 with
  | false =>
    have vd0 : w1.cell? ⟨w.heap.size, 0, none⟩ = some (.int .i64 d.fr) := Kd_1.out.cell 0
    have vd1 : w1.cell? ⟨w.heap.size, 1, none⟩ = some (.int .i64 d.tt) := Kd_1.out.cell 1
    have vd2 : w1.cell? ⟨w.heap.size, 2, none⟩ = some (.int .i64 d.a) := Kd_1.out.cell 2
    have vd3 : w1.cell? ⟨w.heap.size, 3, none⟩ = some (.int .i64 d.b) := Kd_1.out.cell 3
    have vf0 : w1.cell? ⟨w.heap.size + 1, 0, none⟩ = some (.int .i64 f.fr) := Kf_1.out.cell 0
    have vf1 : w1.cell? ⟨w.heap.size + 1, 1, none⟩ = some (.int .i64 f.tt) := Kf_1.out.cell 1
    have vf2 : w1.cell? ⟨w.heap.size + 1, 2, none⟩ = some (.int .i64 f.a) := Kf_1.out.cell 2
    have vf3 : w1.cell? ⟨w.heap.size + 1, 3, none⟩ = some (.int .i64 f.b) := Kf_1.out.cell 3
    go_wp2_with fail
    clear vd0 vd1 vd2 vd3 vf0 vf1 vf2 vf3
    refine (dutyOk_any d _).mono ?_
    rw [Hb2.out]
    rintro e w2 ⟨rfl, hb2⟩
    have B2 := Lib.hid (B1.out.trans (hb2.mono B1.out.size))
    have Kd_2 := Lib.hid (Kd_1.out.below hb2)
    have Kf_2 := Lib.hid (Kf_1.out.below hb2)
    clear hb2
    go_wp2
    go_ret
    exact ⟨ret_bool (by rw [E0.out]; simp), B2.out⟩
  | true =>
  have vd0 : w1.cell? ⟨w.heap.size, 0, none⟩ = some (.int .i64 d.fr) := Kd_1.out.cell 0
  have vd1 : w1.cell? ⟨w.heap.size, 1, none⟩ = some (.int .i64 d.tt) := Kd_1.out.cell 1
  have vd2 : w1.cell? ⟨w.heap.size, 2, none⟩ = some (.int .i64 d.a) := Kd_1.out.cell 2
  have vd3 : w1.cell? ⟨w.heap.size, 3, none⟩ = some (.int .i64 d.b) := Kd_1.out.cell 3
  have vf0 : w1.cell? ⟨w.heap.size + 1, 0, none⟩ = some (.int .i64 f.fr) := Kf_1.out.cell 0
  have vf1 : w1.cell? ⟨w.heap.size + 1, 1, none⟩ = some (.int .i64 f.tt) := Kf_1.out.cell 1
  have vf2 : w1.cell? ⟨w.heap.size + 1, 2, none⟩ = some (.int .i64 f.a) := Kf_1.out.cell 2
  have vf3 : w1.cell? ⟨w.heap.size + 1, 3, none⟩ = some (.int .i64 f.b) := Kf_1.out.cell 3
  go_wp2_with fail
  clear vd0 vd1 vd2 vd3 vf0 vf1 vf2 vf3
  refine (dutyOk_any d _).mono ?_
  rw [Hb2.out]
  rintro e w2 ⟨rfl, hb2⟩
  have B2 := Lib.hid (B1.out.trans (hb2.mono B1.out.size))
  have Kd_2 := Lib.hid (Kd_1.out.below hb2)
  have Kf_2 := Lib.hid (Kf_1.out.below hb2)
  clear hb2
  cases b3 with
  | false =>
    have vd0 : w2.cell? ⟨w.heap.size, 0, none⟩ = some (.int .i64 d.fr) := Kd_2.out.cell 0
    have vd1 : w2.cell? ⟨w.heap.size, 1, none⟩ = some (.int .i64 d.tt) := Kd_2.out.cell 1
    have vd2 : w2.cell? ⟨w.heap.size, 2, none⟩ = some (.int .i64 d.a) := Kd_2.out.cell 2
    have vd3 : w2.cell? ⟨w.heap.size, 3, none⟩ = some (.int .i64 d.b) := Kd_2.out.cell 3
    have vf0 : w2.cell? ⟨w.heap.size + 1, 0, none⟩ = some (.int .i64 f.fr) := Kf_2.out.cell 0
    have vf1 : w2.cell? ⟨w.heap.size + 1, 1, none⟩ = some (.int .i64 f.tt) := Kf_2.out.cell 1
    have vf2 : w2.cell? ⟨w.heap.size + 1, 2, none⟩ = some (.int .i64 f.a) := Kf_2.out.cell 2
    have vf3 : w2.cell? ⟨w.heap.size + 1, 3, none⟩ = some (.int .i64 f.b) := Kf_2.out.cell 3
    go_wp2_with fail
    clear vd0 vd1 vd2 vd3 vf0 vf1 vf2 vf3
    refine (dutyOk_any f _).mono ?_
    rw [Hb3.out]
    rintro e w3 ⟨rfl, hb3⟩
    have B3 := Lib.hid (B2.out.trans (hb3.mono B2.out.size))
    have Kd_3 := Lib.hid (Kd_2.out.below hb3)
    have Kf_3 := Lib.hid (Kf_2.out.below hb3)
    clear hb3
    go_wp2
    go_ret
    exact ⟨ret_bool (by rw [E0.out]; simp), B3.out⟩
  | true =>
  have hdt := dutyB_true Hb2.out
  have vd0 : w2.cell? ⟨w.heap.size, 0, none⟩ = some (.int .i64 d.fr) := Kd_2.out.cell 0
  have vd1 : w2.cell? ⟨w.heap.size, 1, none⟩ = some (.int .i64 d.tt) := Kd_2.out.cell 1
  have vd2 : w2.cell? ⟨w.heap.size, 2, none⟩ = some (.int .i64 d.a) := Kd_2.out.cell 2
  have vd3 : w2.cell? ⟨w.heap.size, 3, none⟩ = some (.int .i64 d.b) := Kd_2.out.cell 3
  have vf0 : w2.cell? ⟨w.heap.size + 1, 0, none⟩ = some (.int .i64 f.fr) := Kf_2.out.cell 0
  have vf1 : w2.cell? ⟨w.heap.size + 1, 1, none⟩ = some (.int .i64 f.tt) := Kf_2.out.cell 1
  have vf2 : w2.cell? ⟨w.heap.size + 1, 2, none⟩ = some (.int .i64 f.a) := Kf_2.out.cell 2
  have vf3 : w2.cell? ⟨w.heap.size + 1, 3, none⟩ = some (.int .i64 f.b) := Kf_2.out.cell 3
  go_wp2_with fail
  clear vd0 vd1 vd2 vd3 vf0 vf1 vf2 vf3
  refine (dutyOk_any f _).mono ?_
  rw [Hb3.out]
  rintro e w3 ⟨rfl, hb3⟩
  have B3 := Lib.hid (B2.out.trans (hb3.mono B2.out.size))
  have Kd_3 := Lib.hid (Kd_2.out.below hb3)
  have Kf_3 := Lib.hid (Kf_2.out.below hb3)
  clear hb3
  obtain ⟨c, hc⟩ : ∃ c, decide (d.tt + n ≤ f.fr) = c := ⟨_, rfl⟩
  have HC := Lib.hid hc
  have wa : IntKind.i64.wrap (d.tt + n) = d.tt + n := by rw [IntKind.wrap_i64]; omega
  clear hdt
  have vd0 : w3.cell? ⟨w.heap.size, 0, none⟩ = some (.int .i64 d.fr) := Kd_3.out.cell 0
  have vd1 : w3.cell? ⟨w.heap.size, 1, none⟩ = some (.int .i64 d.tt) := Kd_3.out.cell 1
  have vd2 : w3.cell? ⟨w.heap.size, 2, none⟩ = some (.int .i64 d.a) := Kd_3.out.cell 2
  have vd3 : w3.cell? ⟨w.heap.size, 3, none⟩ = some (.int .i64 d.b) := Kd_3.out.cell 3
  have vf0 : w3.cell? ⟨w.heap.size + 1, 0, none⟩ = some (.int .i64 f.fr) := Kf_3.out.cell 0
  have vf1 : w3.cell? ⟨w.heap.size + 1, 1, none⟩ = some (.int .i64 f.tt) := Kf_3.out.cell 1
  have vf2 : w3.cell? ⟨w.heap.size + 1, 2, none⟩ = some (.int .i64 f.a) := Kf_3.out.cell 2
  have vf3 : w3.cell? ⟨w.heap.size + 1, 3, none⟩ = some (.int .i64 f.b) := Kf_3.out.cell 3
  go_wp2
  go_ret
  exact ⟨ret_bool (by rw [E0.out]; first | (rw [HC.out]; done) | (rw [HC.out]; rfl) | (show _ = (true && true && _); rw [HC.out]; rfl)), B3.out⟩
end Go.Proofs.Ytfofbnpgjdagkaa
