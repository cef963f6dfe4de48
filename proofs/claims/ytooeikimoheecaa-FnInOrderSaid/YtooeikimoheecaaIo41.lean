
/- What InOrderLaw rests on, part 41: contracts and mathematics. -/
import Derived.Test.YtooeikimoheecaaIo38
import Derived.Test.YtooeikimoheecaaIo24
import Derived.Test.YtooeikimoheecaaIo15
import Derived.Test.YtooeikimoheecaaIo10
import Derived.StillTailTactics
import Derived.Deep.DeepCutAuto
namespace Go.Proofs.Ytooeikimoheecaa
open Go.RowKit
set_option maxRecDepth 100000
set_option maxHeartbeats 4000000 in
theorem implArrivalOf (yd0 yd1 : Value) (d : ChartD) (s : ShipD) (yr : Value) (r : List Int) (yt : Value) (t : List Int) (w : World) (rd : RdChart w yd0 yd1 d) (rr : SlInt w yr r) (rt : SlInt w yt t) (fd : ∀ x ∈ d.points, PointD.wf x) (fs : s.wf) :
    Calls Try.prog 14 #[.agg #[yd0, yd1], s.val, yr, yt] w (fun e w' => e = .returned (.int .i64 (arrI d s r t)) ∧ Below w.heap.size w w') := by
  have Rd := Lib.hid rd
  obtain ⟨rd0, rd1⟩ := rd
  obtain ⟨Ad0, cd0, rfl⟩ := SlOf.form rd0
  obtain ⟨Ad1, cd1, rfl⟩ := SlOf.form rd1
  have Nd := Lib.hid fd
  clear fd
  clear rd0 rd1
  have Ns := Lib.hid fs
  clear fs
  have Rr := Lib.hid rr
  obtain ⟨Ar, cr, rfl⟩ := SlOf.form rr
  clear rr
  have Rt := Lib.hid rt
  obtain ⟨At, ct, rfl⟩ := SlOf.form rt
  clear rt
  obtain ⟨W0, hW0⟩ : ∃ W0, W0 = ((w.alloc (.cells #[.slice Ad0 d.points.length cd0, .slice Ad1 d.segs.length cd1] 32)).alloc (.cells #[.string s.name, .int .i64 s.length, .int .i64 s.draught, .int .i64 s.line, .int .i64 s.tugs, .bool s.slow] 46)) := ⟨_, rfl⟩
  have B := Lib.hid ((Joins.below_alloc1 w (.cells #[.slice Ad0 d.points.length cd0, .slice Ad1 d.segs.length cd1] 32)).trans ((Joins.below_alloc1 (w.alloc (.cells #[.slice Ad0 d.points.length cd0, .slice Ad1 d.segs.length cd1] 32)) (.cells #[.string s.name, .int .i64 s.length, .int .i64 s.draught, .int .i64 s.line, .int .i64 s.tugs, .bool s.slow] 46)).mono (by simp; try omega)))
  have Kd := Lib.hid ((Blk.new w #[.slice Ad0 d.points.length cd0, .slice Ad1 d.segs.length cd1] 32).below (Joins.below_alloc1 _ (.cells #[.string s.name, .int .i64 s.length, .int .i64 s.draught, .int .i64 s.line, .int .i64 s.tugs, .bool s.slow] 46)))
  have Ks := Lib.hid (Blk.new (w.alloc (.cells #[.slice Ad0 d.points.length cd0, .slice Ad1 d.segs.length cd1] 32)) #[.string s.name, .int .i64 s.length, .int .i64 s.draught, .int .i64 s.line, .int .i64 s.tugs, .bool s.slow] 46)
  rw [World.size_alloc] at Ks
  have HW0 := Lib.hid hW0
  rw [← hW0] at B Kd Ks
  clear hW0
  have hdl := Rd.out.2.1
  have hrl := Rr.out.1
  have htl := Rt.out.1
  obtain ⟨mi, hmi⟩ : ∃ m, minutesI d r = m := ⟨_, rfl⟩
  have hneg := minutes_neg d r
  rw [hmi] at hneg
  have HMI := Lib.hid hmi
  obtain ⟨b1, hb1⟩ : ∃ b, (chartB d && (minSum d r).isSome) = b := ⟨_, rfl⟩
  rw [hb1] at hneg
  have H1 := Lib.hid hb1
  obtain ⟨b2, hb2⟩ : ∃ b, shipB s = b := ⟨_, rfl⟩
  have H2 := Lib.hid hb2
  obtain ⟨b3, hb3⟩ : ∃ b, ((t.length : Int) == (r.length : Int)) = b := ⟨_, rfl⟩
  have H3 := Lib.hid hb3
  have hb3' : ((t.length : Int) != (r.length : Int)) = !b3 := by rw [bne, hb3]
  clear hmi hb1 hb2 hb3
  by_cases hr0 : r.length = 0
  · have E := Lib.hid (arrI_no (s := s) (starts := t) (d := d) (route := r) (by rintro ⟨-, -, -, -, h5, -⟩; exact h5 (List.eq_nil_of_length_eq_zero hr0)))
    have wl : IntKind.i64.wrap ((r.length : Int) - 1) = -1 := by rw [hr0]; rfl
    clear hr0
    go_enter Try.func14, Try.ntmps14
    go_wp2
    go_ret
    exact ⟨ret_int E.out.symm, by rw [← HW0.out]; exact B.out⟩
  obtain ⟨n, hn⟩ : ∃ n, r.length = n + 1 := ⟨r.length - 1, by omega⟩
  have wr : IntKind.i64.wrap ((r.length : Int) - 1) = (n : Int) := by rw [IntKind.wrap_i64]; omega
  have nr : n < r.length := by omega
  have hn0 : ¬ ((n : Int) < 0) := by omega
  have hn0' : decide ((n : Int) < 0) = false := decide_eq_false hn0
  have HN := Lib.hid hn
  clear hn hr0
  cases b3 with
  | false =>
    have E := Lib.hid (arrI_no (s := s) (starts := t) (d := d) (route := r) (by rintro ⟨-, -, -, h4, -⟩; have := H3.out; rw [h4] at this; simp at this))
    go_enter Try.func14, Try.ntmps14
    go_wp2
    go_ret
    exact ⟨ret_int E.out.symm, by rw [← HW0.out]; exact B.out⟩
  | true =>
  cases b2 with
  | false =>
    have E := Lib.hid (arrI_no (s := s) (starts := t) (d := d) (route := r) (by rintro ⟨-, h2, -⟩; rw [H2.out] at h2; cases h2))
    go_enter Try.func14, Try.ntmps14
    have vd0 : W0.cell? ⟨w.heap.size, 0, none⟩ = some (.slice Ad0 d.points.length cd0) := Kd.out.cell 0
    have vd1 : W0.cell? ⟨w.heap.size, 1, none⟩ = some (.slice Ad1 d.segs.length cd1) := Kd.out.cell 1
    have vs0 : W0.cell? ⟨w.heap.size + 1, 0, none⟩ = some (.string s.name) := Ks.out.cell 0
    have vs1 : W0.cell? ⟨w.heap.size + 1, 1, none⟩ = some (.int .i64 s.length) := Ks.out.cell 1
    have vs2 : W0.cell? ⟨w.heap.size + 1, 2, none⟩ = some (.int .i64 s.draught) := Ks.out.cell 2
    have vs3 : W0.cell? ⟨w.heap.size + 1, 3, none⟩ = some (.int .i64 s.line) := Ks.out.cell 3
    have vs4 : W0.cell? ⟨w.heap.size + 1, 4, none⟩ = some (.int .i64 s.tugs) := Ks.out.cell 4
    have vs5 : W0.cell? ⟨w.heap.size + 1, 5, none⟩ = some (.bool s.slow) := Ks.out.cell 5
    go_wp2_with fail
    rw [← HW0.out]
    clear vd0 vd1 vs0 vs1 vs2 vs3 vs4 vs5
    refine (implShipOk s _ Ns.out).mono ?_
    rw [H2.out]
    rintro e w1 ⟨rfl, hb1⟩
    have B1 := Lib.hid (B.out.trans (hb1.mono B.out.size))
    have Kd_1 := Lib.hid (Kd.out.below hb1)
    have Ks_1 := Lib.hid (Ks.out.below hb1)
    clear hb1
    go_wp2
    go_ret
    exact ⟨ret_int E.out.symm, B1.out⟩
  | true =>
  cases b1 with
  | false =>
    have E := Lib.hid (arrI_no (s := s) (starts := t) (d := d) (route := r) (by rintro ⟨h1, -, h3, -⟩; have := H1.out; rw [h1, h3] at this; cases this))
    have hng : mi < 0 := of_decide_eq_true (hneg.trans rfl)
    go_enter Try.func14, Try.ntmps14
    have vd0 : W0.cell? ⟨w.heap.size, 0, none⟩ = some (.slice Ad0 d.points.length cd0) := Kd.out.cell 0
    have vd1 : W0.cell? ⟨w.heap.size, 1, none⟩ = some (.slice Ad1 d.segs.length cd1) := Kd.out.cell 1
    have vs0 : W0.cell? ⟨w.heap.size + 1, 0, none⟩ = some (.string s.name) := Ks.out.cell 0
    have vs1 : W0.cell? ⟨w.heap.size + 1, 1, none⟩ = some (.int .i64 s.length) := Ks.out.cell 1
    have vs2 : W0.cell? ⟨w.heap.size + 1, 2, none⟩ = some (.int .i64 s.draught) := Ks.out.cell 2
    have vs3 : W0.cell? ⟨w.heap.size + 1, 3, none⟩ = some (.int .i64 s.line) := Ks.out.cell 3
    have vs4 : W0.cell? ⟨w.heap.size + 1, 4, none⟩ = some (.int .i64 s.tugs) := Ks.out.cell 4
    have vs5 : W0.cell? ⟨w.heap.size + 1, 5, none⟩ = some (.bool s.slow) := Ks.out.cell 5
    go_wp2_with fail
    rw [← HW0.out]
    clear vd0 vd1 vs0 vs1 vs2 vs3 vs4 vs5
    refine (implShipOk s _ Ns.out).mono ?_
    rw [H2.out]
    rintro e w1 ⟨rfl, hb1⟩
    have B1 := Lib.hid (B.out.trans (hb1.mono B.out.size))
    have Kd_1 := Lib.hid (Kd.out.below hb1)
    have Ks_1 := Lib.hid (Ks.out.below hb1)
    clear hb1
    have vd0 : w1.cell? ⟨w.heap.size, 0, none⟩ = some (.slice Ad0 d.points.length cd0) := Kd_1.out.cell 0
    have vd1 : w1.cell? ⟨w.heap.size, 1, none⟩ = some (.slice Ad1 d.segs.length cd1) := Kd_1.out.cell 1
    have vs0 : w1.cell? ⟨w.heap.size + 1, 0, none⟩ = some (.string s.name) := Ks_1.out.cell 0
    have vs1 : w1.cell? ⟨w.heap.size + 1, 1, none⟩ = some (.int .i64 s.length) := Ks_1.out.cell 1
    have vs2 : w1.cell? ⟨w.heap.size + 1, 2, none⟩ = some (.int .i64 s.draught) := Ks_1.out.cell 2
    have vs3 : w1.cell? ⟨w.heap.size + 1, 3, none⟩ = some (.int .i64 s.line) := Ks_1.out.cell 3
    have vs4 : w1.cell? ⟨w.heap.size + 1, 4, none⟩ = some (.int .i64 s.tugs) := Ks_1.out.cell 4
    have vs5 : w1.cell? ⟨w.heap.size + 1, 5, none⟩ = some (.bool s.slow) := Ks_1.out.cell 5
    go_wp2_with fail
    clear vd0 vd1 vs0 vs1 vs2 vs3 vs4 vs5
    refine (implRouteMinutes _ _ d _ r _ (Rd.out.below B1.out) (Rr.out.below B1.out) Nd.out).mono ?_
    rw [HMI.out]
    rintro e w2 ⟨rfl, hb2⟩
    have B2 := Lib.hid (B1.out.trans (hb2.mono B1.out.size))
    have Kd_2 := Lib.hid (Kd_1.out.below hb2)
    have Ks_2 := Lib.hid (Ks_1.out.below hb2)
    clear hb2
    go_wp2
    go_ret
    exact ⟨ret_int E.out.symm, B2.out⟩
  | true =>
  have hng : ¬ (mi < 0) := of_decide_eq_false (hneg.trans rfl)
  have hng' : decide (mi < 0) = false := decide_eq_false hng
  have hn2 : t.length = n + 1 := by have h8 := H3.out; have h9 := HN.out; simp at h8; omega
  obtain ⟨lt, hlt⟩ : ∃ x, t[n]? = some x := ⟨_, List.getElem?_eq_getElem (by omega)⟩
  obtain ⟨li, hli⟩ : ∃ x, r[n]? = some x := ⟨_, List.getElem?_eq_getElem nr⟩
  have h1 := H1.out
  simp only [Bool.and_eq_true] at h1
  obtain ⟨hcb, hms⟩ := h1
  obtain ⟨ms, hms'⟩ := Option.isSome_iff_exists.1 hms
  obtain ⟨g, hg⟩ := minSum_seg hms' li (List.mem_of_getElem? hli)
  have HIN := Lib.hid (fun hin : inB lt 0 2880 = true => arrI_yes (d := d) (s := s) (route := r) (starts := t) hcb H2.out hms (HN.out.trans hn2.symm) (by intro e; have h9 := HN.out; rw [e] at h9; simp at h9) (last_at hn2 hlt) hin (last_at HN.out hli) hg)
  have HOUT := Lib.hid (fun hin : inB lt 0 2880 = false => arrI_no (d := d) (s := s) (route := r) (starts := t) (by rintro ⟨-, -, -, -, -, h⟩; rw [last_at hn2 hlt] at h; simp only [Option.getD_some] at h; rw [hin] at h; cases h))
  have HMO := Lib.hid (minOn_ok hcb H2.out hg)
  obtain ⟨hx, li0, lil⟩ := segAt_at hg
  obtain ⟨-, -, -, -, -, -, -, gm0, gm1⟩ := segB_true (chartB_seg hcb hx)
  obtain ⟨k, rfl⟩ : ∃ k : Nat, li = (k : Int) := ⟨li.toNat, by omega⟩
  have nt : n < t.length := by omega
  rcases Rt.out.2 with ⟨he, _⟩ | ⟨gt, ot, ct', e, tpos, tcap, tc⟩
  · rw [he] at nt; simp at nt
  injection e with hA _ hcp
  subst hA hcp
  have yt := SlInt.cells tc n lt hlt
  rcases Rr.out.2 with ⟨he, _⟩ | ⟨gr, or', cr', e, rpos, rcap, rc⟩
  · rw [he] at nr; simp at nr
  injection e with hA _ hcp
  subst hA hcp
  have yr := SlInt.cells rc n _ hli
  have Zyt := Lib.hid yt
  have Zyr := Lib.hid yr
  clear yt yr tc rc hx hg hli hlt hms hms' hcb hn2 li0 lil H1 H3
  go_enter Try.func14, Try.ntmps14
  have vd0 : W0.cell? ⟨w.heap.size, 0, none⟩ = some (.slice Ad0 d.points.length cd0) := Kd.out.cell 0
  have vd1 : W0.cell? ⟨w.heap.size, 1, none⟩ = some (.slice Ad1 d.segs.length cd1) := Kd.out.cell 1
  have vs0 : W0.cell? ⟨w.heap.size + 1, 0, none⟩ = some (.string s.name) := Ks.out.cell 0
  have vs1 : W0.cell? ⟨w.heap.size + 1, 1, none⟩ = some (.int .i64 s.length) := Ks.out.cell 1
  have vs2 : W0.cell? ⟨w.heap.size + 1, 2, none⟩ = some (.int .i64 s.draught) := Ks.out.cell 2
  have vs3 : W0.cell? ⟨w.heap.size + 1, 3, none⟩ = some (.int .i64 s.line) := Ks.out.cell 3
  have vs4 : W0.cell? ⟨w.heap.size + 1, 4, none⟩ = some (.int .i64 s.tugs) := Ks.out.cell 4
  have vs5 : W0.cell? ⟨w.heap.size + 1, 5, none⟩ = some (.bool s.slow) := Ks.out.cell 5
  go_wp2_with fail
  rw [← HW0.out]
  clear vd0 vd1 vs0 vs1 vs2 vs3 vs4 vs5
  refine (implShipOk s _ Ns.out).mono ?_
  rw [H2.out]
  rintro e w1 ⟨rfl, hb1⟩
  have B1 := Lib.hid (B.out.trans (hb1.mono B.out.size))
  have Kd_1 := Lib.hid (Kd.out.below hb1)
  have Ks_1 := Lib.hid (Ks.out.below hb1)
  clear hb1
  have vd0 : w1.cell? ⟨w.heap.size, 0, none⟩ = some (.slice Ad0 d.points.length cd0) := Kd_1.out.cell 0
  have vd1 : w1.cell? ⟨w.heap.size, 1, none⟩ = some (.slice Ad1 d.segs.length cd1) := Kd_1.out.cell 1
  have vs0 : w1.cell? ⟨w.heap.size + 1, 0, none⟩ = some (.string s.name) := Ks_1.out.cell 0
  have vs1 : w1.cell? ⟨w.heap.size + 1, 1, none⟩ = some (.int .i64 s.length) := Ks_1.out.cell 1
  have vs2 : w1.cell? ⟨w.heap.size + 1, 2, none⟩ = some (.int .i64 s.draught) := Ks_1.out.cell 2
  have vs3 : w1.cell? ⟨w.heap.size + 1, 3, none⟩ = some (.int .i64 s.line) := Ks_1.out.cell 3
  have vs4 : w1.cell? ⟨w.heap.size + 1, 4, none⟩ = some (.int .i64 s.tugs) := Ks_1.out.cell 4
  have vs5 : w1.cell? ⟨w.heap.size + 1, 5, none⟩ = some (.bool s.slow) := Ks_1.out.cell 5
  go_wp2_with fail
  clear vd0 vd1 vs0 vs1 vs2 vs3 vs4 vs5
  refine (implRouteMinutes _ _ d _ r _ (Rd.out.below B1.out) (Rr.out.below B1.out) Nd.out).mono ?_
  rw [HMI.out]
  rintro e w2 ⟨rfl, hb2⟩
  have B2 := Lib.hid (B1.out.trans (hb2.mono B1.out.size))
  have Kd_2 := Lib.hid (Kd_1.out.below hb2)
  have Ks_2 := Lib.hid (Ks_1.out.below hb2)
  clear hb2
  have vd0 : w2.cell? ⟨w.heap.size, 0, none⟩ = some (.slice Ad0 d.points.length cd0) := Kd_2.out.cell 0
  have vd1 : w2.cell? ⟨w.heap.size, 1, none⟩ = some (.slice Ad1 d.segs.length cd1) := Kd_2.out.cell 1
  have vs0 : w2.cell? ⟨w.heap.size + 1, 0, none⟩ = some (.string s.name) := Ks_2.out.cell 0
  have vs1 : w2.cell? ⟨w.heap.size + 1, 1, none⟩ = some (.int .i64 s.length) := Ks_2.out.cell 1
  have vs2 : w2.cell? ⟨w.heap.size + 1, 2, none⟩ = some (.int .i64 s.draught) := Ks_2.out.cell 2
  have vs3 : w2.cell? ⟨w.heap.size + 1, 3, none⟩ = some (.int .i64 s.line) := Ks_2.out.cell 3
  have vs4 : w2.cell? ⟨w.heap.size + 1, 4, none⟩ = some (.int .i64 s.tugs) := Ks_2.out.cell 4
  have vs5 : w2.cell? ⟨w.heap.size + 1, 5, none⟩ = some (.bool s.slow) := Ks_2.out.cell 5
  have yt := cell_onV Zyt.out B2.out
  have yr := cell_onV Zyr.out B2.out
  go_wp2_with fail
  clear vd0 vd1 vs0 vs1 vs2 vs3 vs4 vs5 yt yr
  obtain ⟨ib, hib⟩ : ∃ b, inB lt 0 2880 = b := ⟨_, rfl⟩
  refine (isMinute_any _ _).mono ?_
  rw [hib]
  rintro e wz ⟨rfl, rfl⟩
  have HIB := Lib.hid hib
  cases ib with
  | false =>
    have E := Lib.hid (HOUT.out HIB.out)
    clear hib
    go_wp2
    go_ret
    exact ⟨ret_int E.out.symm, B2.out⟩
  | true =>
    have E := Lib.hid (HIN.out HIB.out)
    have tb : 0 ≤ lt ∧ lt ≤ 2880 := of_decide_eq_true hib
    obtain ⟨t0, t1⟩ := tb
    clear hib
    have wsum : IntKind.i64.wrap (lt + onMin g s) = lt + onMin g s := by have h0 : 0 ≤ onMin g s ∧ onMin g s ≤ 480 := (by unfold onMin; split <;> omega); rw [IntKind.wrap_i64]; omega
    have Fyr := Lib.hid (show w2.cell? ⟨gr, or' + n, none⟩ = some (.int .i64 (k : Int)) from cell_onV Zyr.out B2.out)
    have Fyt := Lib.hid (show w2.cell? ⟨gt, ot + n, none⟩ = some (.int .i64 lt) from cell_onV Zyt.out B2.out)
    have Fd0 := Lib.hid (show w2.cell? ⟨w.heap.size, 0, none⟩ = some (.slice Ad0 d.points.length cd0) from Kd_2.out.cell 0)
    have Fd1 := Lib.hid (show w2.cell? ⟨w.heap.size, 1, none⟩ = some (.slice Ad1 d.segs.length cd1) from Kd_2.out.cell 1)
    have Fs0 := Lib.hid (show w2.cell? ⟨w.heap.size + 1, 0, none⟩ = some (.string s.name) from Ks_2.out.cell 0)
    have Fs1 := Lib.hid (show w2.cell? ⟨w.heap.size + 1, 1, none⟩ = some (.int .i64 s.length) from Ks_2.out.cell 1)
    have Fs2 := Lib.hid (show w2.cell? ⟨w.heap.size + 1, 2, none⟩ = some (.int .i64 s.draught) from Ks_2.out.cell 2)
    have Fs3 := Lib.hid (show w2.cell? ⟨w.heap.size + 1, 3, none⟩ = some (.int .i64 s.line) from Ks_2.out.cell 3)
    have Fs4 := Lib.hid (show w2.cell? ⟨w.heap.size + 1, 4, none⟩ = some (.int .i64 s.tugs) from Ks_2.out.cell 4)
    have Fs5 := Lib.hid (show w2.cell? ⟨w.heap.size + 1, 5, none⟩ = some (.bool s.slow) from Ks_2.out.cell 5)
    have DD := Lib.hid ((Below.refl w2.heap.size w2).drew)
    have vFd0 := Fd0.out
    have vFd1 := Fd1.out
    have vFs0 := Fs0.out
    have vFs1 := Fs1.out
    have vFs2 := Fs2.out
    have vFs3 := Fs3.out
    have vFs4 := Fs4.out
    have vFs5 := Fs5.out
    have vFyr := Fyr.out
    have vFyt := Fyt.out
    go_upto_region 4 with fail
    refine wp_region_held_drew (S := (fun w' => w'.cell? ⟨w.heap.size, 0, none⟩ = some (.slice Ad0 d.points.length cd0) ∧ w'.cell? ⟨w.heap.size, 1, none⟩ = some (.slice Ad1 d.segs.length cd1) ∧ w'.cell? ⟨w.heap.size + 1, 0, none⟩ = some (.string s.name) ∧ w'.cell? ⟨w.heap.size + 1, 1, none⟩ = some (.int .i64 s.length) ∧ w'.cell? ⟨w.heap.size + 1, 2, none⟩ = some (.int .i64 s.draught) ∧ w'.cell? ⟨w.heap.size + 1, 3, none⟩ = some (.int .i64 s.line) ∧ w'.cell? ⟨w.heap.size + 1, 4, none⟩ = some (.int .i64 s.tugs) ∧ w'.cell? ⟨w.heap.size + 1, 5, none⟩ = some (.bool s.slow) ∧ w'.cell? ⟨gr, or' + n, none⟩ = some (.int .i64 (k : Int)) ∧ w'.cell? ⟨gt, ot + n, none⟩ = some (.int .i64 lt) ∧ Hid (Below w2.heap.size w2 w'))) (by kernel_rfl) ?_ (fun hHeld => ?_)
    · (try dsimp only); go_keep
    refine wpAnyH_take (i := 0) (v := ?_) (by simp only [List.getElem?_toArray, List.getElem?_cons_zero]; rfl) (by kernel_rfl) (by kernel_rfl) (by kernel_rfl) (by exact fun _ _ _ h => h) (Or.inl ⟨by rfl, ?_⟩) (by assumption) ?_; rotate_left; focus (intro w hSw; (try dsimp only at hSw); first | (go_simp; done) | (go_simp; with_reducible rfl))
    try simp only [Act.put, List.setIfInBounds_toArray, List.set_cons_zero, List.set_cons_succ]
    refine wpAnyH_take (i := 1) (v := ?_) (by simp only [List.getElem?_toArray, List.getElem?_cons_succ, List.getElem?_cons_zero]; rfl) (by kernel_rfl) (by kernel_rfl) (by kernel_rfl) (by exact fun _ _ _ h => h) (Or.inl ⟨by rfl, ?_⟩) (by assumption) ?_; rotate_left; focus (intro w hSw; (try dsimp only at hSw); first | (go_simp; done) | (go_simp; with_reducible rfl))
    try simp only [Act.put, List.setIfInBounds_toArray, List.set_cons_zero, List.set_cons_succ]
    refine wpAnyH_take (i := 2) (v := ?_) (by simp only [List.getElem?_toArray, List.getElem?_cons_succ, List.getElem?_cons_zero]; rfl) (by kernel_rfl) (by kernel_rfl) (by kernel_rfl) (by exact fun _ _ _ h => h) (Or.inl ⟨by rfl, ?_⟩) (by assumption) ?_; rotate_left; focus (intro w hSw; (try dsimp only at hSw); first | (go_simp; done) | (go_simp; with_reducible rfl))
    try simp only [Act.put, List.setIfInBounds_toArray, List.set_cons_zero, List.set_cons_succ]
    refine wpAnyH_take (i := 3) (v := ?_) (by simp only [List.getElem?_toArray, List.getElem?_cons_succ, List.getElem?_cons_zero]; rfl) (by kernel_rfl) (by kernel_rfl) (by kernel_rfl) (by exact fun _ _ _ h => h) (Or.inl ⟨by rfl, ?_⟩) (by assumption) ?_; rotate_left; focus (intro w hSw; (try dsimp only at hSw); first | (go_simp; done) | (go_simp; with_reducible rfl))
    try simp only [Act.put, List.setIfInBounds_toArray, List.set_cons_zero, List.set_cons_succ]
    refine wpAnyH_take (i := 4) (v := ?_) (by simp only [List.getElem?_toArray, List.getElem?_cons_succ, List.getElem?_cons_zero]; rfl) (by kernel_rfl) (by kernel_rfl) (by kernel_rfl) (by exact fun _ _ _ h => h) (Or.inl ⟨by rfl, ?_⟩) (by assumption) ?_; rotate_left; focus (intro w hSw; (try dsimp only at hSw); first | (go_simp; done) | (go_simp; with_reducible rfl))
    try simp only [Act.put, List.setIfInBounds_toArray, List.set_cons_zero, List.set_cons_succ]
    refine wpAnyH_take (i := 5) (v := ?_) (by simp only [List.getElem?_toArray, List.getElem?_cons_succ, List.getElem?_cons_zero]; rfl) (by kernel_rfl) (by kernel_rfl) (by kernel_rfl) (by exact fun _ _ _ h => h) (Or.inl ⟨by rfl, ?_⟩) (by assumption) ?_; rotate_left; focus (intro w hSw; (try dsimp only at hSw); first | (go_simp; done) | (go_simp; with_reducible rfl))
    try simp only [Act.put, List.setIfInBounds_toArray, List.set_cons_zero, List.set_cons_succ]
    refine wpAnyH_take (i := 6) (v := ?_) (by simp only [List.getElem?_toArray, List.getElem?_cons_succ, List.getElem?_cons_zero]; rfl) (by kernel_rfl) (by kernel_rfl) (by kernel_rfl) (by exact fun _ _ _ h => h) (Or.inl ⟨by rfl, ?_⟩) (by assumption) ?_; rotate_left; focus (intro w hSw; (try dsimp only at hSw); first | (go_simp; done) | (go_simp; with_reducible rfl))
    try simp only [Act.put, List.setIfInBounds_toArray, List.set_cons_zero, List.set_cons_succ]
    refine wpAnyH_take (i := 7) (v := ?_) (by simp only [List.getElem?_toArray, List.getElem?_cons_succ, List.getElem?_cons_zero]; rfl) (by kernel_rfl) (by kernel_rfl) (by kernel_rfl) (by exact fun _ _ _ h => h) (Or.inl ⟨by rfl, ?_⟩) (by assumption) ?_; rotate_left; focus (intro w hSw; (try dsimp only at hSw); first | (go_simp; done) | (go_simp; with_reducible rfl))
    try simp only [Act.put, List.setIfInBounds_toArray, List.set_cons_zero, List.set_cons_succ]
    refine wpAnyH_take (i := 8) (v := ?_) (by simp only [List.getElem?_toArray, List.getElem?_cons_succ, List.getElem?_cons_zero]; rfl) (by kernel_rfl) (by kernel_rfl) (by kernel_rfl) (by exact fun _ _ _ h => h) (Or.inl ⟨by rfl, ?_⟩) (by assumption) ?_; rotate_left; focus (intro w hSw; (try dsimp only at hSw); first | (go_simp; done) | (go_simp; with_reducible rfl))
    try simp only [Act.put, List.setIfInBounds_toArray, List.set_cons_zero, List.set_cons_succ]
    refine wpAnyH_take (i := 9) (v := ?_) (by simp only [List.getElem?_toArray, List.getElem?_cons_succ, List.getElem?_cons_zero]; rfl) (by kernel_rfl) (by kernel_rfl) (by kernel_rfl) (by exact fun _ _ _ h => h) (Or.inl ⟨by rfl, ?_⟩) (by assumption) ?_; rotate_left; focus (intro w hSw; (try dsimp only at hSw); first | (go_simp; done) | (go_simp; with_reducible rfl))
    try simp only [Act.put, List.setIfInBounds_toArray, List.set_cons_zero, List.set_cons_succ]
    refine wpAnyH_ready (rs := [10]) (by kernel_rfl) (by simp) ?_
    refine AllReadyH.cons rfl (fun K hK => ?_) AllReadyH.nil
    rw [if_pos (by rfl)]
    go_simp
    go_at_call 57
    have kB := hHeld.2.2.2.2.2.2.2.2.2.2
    refine (implMinutesOn _ _ d (k : Int) s _ (Rd.out.below (B2.out.trans (kB.out.mono B2.out.size))) Nd.out Ns.out).mono ?_
    rw [HMO.out]
    rintro e wq2_10 ⟨rfl, hbk⟩
    have HBK := kB.out.trans (hbk.mono kB.out.size)
    have QS := Lib.hid (show wq2_10.cell? ⟨w.heap.size, 0, none⟩ = some (.slice Ad0 d.points.length cd0) ∧ wq2_10.cell? ⟨w.heap.size, 1, none⟩ = some (.slice Ad1 d.segs.length cd1) ∧ wq2_10.cell? ⟨w.heap.size + 1, 0, none⟩ = some (.string s.name) ∧ wq2_10.cell? ⟨w.heap.size + 1, 1, none⟩ = some (.int .i64 s.length) ∧ wq2_10.cell? ⟨w.heap.size + 1, 2, none⟩ = some (.int .i64 s.draught) ∧ wq2_10.cell? ⟨w.heap.size + 1, 3, none⟩ = some (.int .i64 s.line) ∧ wq2_10.cell? ⟨w.heap.size + 1, 4, none⟩ = some (.int .i64 s.tugs) ∧ wq2_10.cell? ⟨w.heap.size + 1, 5, none⟩ = some (.bool s.slow) ∧ wq2_10.cell? ⟨gr, or' + n, none⟩ = some (.int .i64 (k : Int)) ∧ wq2_10.cell? ⟨gt, ot + n, none⟩ = some (.int .i64 lt) ∧ Hid (Below w2.heap.size w2 wq2_10) from ⟨cell_onV Fd0.out HBK, cell_onV Fd1.out HBK, cell_onV Fs0.out HBK, cell_onV Fs1.out HBK, cell_onV Fs2.out HBK, cell_onV Fs3.out HBK, cell_onV Fs4.out HBK, cell_onV Fs5.out HBK, cell_onV Fyr.out HBK, cell_onV Fyt.out HBK, Lib.hid HBK⟩)
    clear hbk kB hHeld HBK
    go_simp
    refine hK.out _ _ ?_ (fun hHeld => ?_)
    · (try dsimp only); exact QS.out
    clear hK K
    try simp only [Act.put, List.setIfInBounds_toArray, List.set_cons_zero, List.set_cons_succ]
    refine wpAnyH_take (i := 11) (v := ?_) (by simp only [List.getElem?_toArray, List.getElem?_cons_succ, List.getElem?_cons_zero]; rfl) (by kernel_rfl) (by kernel_rfl) (by kernel_rfl) (by exact fun _ _ _ h => h) (Or.inl ⟨by rfl, ?_⟩) (by assumption) ?_; rotate_left; focus (intro w hSw; (try dsimp only at hSw); first | (go_simp; done) | (go_simp; with_reducible rfl))
    try simp only [Act.put, List.setIfInBounds_toArray, List.set_cons_zero, List.set_cons_succ]
    refine wpAnyH_take (i := 12) (v := ?_) (by simp only [List.getElem?_toArray, List.getElem?_cons_succ, List.getElem?_cons_zero]; rfl) (by kernel_rfl) (by kernel_rfl) (by kernel_rfl) (by exact fun _ _ _ h => h) (Or.inl ⟨by rfl, ?_⟩) (by assumption) ?_; rotate_left; focus (intro w hSw; (try dsimp only at hSw); first | (go_simp; done) | (go_simp; with_reducible rfl))
    try simp only [Act.put, List.setIfInBounds_toArray, List.set_cons_zero, List.set_cons_succ]
    refine wpAnyH_done (by kernel_rfl) ?_ _
    go_wp2
    go_ret
    exact ⟨ret_int E.out.symm, B2.out.trans (hHeld.2.2.2.2.2.2.2.2.2.2.out.mono B2.out.size)⟩
end Go.Proofs.Ytooeikimoheecaa
