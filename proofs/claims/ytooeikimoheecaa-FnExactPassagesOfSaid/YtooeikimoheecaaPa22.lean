
/- What ExactPassageOk and ExactArrivalOf and ExactPassagesOf and ExactIsChain rests on, part 22: contracts and mathematics. -/
import Derived.Test.YtooeikimoheecaaPa19
import Derived.Test.YtooeikimoheecaaPa7
import Derived.Test.YtooeikimoheecaaPa16
import Derived.Test.YtooeikimoheecaaPa10
import Derived.Test.YtooeikimoheecaaPa17
import Derived.StillTailTactics
import Derived.Deep.DeepCutAuto
namespace Go.Proofs.Ytooeikimoheecaa
open Go.RowKit
set_option maxRecDepth 100000
theorem passL_low {d : ChartD} {sh : Int} {s : ShipD} {fr : Int} {r t : List Int} (h : minutesB t = false) : passL d sh s fr r t = [] := by
  cases hp : passPre' d s fr r t with
  | false => exact passL_bad hp
  | true =>
    rw [passL_ok hp]
    obtain ⟨x, hx, hb⟩ := List.all_eq_false.1 h
    obtain ⟨k, hk, e⟩ := List.getElem_of_mem hx
    have hxk : t[k]? = some x := by rw [List.getElem?_eq_getElem hk, e]
    have hrt : r.length = t.length := by
      unfold passPre' at hp
      simp only [Bool.and_eq_true] at hp
      simpa using hp.2
    have hst : ∀ j, passTo d sh s (rteL d fr r) r t (k + 1 + j) = none := fun j => by
      induction j with
      | zero =>
        unfold passTo
        cases passTo d sh s (rteL d fr r) r t k with
        | none => rfl
        | some out =>
          simp only
          rw [List.getD_eq_getElem?_getD, hxk, Option.getD_some, if_neg hb]
      | succ j ih =>
        show (match passTo d sh s (rteL d fr r) r t (k + 1 + j) with | none => none | some out => _) = none
        rw [ih]
    have := hst (r.length - (k + 1))
    rw [show k + 1 + (r.length - (k + 1)) = r.length by omega] at this
    rw [this]
    rfl
set_option maxHeartbeats 8000000 in
theorem implPassagesOf (yd0 yd1 : Value) (d : ChartD) (sh : Int) (s : ShipD) (fr : Int) (yr : Value) (r : List Int) (yt : Value) (t : List Int) (w : World) (rd : RdChart w yd0 yd1 d) (rr : SlInt w yr r) (rt : SlInt w yt t) (fd : ∀ x ∈ d.points, PointD.wf x) (fs : s.wf) :
    Calls Try.prog 30 #[.agg #[yd0, yd1], .int .i64 sh, s.val, .int .i64 fr, yr, yt] w (NewPassage (passL d sh s fr r t) w) := by
  have Rd := Lib.hid rd
  obtain ⟨rd0, rd1⟩ := rd
  obtain ⟨Ad0, cd0, rfl⟩ := SlOf.form rd0
  obtain ⟨Ad1, cd1, rfl⟩ := SlOf.form rd1
  have Nd := Lib.hid fd
  clear fd
  clear rd0 rd1
  have Ns := Lib.hid fs
  clear fs
  have Rr := Lib.hid rr
  obtain ⟨Ar, cr, rfl⟩ := SlOf.form rr
  clear rr
  have Rt := Lib.hid rt
  obtain ⟨At, ct, rfl⟩ := SlOf.form rt
  clear rt
  obtain ⟨W0, hW0⟩ : ∃ W0, W0 = ((w.alloc (.cells #[.slice Ad0 d.points.length cd0, .slice Ad1 d.segs.length cd1] 32)).alloc (.cells #[.string s.name, .int .i64 s.length, .int .i64 s.draught, .int .i64 s.line, .int .i64 s.tugs, .bool s.slow] 46)) := ⟨_, rfl⟩
  have B := Lib.hid ((Joins.below_alloc1 w (.cells #[.slice Ad0 d.points.length cd0, .slice Ad1 d.segs.length cd1] 32)).trans ((Joins.below_alloc1 (w.alloc (.cells #[.slice Ad0 d.points.length cd0, .slice Ad1 d.segs.length cd1] 32)) (.cells #[.string s.name, .int .i64 s.length, .int .i64 s.draught, .int .i64 s.line, .int .i64 s.tugs, .bool s.slow] 46)).mono (by simp; try omega)))
  have Kd := Lib.hid ((Blk.new w #[.slice Ad0 d.points.length cd0, .slice Ad1 d.segs.length cd1] 32).below (Joins.below_alloc1 _ (.cells #[.string s.name, .int .i64 s.length, .int .i64 s.draught, .int .i64 s.line, .int .i64 s.tugs, .bool s.slow] 46)))
  have Ks := Lib.hid (Blk.new (w.alloc (.cells #[.slice Ad0 d.points.length cd0, .slice Ad1 d.segs.length cd1] 32)) #[.string s.name, .int .i64 s.length, .int .i64 s.draught, .int .i64 s.line, .int .i64 s.tugs, .bool s.slow] 46)
  rw [World.size_alloc] at Ks
  have HW0 := Lib.hid hW0
  rw [← hW0] at B Kd Ks
  clear hW0
  have hdl := Rd.out.2.1
  have hrl := Rr.out.1
  have htl := Rt.out.1
  obtain ⟨i0, hin0, hz0, hz1, hz2⟩ := info_parts info_passage
  have HI := Lib.hid (And.intro hin0 (And.intro hz0 (And.intro hz1 hz2)))
  clear hin0 hz0 hz1 hz2
  obtain ⟨b1, hb1⟩ : ∃ b, routeB d fr r = b := ⟨_, rfl⟩
  have H1 := Lib.hid hb1
  obtain ⟨b2, hb2⟩ : ∃ b, shipB s = b := ⟨_, rfl⟩
  have H2 := Lib.hid hb2
  obtain ⟨b3, hb3⟩ : ∃ b, ((t.length : Int) == (r.length : Int)) = b := ⟨_, rfl⟩
  have H3 := Lib.hid hb3
  have hb3' : ((t.length : Int) != (r.length : Int)) = !b3 := by rw [bne, hb3]
  obtain ⟨b4, hb4⟩ : ∃ b, minutesB t = b := ⟨_, rfl⟩
  have H4 := Lib.hid hb4
  have HP := Lib.hid (show passPre' d s fr r t = (b1 && b2 && b3) by unfold passPre'; rw [hb1, hb2, ← hb3]; congr 1; by_cases e : r.length = t.length <;> simp [e] <;> omega)
  obtain ⟨pts, hpts⟩ : ∃ p, rteL d fr r = p := ⟨_, rfl⟩
  have HPT := Lib.hid hpts
  clear hb2 hb3 hb4
  cases b1 with
  | false =>
    have E := Lib.hid (passL_bad (ship := sh) (HP.out.trans (by simp)))
    have hpz : pts = [] := by rw [← hpts]; exact if_neg (by rw [hb1]; simp)
    subst hpz
    clear HP hpts hb1
    go_enter Try.func30, Try.ntmps30
    have vd0 : W0.cell? ⟨w.heap.size, 0, none⟩ = some (.slice Ad0 d.points.length cd0) := Kd.out.cell 0
    have vd1 : W0.cell? ⟨w.heap.size, 1, none⟩ = some (.slice Ad1 d.segs.length cd1) := Kd.out.cell 1
    have vs0 : W0.cell? ⟨w.heap.size + 1, 0, none⟩ = some (.string s.name) := Ks.out.cell 0
    have vs1 : W0.cell? ⟨w.heap.size + 1, 1, none⟩ = some (.int .i64 s.length) := Ks.out.cell 1
    have vs2 : W0.cell? ⟨w.heap.size + 1, 2, none⟩ = some (.int .i64 s.draught) := Ks.out.cell 2
    have vs3 : W0.cell? ⟨w.heap.size + 1, 3, none⟩ = some (.int .i64 s.line) := Ks.out.cell 3
    have vs4 : W0.cell? ⟨w.heap.size + 1, 4, none⟩ = some (.int .i64 s.tugs) := Ks.out.cell 4
    have vs5 : W0.cell? ⟨w.heap.size + 1, 5, none⟩ = some (.bool s.slow) := Ks.out.cell 5
    go_wp2_with fail
    rw [← HW0.out]
    clear vd0 vd1 vs0 vs1 vs2 vs3 vs4 vs5
    refine (implRoutePoints _ _ d fr _ r _ (Rd.out.below B.out) (Rr.out.below B.out) Nd.out).mono ?_
    rw [HPT.out]
    rintro e w1 ⟨vp, rfl, ho, hb1⟩
    have B1 := Lib.hid (B.out.trans (hb1.mono B.out.size))
    have Kd_1 := Lib.hid (Kd.out.below hb1)
    have Ks_1 := Lib.hid (Ks.out.below hb1)
    have BW1 := Lib.hid hb1
    have OP1 := Lib.hid ho
    obtain ⟨Ap, cp, rfl⟩ := own_form ho
    clear ho
    clear hb1
    go_wp2
    go_ret
    exact ⟨_, rfl, by rw [E.out]; exact (GathO.empty (cs := PassageD.cells) (t := 67) (k := 5) B1.out).1, B1.out⟩
  | true =>
  obtain ⟨hcb, hpl, hpin, hsin⟩ := route_facts hb1
  rw [hpts] at hpl
  have HPL := Lib.hid hpl
  have HSI := Lib.hid hsin
  have HCB := Lib.hid hcb
  have hpz : ((pts.length : Int) == 0) = false := by rw [hpl]; simp; omega
  clear hpl hpin hsin hcb hb1
  cases b2 with
  | false =>
    have E := Lib.hid (passL_bad (ship := sh) (HP.out.trans (by simp)))
    clear HP hpts
    go_enter Try.func30, Try.ntmps30
    have vd0 : W0.cell? ⟨w.heap.size, 0, none⟩ = some (.slice Ad0 d.points.length cd0) := Kd.out.cell 0
    have vd1 : W0.cell? ⟨w.heap.size, 1, none⟩ = some (.slice Ad1 d.segs.length cd1) := Kd.out.cell 1
    have vs0 : W0.cell? ⟨w.heap.size + 1, 0, none⟩ = some (.string s.name) := Ks.out.cell 0
    have vs1 : W0.cell? ⟨w.heap.size + 1, 1, none⟩ = some (.int .i64 s.length) := Ks.out.cell 1
    have vs2 : W0.cell? ⟨w.heap.size + 1, 2, none⟩ = some (.int .i64 s.draught) := Ks.out.cell 2
    have vs3 : W0.cell? ⟨w.heap.size + 1, 3, none⟩ = some (.int .i64 s.line) := Ks.out.cell 3
    have vs4 : W0.cell? ⟨w.heap.size + 1, 4, none⟩ = some (.int .i64 s.tugs) := Ks.out.cell 4
    have vs5 : W0.cell? ⟨w.heap.size + 1, 5, none⟩ = some (.bool s.slow) := Ks.out.cell 5
    go_wp2_with fail
    rw [← HW0.out]
    clear vd0 vd1 vs0 vs1 vs2 vs3 vs4 vs5
    refine (implRoutePoints _ _ d fr _ r _ (Rd.out.below B.out) (Rr.out.below B.out) Nd.out).mono ?_
    rw [HPT.out]
    rintro e w1 ⟨vp, rfl, ho, hb1⟩
    have B1 := Lib.hid (B.out.trans (hb1.mono B.out.size))
    have Kd_1 := Lib.hid (Kd.out.below hb1)
    have Ks_1 := Lib.hid (Ks.out.below hb1)
    have BW1 := Lib.hid hb1
    have OP1 := Lib.hid ho
    obtain ⟨Ap, cp, rfl⟩ := own_form ho
    clear ho
    clear hb1
    have vd0 : w1.cell? ⟨w.heap.size, 0, none⟩ = some (.slice Ad0 d.points.length cd0) := Kd_1.out.cell 0
    have vd1 : w1.cell? ⟨w.heap.size, 1, none⟩ = some (.slice Ad1 d.segs.length cd1) := Kd_1.out.cell 1
    have vs0 : w1.cell? ⟨w.heap.size + 1, 0, none⟩ = some (.string s.name) := Ks_1.out.cell 0
    have vs1 : w1.cell? ⟨w.heap.size + 1, 1, none⟩ = some (.int .i64 s.length) := Ks_1.out.cell 1
    have vs2 : w1.cell? ⟨w.heap.size + 1, 2, none⟩ = some (.int .i64 s.draught) := Ks_1.out.cell 2
    have vs3 : w1.cell? ⟨w.heap.size + 1, 3, none⟩ = some (.int .i64 s.line) := Ks_1.out.cell 3
    have vs4 : w1.cell? ⟨w.heap.size + 1, 4, none⟩ = some (.int .i64 s.tugs) := Ks_1.out.cell 4
    have vs5 : w1.cell? ⟨w.heap.size + 1, 5, none⟩ = some (.bool s.slow) := Ks_1.out.cell 5
    go_wp2_with fail
    clear vd0 vd1 vs0 vs1 vs2 vs3 vs4 vs5
    refine (implShipOk s _ Ns.out).mono ?_
    rw [H2.out]
    rintro e w2 ⟨rfl, hb2⟩
    have B2 := Lib.hid (B1.out.trans (hb2.mono B1.out.size))
    have Kd_2 := Lib.hid (Kd_1.out.below hb2)
    have Ks_2 := Lib.hid (Ks_1.out.below hb2)
    have BW2 := Lib.hid (BW1.out.trans (hb2.mono BW1.out.size))
    have OP2 := Lib.hid (own_below OP1.out hb2)
    clear hb2
    go_wp2
    go_ret
    exact ⟨_, rfl, by rw [E.out]; exact (GathO.empty (cs := PassageD.cells) (t := 67) (k := 5) B2.out).1, B2.out⟩
  | true =>
  cases b3 with
  | false =>
    have E := Lib.hid (passL_bad (ship := sh) (HP.out.trans (by simp)))
    clear HP hpts
    go_enter Try.func30, Try.ntmps30
    have vd0 : W0.cell? ⟨w.heap.size, 0, none⟩ = some (.slice Ad0 d.points.length cd0) := Kd.out.cell 0
    have vd1 : W0.cell? ⟨w.heap.size, 1, none⟩ = some (.slice Ad1 d.segs.length cd1) := Kd.out.cell 1
    have vs0 : W0.cell? ⟨w.heap.size + 1, 0, none⟩ = some (.string s.name) := Ks.out.cell 0
    have vs1 : W0.cell? ⟨w.heap.size + 1, 1, none⟩ = some (.int .i64 s.length) := Ks.out.cell 1
    have vs2 : W0.cell? ⟨w.heap.size + 1, 2, none⟩ = some (.int .i64 s.draught) := Ks.out.cell 2
    have vs3 : W0.cell? ⟨w.heap.size + 1, 3, none⟩ = some (.int .i64 s.line) := Ks.out.cell 3
    have vs4 : W0.cell? ⟨w.heap.size + 1, 4, none⟩ = some (.int .i64 s.tugs) := Ks.out.cell 4
    have vs5 : W0.cell? ⟨w.heap.size + 1, 5, none⟩ = some (.bool s.slow) := Ks.out.cell 5
    go_wp2_with fail
    rw [← HW0.out]
    clear vd0 vd1 vs0 vs1 vs2 vs3 vs4 vs5
    refine (implRoutePoints _ _ d fr _ r _ (Rd.out.below B.out) (Rr.out.below B.out) Nd.out).mono ?_
    rw [HPT.out]
    rintro e w1 ⟨vp, rfl, ho, hb1⟩
    have B1 := Lib.hid (B.out.trans (hb1.mono B.out.size))
    have Kd_1 := Lib.hid (Kd.out.below hb1)
    have Ks_1 := Lib.hid (Ks.out.below hb1)
    have BW1 := Lib.hid hb1
    have OP1 := Lib.hid ho
    obtain ⟨Ap, cp, rfl⟩ := own_form ho
    clear ho
    clear hb1
    have vd0 : w1.cell? ⟨w.heap.size, 0, none⟩ = some (.slice Ad0 d.points.length cd0) := Kd_1.out.cell 0
    have vd1 : w1.cell? ⟨w.heap.size, 1, none⟩ = some (.slice Ad1 d.segs.length cd1) := Kd_1.out.cell 1
    have vs0 : w1.cell? ⟨w.heap.size + 1, 0, none⟩ = some (.string s.name) := Ks_1.out.cell 0
    have vs1 : w1.cell? ⟨w.heap.size + 1, 1, none⟩ = some (.int .i64 s.length) := Ks_1.out.cell 1
    have vs2 : w1.cell? ⟨w.heap.size + 1, 2, none⟩ = some (.int .i64 s.draught) := Ks_1.out.cell 2
    have vs3 : w1.cell? ⟨w.heap.size + 1, 3, none⟩ = some (.int .i64 s.line) := Ks_1.out.cell 3
    have vs4 : w1.cell? ⟨w.heap.size + 1, 4, none⟩ = some (.int .i64 s.tugs) := Ks_1.out.cell 4
    have vs5 : w1.cell? ⟨w.heap.size + 1, 5, none⟩ = some (.bool s.slow) := Ks_1.out.cell 5
    go_wp2_with fail
    clear vd0 vd1 vs0 vs1 vs2 vs3 vs4 vs5
    refine (implShipOk s _ Ns.out).mono ?_
    rw [H2.out]
    rintro e w2 ⟨rfl, hb2⟩
    have B2 := Lib.hid (B1.out.trans (hb2.mono B1.out.size))
    have Kd_2 := Lib.hid (Kd_1.out.below hb2)
    have Ks_2 := Lib.hid (Ks_1.out.below hb2)
    have BW2 := Lib.hid (BW1.out.trans (hb2.mono BW1.out.size))
    have OP2 := Lib.hid (own_below OP1.out hb2)
    clear hb2
    go_wp2
    go_ret
    exact ⟨_, rfl, by rw [E.out]; exact (GathO.empty (cs := PassageD.cells) (t := 67) (k := 5) B2.out).1, B2.out⟩
  | true =>
  cases b4 with
  | false =>
    have E := Lib.hid (passL_low (d := d) (sh := sh) (s := s) (fr := fr) (r := r) H4.out)
    clear HP hpts
    go_enter Try.func30, Try.ntmps30
    have vd0 : W0.cell? ⟨w.heap.size, 0, none⟩ = some (.slice Ad0 d.points.length cd0) := Kd.out.cell 0
    have vd1 : W0.cell? ⟨w.heap.size, 1, none⟩ = some (.slice Ad1 d.segs.length cd1) := Kd.out.cell 1
    have vs0 : W0.cell? ⟨w.heap.size + 1, 0, none⟩ = some (.string s.name) := Ks.out.cell 0
    have vs1 : W0.cell? ⟨w.heap.size + 1, 1, none⟩ = some (.int .i64 s.length) := Ks.out.cell 1
    have vs2 : W0.cell? ⟨w.heap.size + 1, 2, none⟩ = some (.int .i64 s.draught) := Ks.out.cell 2
    have vs3 : W0.cell? ⟨w.heap.size + 1, 3, none⟩ = some (.int .i64 s.line) := Ks.out.cell 3
    have vs4 : W0.cell? ⟨w.heap.size + 1, 4, none⟩ = some (.int .i64 s.tugs) := Ks.out.cell 4
    have vs5 : W0.cell? ⟨w.heap.size + 1, 5, none⟩ = some (.bool s.slow) := Ks.out.cell 5
    go_wp2_with fail
    rw [← HW0.out]
    clear vd0 vd1 vs0 vs1 vs2 vs3 vs4 vs5
    refine (implRoutePoints _ _ d fr _ r _ (Rd.out.below B.out) (Rr.out.below B.out) Nd.out).mono ?_
    rw [HPT.out]
    rintro e w1 ⟨vp, rfl, ho, hb1⟩
    have B1 := Lib.hid (B.out.trans (hb1.mono B.out.size))
    have Kd_1 := Lib.hid (Kd.out.below hb1)
    have Ks_1 := Lib.hid (Ks.out.below hb1)
    have BW1 := Lib.hid hb1
    have OP1 := Lib.hid ho
    obtain ⟨Ap, cp, rfl⟩ := own_form ho
    clear ho
    clear hb1
    have vd0 : w1.cell? ⟨w.heap.size, 0, none⟩ = some (.slice Ad0 d.points.length cd0) := Kd_1.out.cell 0
    have vd1 : w1.cell? ⟨w.heap.size, 1, none⟩ = some (.slice Ad1 d.segs.length cd1) := Kd_1.out.cell 1
    have vs0 : w1.cell? ⟨w.heap.size + 1, 0, none⟩ = some (.string s.name) := Ks_1.out.cell 0
    have vs1 : w1.cell? ⟨w.heap.size + 1, 1, none⟩ = some (.int .i64 s.length) := Ks_1.out.cell 1
    have vs2 : w1.cell? ⟨w.heap.size + 1, 2, none⟩ = some (.int .i64 s.draught) := Ks_1.out.cell 2
    have vs3 : w1.cell? ⟨w.heap.size + 1, 3, none⟩ = some (.int .i64 s.line) := Ks_1.out.cell 3
    have vs4 : w1.cell? ⟨w.heap.size + 1, 4, none⟩ = some (.int .i64 s.tugs) := Ks_1.out.cell 4
    have vs5 : w1.cell? ⟨w.heap.size + 1, 5, none⟩ = some (.bool s.slow) := Ks_1.out.cell 5
    go_wp2_with fail
    clear vd0 vd1 vs0 vs1 vs2 vs3 vs4 vs5
    refine (implShipOk s _ Ns.out).mono ?_
    rw [H2.out]
    rintro e w2 ⟨rfl, hb2⟩
    have B2 := Lib.hid (B1.out.trans (hb2.mono B1.out.size))
    have Kd_2 := Lib.hid (Kd_1.out.below hb2)
    have Ks_2 := Lib.hid (Ks_1.out.below hb2)
    have BW2 := Lib.hid (BW1.out.trans (hb2.mono BW1.out.size))
    have OP2 := Lib.hid (own_below OP1.out hb2)
    clear hb2
    have vd0 : w2.cell? ⟨w.heap.size, 0, none⟩ = some (.slice Ad0 d.points.length cd0) := Kd_2.out.cell 0
    have vd1 : w2.cell? ⟨w.heap.size, 1, none⟩ = some (.slice Ad1 d.segs.length cd1) := Kd_2.out.cell 1
    have vs0 : w2.cell? ⟨w.heap.size + 1, 0, none⟩ = some (.string s.name) := Ks_2.out.cell 0
    have vs1 : w2.cell? ⟨w.heap.size + 1, 1, none⟩ = some (.int .i64 s.length) := Ks_2.out.cell 1
    have vs2 : w2.cell? ⟨w.heap.size + 1, 2, none⟩ = some (.int .i64 s.draught) := Ks_2.out.cell 2
    have vs3 : w2.cell? ⟨w.heap.size + 1, 3, none⟩ = some (.int .i64 s.line) := Ks_2.out.cell 3
    have vs4 : w2.cell? ⟨w.heap.size + 1, 4, none⟩ = some (.int .i64 s.tugs) := Ks_2.out.cell 4
    have vs5 : w2.cell? ⟨w.heap.size + 1, 5, none⟩ = some (.bool s.slow) := Ks_2.out.cell 5
    go_wp2_with fail
    clear vd0 vd1 vs0 vs1 vs2 vs3 vs4 vs5
    refine (areMinutes_any _ t _ (Rt.out.below B2.out)).mono ?_
    rw [H4.out]
    rintro e w3 ⟨rfl, hb3⟩
    have B3 := Lib.hid (B2.out.trans (hb3.mono B2.out.size))
    have Kd_3 := Lib.hid (Kd_2.out.below hb3)
    have Ks_3 := Lib.hid (Ks_2.out.below hb3)
    have BW3 := Lib.hid (BW2.out.trans (hb3.mono BW2.out.size))
    have OP3 := Lib.hid (own_below OP2.out hb3)
    clear hb3
    go_wp2
    go_ret
    exact ⟨_, rfl, by rw [E.out]; exact (GathO.empty (cs := PassageD.cells) (t := 67) (k := 5) B3.out).1, B3.out⟩
  | true =>
  have E0 := Lib.hid (passL_ok (ship := sh) (HP.out.trans (by simp)))
  rw [hpts] at E0
  have HTL := Lib.hid (show t.length = r.length by have := H3.out; simp at this; omega)
  clear HP hpts
  go_enter Try.func30, Try.ntmps30
  have vd0 : W0.cell? ⟨w.heap.size, 0, none⟩ = some (.slice Ad0 d.points.length cd0) := Kd.out.cell 0
  have vd1 : W0.cell? ⟨w.heap.size, 1, none⟩ = some (.slice Ad1 d.segs.length cd1) := Kd.out.cell 1
  have vs0 : W0.cell? ⟨w.heap.size + 1, 0, none⟩ = some (.string s.name) := Ks.out.cell 0
  have vs1 : W0.cell? ⟨w.heap.size + 1, 1, none⟩ = some (.int .i64 s.length) := Ks.out.cell 1
  have vs2 : W0.cell? ⟨w.heap.size + 1, 2, none⟩ = some (.int .i64 s.draught) := Ks.out.cell 2
  have vs3 : W0.cell? ⟨w.heap.size + 1, 3, none⟩ = some (.int .i64 s.line) := Ks.out.cell 3
  have vs4 : W0.cell? ⟨w.heap.size + 1, 4, none⟩ = some (.int .i64 s.tugs) := Ks.out.cell 4
  have vs5 : W0.cell? ⟨w.heap.size + 1, 5, none⟩ = some (.bool s.slow) := Ks.out.cell 5
  go_wp2_with fail
  rw [← HW0.out]
  clear vd0 vd1 vs0 vs1 vs2 vs3 vs4 vs5
  refine (implRoutePoints _ _ d fr _ r _ (Rd.out.below B.out) (Rr.out.below B.out) Nd.out).mono ?_
  rw [HPT.out]
  rintro e w1 ⟨vp, rfl, ho, hb1⟩
  have B1 := Lib.hid (B.out.trans (hb1.mono B.out.size))
  have Kd_1 := Lib.hid (Kd.out.below hb1)
  have Ks_1 := Lib.hid (Ks.out.below hb1)
  have BW1 := Lib.hid hb1
  have OP1 := Lib.hid ho
  obtain ⟨Ap, cp, rfl⟩ := own_form ho
  clear ho
  clear hb1
  have vd0 : w1.cell? ⟨w.heap.size, 0, none⟩ = some (.slice Ad0 d.points.length cd0) := Kd_1.out.cell 0
  have vd1 : w1.cell? ⟨w.heap.size, 1, none⟩ = some (.slice Ad1 d.segs.length cd1) := Kd_1.out.cell 1
  have vs0 : w1.cell? ⟨w.heap.size + 1, 0, none⟩ = some (.string s.name) := Ks_1.out.cell 0
  have vs1 : w1.cell? ⟨w.heap.size + 1, 1, none⟩ = some (.int .i64 s.length) := Ks_1.out.cell 1
  have vs2 : w1.cell? ⟨w.heap.size + 1, 2, none⟩ = some (.int .i64 s.draught) := Ks_1.out.cell 2
  have vs3 : w1.cell? ⟨w.heap.size + 1, 3, none⟩ = some (.int .i64 s.line) := Ks_1.out.cell 3
  have vs4 : w1.cell? ⟨w.heap.size + 1, 4, none⟩ = some (.int .i64 s.tugs) := Ks_1.out.cell 4
  have vs5 : w1.cell? ⟨w.heap.size + 1, 5, none⟩ = some (.bool s.slow) := Ks_1.out.cell 5
  go_wp2_with fail
  clear vd0 vd1 vs0 vs1 vs2 vs3 vs4 vs5
  refine (implShipOk s _ Ns.out).mono ?_
  rw [H2.out]
  rintro e w2 ⟨rfl, hb2⟩
  have B2 := Lib.hid (B1.out.trans (hb2.mono B1.out.size))
  have Kd_2 := Lib.hid (Kd_1.out.below hb2)
  have Ks_2 := Lib.hid (Ks_1.out.below hb2)
  have BW2 := Lib.hid (BW1.out.trans (hb2.mono BW1.out.size))
  have OP2 := Lib.hid (own_below OP1.out hb2)
  clear hb2
  have vd0 : w2.cell? ⟨w.heap.size, 0, none⟩ = some (.slice Ad0 d.points.length cd0) := Kd_2.out.cell 0
  have vd1 : w2.cell? ⟨w.heap.size, 1, none⟩ = some (.slice Ad1 d.segs.length cd1) := Kd_2.out.cell 1
  have vs0 : w2.cell? ⟨w.heap.size + 1, 0, none⟩ = some (.string s.name) := Ks_2.out.cell 0
  have vs1 : w2.cell? ⟨w.heap.size + 1, 1, none⟩ = some (.int .i64 s.length) := Ks_2.out.cell 1
  have vs2 : w2.cell? ⟨w.heap.size + 1, 2, none⟩ = some (.int .i64 s.draught) := Ks_2.out.cell 2
  have vs3 : w2.cell? ⟨w.heap.size + 1, 3, none⟩ = some (.int .i64 s.line) := Ks_2.out.cell 3
  have vs4 : w2.cell? ⟨w.heap.size + 1, 4, none⟩ = some (.int .i64 s.tugs) := Ks_2.out.cell 4
  have vs5 : w2.cell? ⟨w.heap.size + 1, 5, none⟩ = some (.bool s.slow) := Ks_2.out.cell 5
  go_wp2_with fail
  clear vd0 vd1 vs0 vs1 vs2 vs3 vs4 vs5
  refine (areMinutes_any _ t _ (Rt.out.below B2.out)).mono ?_
  rw [H4.out]
  rintro e w3 ⟨rfl, hb3⟩
  have B3 := Lib.hid (B2.out.trans (hb3.mono B2.out.size))
  have Kd_3 := Lib.hid (Kd_2.out.below hb3)
  have Ks_3 := Lib.hid (Ks_2.out.below hb3)
  have BW3 := Lib.hid (BW2.out.trans (hb3.mono BW2.out.size))
  have OP3 := Lib.hid (own_below OP2.out hb3)
  clear hb3
  have OP := Lib.hid (own_lo (base' := W0.heap.size) OP3.out (Nat.le_refl _))
  have G0 := Lib.hid (GathO.empty (k := 5) (cs := PassageD.cells) (t := 67) (w := W0) BW3.out)
  clear OP1 OP2 OP3 BW1 BW2
  go_wp2
  go_loopw [14, 43] (fun q i wr => ∃ (k : Nat) (out : List PassageD), k ≤ r.length ∧ out.length = k ∧ i = .int .i64 (k : Int) ∧ Hid (passTo d sh s pts r t k = some out) ∧ Hid (GathO 5 PassageD.cells 67 W0 q out wr) ∧ Hid (OwnInt wr W0.heap.size (.slice Ap pts.length cp) pts) ∧ Hid (ApartV q (.slice Ap pts.length cp))) (fun _ i _ => r.length - (intOf i).toNat)
  case atStart => exact ⟨0, [], Nat.zero_le _, rfl, rfl, Lib.hid rfl, G0, OP, Lib.hid (fun g hg => by simp [Value.ownBlock] at hg)⟩
  case round =>
    clear G0 OP
    obtain ⟨k, out, hk, hol, rfl, hP, hG, hO, hA⟩ := hrel
    have HOL := Lib.hid hol
    obtain ⟨Qa, Qc, rfl⟩ := hG.out.form
    have hob : out.length ≤ 1000000000 := by omega
    clear hol
    have hsz := hG.out.size
    have BR := Lib.hid (B.out.trans (hG.out.2.mono B.out.size))
    have Kd_r := Lib.hid (Kd.out.below hG.out.2)
    have Ks_r := Lib.hid (Ks.out.below hG.out.2)
    by_cases hlt : k < r.length
    rotate_left
    · obtain rfl : k = r.length := by omega
      have E := Lib.hid (show passL d sh s fr r t = out by rw [E0.out, hP.out]; rfl)
      have OW := Lib.hid (own_lo hG.out.1 (base' := w.heap.size) B.out.size)
      go_wp2
      go_ret
      exact ⟨_, rfl, by rw [E.out]; exact OW.out, BR.out⟩
    obtain ⟨i, hi⟩ : ∃ i, r[k]? = some i := ⟨_, List.getElem?_eq_getElem hlt⟩
    have hkt : k < t.length := by have := HTL.out; omega
    have hkp : k < pts.length := by have := HPL.out; omega
    obtain ⟨tm, htm⟩ : ∃ x, t[k]? = some x := ⟨_, List.getElem?_eq_getElem hkt⟩
    obtain ⟨p, hp⟩ : ∃ x, pts[k]? = some x := ⟨_, List.getElem?_eq_getElem hkp⟩
    have HNX := Lib.hid (passTo_next hP.out htm hp hi)
    have hib := minutesB_at H4.out htm
    have HIB := Lib.hid hib
    obtain ⟨t0, t1⟩ : 0 ≤ tm ∧ tm ≤ 2880 := of_decide_eq_true hib
    obtain ⟨g, hg, hx, li0, lil⟩ := HSI.out i (List.mem_of_getElem? hi)
    obtain ⟨-, -, -, -, -, -, -, gm0, gm1⟩ := segB_true (chartB_seg HCB.out hx)
    have HMO := Lib.hid (minOn_ok HCB.out H2.out hg)
    have HSG := Lib.hid hg
    obtain ⟨kk, rfl⟩ : ∃ kk : Nat, i = (kk : Int) := ⟨i.toNat, by omega⟩
    simp only [Int.toNat_natCast] at hx lil
    have wsum : IntKind.i64.wrap (tm + onMin g s) = tm + onMin g s := by have h0 : 0 ≤ onMin g s ∧ onMin g s ≤ 480 := (by unfold onMin; split <;> omega); rw [IntKind.wrap_i64]; omega
    obtain ⟨eb, heb⟩ : ∃ b, (g.a == p) = b := ⟨_, rfl⟩
    have heb' : (p == g.a) = eb := by rw [← heb]; exact Bool.beq_comm
    have NX := Lib.hid (show passTo d sh s pts r t (k + 1) = some (out ++ [⟨sh, (kk : Int), eb, tm, tm + onMin g s⟩]) by rw [HNX.out, HIB.out, ← heb]; unfold passOf onSeg; rw [HSG.out]; rfl)
    rcases Rt.out.2 with ⟨he, _⟩ | ⟨gt, ot, ct', e, tpos, tcap, tc⟩
    · rw [he] at hkt; simp at hkt
    injection e with hA' _ hcp'
    subst hA' hcp'
    have yt := cell_onV (SlInt.cells tc k tm htm) BR.out
    rcases Rr.out.2 with ⟨he, _⟩ | ⟨gr, or', cr', e, rpos, rcap, rc⟩
    · rw [he] at hlt; simp at hlt
    injection e with hA' _ hcp'
    subst hA' hcp'
    have yr := cell_onV (SlInt.cells rc k _ hi) BR.out
    rcases Rd.out.2.2 with ⟨he, _⟩ | ⟨g', o', c', e, dpos, dcap, dc⟩
    · rw [he] at lil; simp at lil
    injection e with hA' _ hcp'
    subst hA' hcp'
    obtain ⟨q0, -, -, -, -⟩ := SlSegment.cells dc kk g hx
    obtain ⟨gp, cp', e, yp⟩ := own_int_at hO.out hp
    injection e with hA' _ hcp'
    subst hA' hcp'
    have z0 := cell_onV q0 BR.out
    have HG1 := Lib.hid (World.block_lt_of_cell? w _ q0)
    have HT1 := Lib.hid (World.block_lt_of_cell? w _ (SlInt.cells tc k tm htm))
    have YT := Lib.hid yt
    have YP := Lib.hid yp
    have Z0 := Lib.hid z0
    clear q0 z0 yp yt tc rc dc hi htm hp hg hx li0 hib heb
    have F0 := Lib.hid (show wr.cell? ⟨w.heap.size, 0, none⟩ = some (.slice Ad0 d.points.length cd0) from Kd_r.out.cell 0)
    have v0 := F0.out
    have F1 := Lib.hid (show wr.cell? ⟨w.heap.size, 1, none⟩ = some (.slice (some ⟨g', o', none⟩) d.segs.length cd1) from Kd_r.out.cell 1)
    have v1 := F1.out
    have F2 := Lib.hid (show wr.cell? ⟨w.heap.size + 1, 0, none⟩ = some (.string s.name) from Ks_r.out.cell 0)
    have v2 := F2.out
    have F3 := Lib.hid (show wr.cell? ⟨w.heap.size + 1, 1, none⟩ = some (.int .i64 s.length) from Ks_r.out.cell 1)
    have v3 := F3.out
    have F4 := Lib.hid (show wr.cell? ⟨w.heap.size + 1, 2, none⟩ = some (.int .i64 s.draught) from Ks_r.out.cell 2)
    have v4 := F4.out
    have F5 := Lib.hid (show wr.cell? ⟨w.heap.size + 1, 3, none⟩ = some (.int .i64 s.line) from Ks_r.out.cell 3)
    have v5 := F5.out
    have F6 := Lib.hid (show wr.cell? ⟨w.heap.size + 1, 4, none⟩ = some (.int .i64 s.tugs) from Ks_r.out.cell 4)
    have v6 := F6.out
    have F7 := Lib.hid (show wr.cell? ⟨w.heap.size + 1, 5, none⟩ = some (.bool s.slow) from Ks_r.out.cell 5)
    have v7 := F7.out
    have F8 := Lib.hid (show wr.cell? ⟨g', o' + kk * 5, none⟩ = some (.int .i64 g.a) from Z0.out)
    have v8 := F8.out
    have F9 := Lib.hid (show wr.cell? ⟨gp, k, none⟩ = some (.int .i64 p) from YP.out)
    have v9 := F9.out
    have F10 := Lib.hid (show wr.cell? ⟨gt, ot + k, none⟩ = some (.int .i64 tm) from YT.out)
    have v10 := F10.out
    have hbd : w.heap.size < W0.heap.size := World.block_lt_of_cell? W0 ⟨w.heap.size, 0, none⟩ (Kd.out.cell 0)
    have hbs : w.heap.size + 1 < W0.heap.size := World.block_lt_of_cell? W0 ⟨w.heap.size + 1, 0, none⟩ (Ks.out.cell 0)
    have hbg : g' < W0.heap.size := Nat.lt_of_lt_of_le HG1.out B.out.size
    have hbt : gt < W0.heap.size := Nat.lt_of_lt_of_le HT1.out B.out.size
    go_upto_region 8 with fail
    refine wp_region_held_drew (S := (fun w' => w'.cell? ⟨w.heap.size, 0, none⟩ = some (.slice Ad0 d.points.length cd0) ∧ w'.cell? ⟨w.heap.size, 1, none⟩ = some (.slice (some ⟨g', o', none⟩) d.segs.length cd1) ∧ w'.cell? ⟨w.heap.size + 1, 0, none⟩ = some (.string s.name) ∧ w'.cell? ⟨w.heap.size + 1, 1, none⟩ = some (.int .i64 s.length) ∧ w'.cell? ⟨w.heap.size + 1, 2, none⟩ = some (.int .i64 s.draught) ∧ w'.cell? ⟨w.heap.size + 1, 3, none⟩ = some (.int .i64 s.line) ∧ w'.cell? ⟨w.heap.size + 1, 4, none⟩ = some (.int .i64 s.tugs) ∧ w'.cell? ⟨w.heap.size + 1, 5, none⟩ = some (.bool s.slow) ∧ w'.cell? ⟨g', o' + kk * 5, none⟩ = some (.int .i64 g.a) ∧ w'.cell? ⟨gp, k, none⟩ = some (.int .i64 p) ∧ w'.cell? ⟨gt, ot + k, none⟩ = some (.int .i64 tm))) (by kernel_rfl) ?_ (fun hHeld => ?_)
    · (try dsimp only); go_keep
    refine wpAnyH_take (i := 0) (v := ?_) (by simp only [List.getElem?_toArray, List.getElem?_cons_zero]; rfl) (by kernel_rfl) (by kernel_rfl) (by kernel_rfl) (by exact fun _ _ _ h => h) (Or.inl ⟨by rfl, ?_⟩) (by assumption) ?_; rotate_left; focus (intro w hSw; (try dsimp only at hSw); first | (go_simp; done) | (go_simp; with_reducible rfl))
    (try simp only [Act.put]); (try simp only [List.setIfInBounds_toArray]); (try simp only [List.set_cons_succ]); (try simp only [List.set_cons_zero])
    refine wpAnyH_take (i := 1) (v := ?_) (by simp only [List.getElem?_toArray, List.getElem?_cons_succ, List.getElem?_cons_zero]; rfl) (by kernel_rfl) (by kernel_rfl) (by kernel_rfl) (by exact fun _ _ _ h => h) (Or.inl ⟨by rfl, ?_⟩) (by assumption) ?_; rotate_left; focus (intro w hSw; (try dsimp only at hSw); first | (go_simp; done) | (go_simp; with_reducible rfl))
    (try simp only [Act.put]); (try simp only [List.setIfInBounds_toArray]); (try simp only [List.set_cons_succ]); (try simp only [List.set_cons_zero])
    refine wpAnyH_take (i := 2) (v := ?_) (by simp only [List.getElem?_toArray, List.getElem?_cons_succ, List.getElem?_cons_zero]; rfl) (by kernel_rfl) (by kernel_rfl) (by kernel_rfl) (by exact fun _ _ _ h => h) (Or.inl ⟨by rfl, ?_⟩) (by assumption) ?_; rotate_left; focus (intro w hSw; (try dsimp only at hSw); first | (go_simp; done) | (go_simp; with_reducible rfl))
    (try simp only [Act.put]); (try simp only [List.setIfInBounds_toArray]); (try simp only [List.set_cons_succ]); (try simp only [List.set_cons_zero])
    refine wpAnyH_take (i := 3) (v := ?_) (by simp only [List.getElem?_toArray, List.getElem?_cons_succ, List.getElem?_cons_zero]; rfl) (by kernel_rfl) (by kernel_rfl) (by kernel_rfl) (by exact fun _ _ _ h => h) (Or.inl ⟨by rfl, ?_⟩) (by assumption) ?_; rotate_left; focus (intro w hSw; (try dsimp only at hSw); first | (go_simp; done) | (go_simp; with_reducible rfl))
    (try simp only [Act.put]); (try simp only [List.setIfInBounds_toArray]); (try simp only [List.set_cons_succ]); (try simp only [List.set_cons_zero])
    refine wpAnyH_take (i := 4) (v := ?_) (by simp only [List.getElem?_toArray, List.getElem?_cons_succ, List.getElem?_cons_zero]; rfl) (by kernel_rfl) (by kernel_rfl) (by kernel_rfl) (by exact fun _ _ _ h => h) (Or.inl ⟨by rfl, ?_⟩) (by assumption) ?_; rotate_left; focus (intro w hSw; (try dsimp only at hSw); first | (go_simp; done) | (go_simp; with_reducible rfl))
    (try simp only [Act.put]); (try simp only [List.setIfInBounds_toArray]); (try simp only [List.set_cons_succ]); (try simp only [List.set_cons_zero])
    refine wpAnyH_take (i := 5) (v := ?_) (by simp only [List.getElem?_toArray, List.getElem?_cons_succ, List.getElem?_cons_zero]; rfl) (by kernel_rfl) (by kernel_rfl) (by kernel_rfl) (by exact fun _ _ _ h => h) (Or.inl ⟨by rfl, ?_⟩) (by assumption) ?_; rotate_left; focus (intro w hSw; (try dsimp only at hSw); first | (go_simp; done) | (go_simp; with_reducible rfl))
    (try simp only [Act.put]); (try simp only [List.setIfInBounds_toArray]); (try simp only [List.set_cons_succ]); (try simp only [List.set_cons_zero])
    refine wpAnyH_take (i := 6) (v := ?_) (by simp only [List.getElem?_toArray, List.getElem?_cons_succ, List.getElem?_cons_zero]; rfl) (by kernel_rfl) (by kernel_rfl) (by kernel_rfl) (by exact fun _ _ _ h => h) (Or.inl ⟨by rfl, ?_⟩) (by assumption) ?_; rotate_left; focus (intro w hSw; (try dsimp only at hSw); first | (go_simp; done) | (go_simp; with_reducible rfl))
    (try simp only [Act.put]); (try simp only [List.setIfInBounds_toArray]); (try simp only [List.set_cons_succ]); (try simp only [List.set_cons_zero])
    refine wpAnyH_take (i := 7) (v := ?_) (by simp only [List.getElem?_toArray, List.getElem?_cons_succ, List.getElem?_cons_zero]; rfl) (by kernel_rfl) (by kernel_rfl) (by kernel_rfl) (by exact fun _ _ _ h => h) (Or.inl ⟨by rfl, ?_⟩) (by assumption) ?_; rotate_left; focus (intro w hSw; (try dsimp only at hSw); first | (go_simp; done) | (go_simp; with_reducible rfl))
    (try simp only [Act.put]); (try simp only [List.setIfInBounds_toArray]); (try simp only [List.set_cons_succ]); (try simp only [List.set_cons_zero])
    refine wpAnyH_take (i := 8) (v := ?_) (by simp only [List.getElem?_toArray, List.getElem?_cons_succ, List.getElem?_cons_zero]; rfl) (by kernel_rfl) (by kernel_rfl) (by kernel_rfl) (by exact fun _ _ _ h => h) (Or.inl ⟨by rfl, ?_⟩) (by assumption) ?_; rotate_left; focus (intro w hSw; (try dsimp only at hSw); first | (go_simp; done) | (go_simp; with_reducible rfl))
    (try simp only [Act.put]); (try simp only [List.setIfInBounds_toArray]); (try simp only [List.set_cons_succ]); (try simp only [List.set_cons_zero])
    refine wpAnyH_take (i := 9) (v := ?_) (by simp only [List.getElem?_toArray, List.getElem?_cons_succ, List.getElem?_cons_zero]; rfl) (by kernel_rfl) (by kernel_rfl) (by kernel_rfl) (by exact fun _ _ _ h => h) (Or.inl ⟨by rfl, ?_⟩) (by assumption) ?_; rotate_left; focus (intro w hSw; (try dsimp only at hSw); first | (go_simp; done) | (go_simp; with_reducible rfl))
    (try simp only [Act.put]); (try simp only [List.setIfInBounds_toArray]); (try simp only [List.set_cons_succ]); (try simp only [List.set_cons_zero])
    refine wpAnyH_take (i := 10) (v := ?_) (by simp only [List.getElem?_toArray, List.getElem?_cons_succ, List.getElem?_cons_zero]; rfl) (by kernel_rfl) (by kernel_rfl) (by kernel_rfl) (by exact fun _ _ _ h => h) (Or.inl ⟨by rfl, ?_⟩) (by assumption) ?_; rotate_left; focus (intro w hSw; (try dsimp only at hSw); first | (go_simp; done) | (go_simp; with_reducible rfl))
    (try simp only [Act.put]); (try simp only [List.setIfInBounds_toArray]); (try simp only [List.set_cons_succ]); (try simp only [List.set_cons_zero])
    refine wpAnyH_take (i := 11) (v := ?_) (by simp only [List.getElem?_toArray, List.getElem?_cons_succ, List.getElem?_cons_zero]; rfl) (by kernel_rfl) (by kernel_rfl) (by kernel_rfl) (by exact fun _ _ _ h => h) (Or.inl ⟨by rfl, ?_⟩) (by assumption) ?_; rotate_left; focus (intro w hSw; (try dsimp only at hSw); first | (go_simp; done) | (go_simp; with_reducible rfl))
    (try simp only [Act.put]); (try simp only [List.setIfInBounds_toArray]); (try simp only [List.set_cons_succ]); (try simp only [List.set_cons_zero])
    refine wpAnyH_take (i := 12) (v := ?_) (by simp only [List.getElem?_toArray, List.getElem?_cons_succ, List.getElem?_cons_zero]; rfl) (by kernel_rfl) (by kernel_rfl) (by kernel_rfl) (by exact fun _ _ _ h => h) (Or.inl ⟨by rfl, ?_⟩) (by assumption) ?_; rotate_left; focus (intro w hSw; (try dsimp only at hSw); first | (go_simp; done) | (go_simp; with_reducible rfl))
    (try simp only [Act.put]); (try simp only [List.setIfInBounds_toArray]); (try simp only [List.set_cons_succ]); (try simp only [List.set_cons_zero])
    refine wpAnyH_take (i := 13) (v := ?_) (by simp only [List.getElem?_toArray, List.getElem?_cons_succ, List.getElem?_cons_zero]; rfl) (by kernel_rfl) (by kernel_rfl) (by kernel_rfl) (by exact fun _ _ _ h => h) (Or.inl ⟨by rfl, ?_⟩) (by assumption) ?_; rotate_left; focus (intro w hSw; (try dsimp only at hSw); first | (go_simp; done) | (go_simp; with_reducible rfl))
    (try simp only [Act.put]); (try simp only [List.setIfInBounds_toArray]); (try simp only [List.set_cons_succ]); (try simp only [List.set_cons_zero])
    refine wpAnyH_take (i := 14) (v := ?_) (by simp only [List.getElem?_toArray, List.getElem?_cons_succ, List.getElem?_cons_zero]; rfl) (by kernel_rfl) (by kernel_rfl) (by kernel_rfl) (by exact fun _ _ _ h => h) (Or.inl ⟨by rfl, ?_⟩) (by assumption) ?_; rotate_left; focus (intro w hSw; (try dsimp only at hSw); first | (go_simp; done) | (go_simp; with_reducible rfl))
    (try simp only [Act.put]); (try simp only [List.setIfInBounds_toArray]); (try simp only [List.set_cons_succ]); (try simp only [List.set_cons_zero])
    refine wpAnyH_take (i := 15) (v := ?_) (by simp only [List.getElem?_toArray, List.getElem?_cons_succ, List.getElem?_cons_zero]; rfl) (by kernel_rfl) (by kernel_rfl) (by kernel_rfl) (by exact fun _ _ _ h => h) (Or.inl ⟨by rfl, ?_⟩) (by assumption) ?_; rotate_left; focus (intro w hSw; (try dsimp only at hSw); first | (go_simp; done) | (go_simp; with_reducible rfl))
    (try simp only [Act.put]); (try simp only [List.setIfInBounds_toArray]); (try simp only [List.set_cons_succ]); (try simp only [List.set_cons_zero])
    refine wpAnyH_take (i := 16) (v := ?_) (by simp only [List.getElem?_toArray, List.getElem?_cons_succ, List.getElem?_cons_zero]; rfl) (by kernel_rfl) (by kernel_rfl) (by kernel_rfl) (by exact fun _ _ _ h => h) (Or.inl ⟨by rfl, ?_⟩) (by assumption) ?_; rotate_left; focus (intro w hSw; (try dsimp only at hSw); first | (go_simp; done) | (go_simp; with_reducible rfl))
    (try simp only [Act.put]); (try simp only [List.setIfInBounds_toArray]); (try simp only [List.set_cons_succ]); (try simp only [List.set_cons_zero])
    refine wpAnyH_take (i := 17) (v := ?_) (by simp only [List.getElem?_toArray, List.getElem?_cons_succ, List.getElem?_cons_zero]; rfl) (by kernel_rfl) (by kernel_rfl) (by kernel_rfl) (by exact fun _ _ _ h => h) (Or.inl ⟨by rfl, ?_⟩) (by assumption) ?_; rotate_left; focus (intro w hSw; (try dsimp only at hSw); first | (go_simp; done) | (go_simp; with_reducible rfl))
    (try simp only [Act.put]); (try simp only [List.setIfInBounds_toArray]); (try simp only [List.set_cons_succ]); (try simp only [List.set_cons_zero])
    refine wpAnyH_take (i := 18) (v := ?_) (by simp only [List.getElem?_toArray, List.getElem?_cons_succ, List.getElem?_cons_zero]; rfl) (by kernel_rfl) (by kernel_rfl) (by kernel_rfl) (by exact fun _ _ _ h => h) (Or.inl ⟨by rfl, ?_⟩) (by assumption) ?_; rotate_left; focus (intro w hSw; (try dsimp only at hSw); first | (go_simp; done) | (go_simp; with_reducible rfl))
    (try simp only [Act.put]); (try simp only [List.setIfInBounds_toArray]); (try simp only [List.set_cons_succ]); (try simp only [List.set_cons_zero])
    refine wpAnyH_take (i := 19) (v := ?_) (by simp only [List.getElem?_toArray, List.getElem?_cons_succ, List.getElem?_cons_zero]; rfl) (by kernel_rfl) (by kernel_rfl) (by kernel_rfl) (by exact fun _ _ _ h => h) (Or.inl ⟨by rfl, ?_⟩) (by assumption) ?_; rotate_left; focus (intro w hSw; (try dsimp only at hSw); first | (go_simp; done) | (go_simp; with_reducible rfl))
    (try simp only [Act.put]); (try simp only [List.setIfInBounds_toArray]); (try simp only [List.set_cons_succ]); (try simp only [List.set_cons_zero])
    refine wpAnyH_take (i := 20) (v := ?_) (by simp only [List.getElem?_toArray, List.getElem?_cons_succ, List.getElem?_cons_zero]; rfl) (by kernel_rfl) (by kernel_rfl) (by kernel_rfl) (by exact fun _ _ _ h => h) (Or.inl ⟨by rfl, ?_⟩) (by assumption) ?_; rotate_left; focus (intro w hSw; (try dsimp only at hSw); first | (go_simp; done) | (go_simp; with_reducible rfl))
    (try simp only [Act.put]); (try simp only [List.setIfInBounds_toArray]); (try simp only [List.set_cons_succ]); (try simp only [List.set_cons_zero])
    refine wpAnyH_take (i := 21) (v := ?_) (by simp only [List.getElem?_toArray, List.getElem?_cons_succ, List.getElem?_cons_zero]; rfl) (by kernel_rfl) (by kernel_rfl) (by kernel_rfl) (by exact fun _ _ _ h => h) (Or.inl ⟨by rfl, ?_⟩) (by assumption) ?_; rotate_left; focus (intro w hSw; (try dsimp only at hSw); first | (go_simp; done) | (go_simp; with_reducible rfl))
    (try simp only [Act.put]); (try simp only [List.setIfInBounds_toArray]); (try simp only [List.set_cons_succ]); (try simp only [List.set_cons_zero])
    refine wpAnyH_take (i := 22) (v := ?_) (by simp only [List.getElem?_toArray, List.getElem?_cons_succ, List.getElem?_cons_zero]; rfl) (by kernel_rfl) (by kernel_rfl) (by kernel_rfl) (by exact fun _ _ _ h => h) (Or.inl ⟨by rfl, ?_⟩) (by assumption) ?_; rotate_left; focus (intro w hSw; (try dsimp only at hSw); first | (go_simp; done) | (go_simp; with_reducible rfl))
    (try simp only [Act.put]); (try simp only [List.setIfInBounds_toArray]); (try simp only [List.set_cons_succ]); (try simp only [List.set_cons_zero])
    refine wpAnyH_take (i := 23) (v := ?_) (by simp only [List.getElem?_toArray, List.getElem?_cons_succ, List.getElem?_cons_zero]; rfl) (by kernel_rfl) (by kernel_rfl) (by kernel_rfl) (by exact fun _ _ _ h => h) (Or.inl ⟨by rfl, ?_⟩) (by assumption) ?_; rotate_left; focus (intro w hSw; (try dsimp only at hSw); first | (go_simp; done) | (go_simp; with_reducible rfl))
    (try simp only [Act.put]); (try simp only [List.setIfInBounds_toArray]); (try simp only [List.set_cons_succ]); (try simp only [List.set_cons_zero])
    refine wpAnyH_take (i := 24) (v := ?_) (by simp only [List.getElem?_toArray, List.getElem?_cons_succ, List.getElem?_cons_zero]; rfl) (by kernel_rfl) (by kernel_rfl) (by kernel_rfl) (by exact fun _ _ _ h => h) (Or.inl ⟨by rfl, ?_⟩) (by assumption) ?_; rotate_left; focus (intro w hSw; (try dsimp only at hSw); first | (go_simp; done) | (go_simp; with_reducible rfl))
    (try simp only [Act.put]); (try simp only [List.setIfInBounds_toArray]); (try simp only [List.set_cons_succ]); (try simp only [List.set_cons_zero])
    refine wpAnyH_ready (rs := [25]) (by kernel_rfl) (by simp) ?_
    refine AllReadyH.cons rfl (fun K hK => ?_) (AllReadyH.nil)
    rw [if_pos (by rfl)]
    go_simp
    have BD := BR.out.drew
    go_at_call 57
    refine (implMinutesOn _ _ d (kk : Int) s _ (Rd.out.below BD) Nd.out Ns.out).mono ?_
    rw [HMO.out]
    rintro e wq ⟨rfl, hbk⟩
    have HBK := (Below.refl wr.heap.size wr).drew.trans (hbk.mono (Nat.le_refl _))
    have GQ := Lib.hid (hG.out.below HBK)
    have OQ := Lib.hid (own_below hO.out HBK)
    have QS := Lib.hid (show wq.cell? ⟨w.heap.size, 0, none⟩ = some (.slice Ad0 d.points.length cd0) ∧ wq.cell? ⟨w.heap.size, 1, none⟩ = some (.slice (some ⟨g', o', none⟩) d.segs.length cd1) ∧ wq.cell? ⟨w.heap.size + 1, 0, none⟩ = some (.string s.name) ∧ wq.cell? ⟨w.heap.size + 1, 1, none⟩ = some (.int .i64 s.length) ∧ wq.cell? ⟨w.heap.size + 1, 2, none⟩ = some (.int .i64 s.draught) ∧ wq.cell? ⟨w.heap.size + 1, 3, none⟩ = some (.int .i64 s.line) ∧ wq.cell? ⟨w.heap.size + 1, 4, none⟩ = some (.int .i64 s.tugs) ∧ wq.cell? ⟨w.heap.size + 1, 5, none⟩ = some (.bool s.slow) ∧ wq.cell? ⟨g', o' + kk * 5, none⟩ = some (.int .i64 g.a) ∧ wq.cell? ⟨gp, k, none⟩ = some (.int .i64 p) ∧ wq.cell? ⟨gt, ot + k, none⟩ = some (.int .i64 tm) from ⟨cell_onV F0.out HBK, cell_onV F1.out HBK, cell_onV F2.out HBK, cell_onV F3.out HBK, cell_onV F4.out HBK, cell_onV F5.out HBK, cell_onV F6.out HBK, cell_onV F7.out HBK, cell_onV F8.out HBK, cell_onV F9.out HBK, cell_onV F10.out HBK⟩)
    clear hbk HBK BD
    go_simp
    refine hK.out _ _ QS.out (fun hHeld => ?_)
    clear hK K
    (try simp only [Act.put]); (try simp only [List.setIfInBounds_toArray]); (try simp only [List.set_cons_succ]); (try simp only [List.set_cons_zero])
    refine wpAnyH_take (i := 26) (v := ?_) (by simp only [List.getElem?_toArray, List.getElem?_cons_succ, List.getElem?_cons_zero]; rfl) (by kernel_rfl) (by kernel_rfl) (by kernel_rfl) (by exact fun _ _ _ h => h) (Or.inl ⟨by rfl, ?_⟩) (by assumption) ?_; rotate_left; focus (intro w hSw; (try dsimp only at hSw); first | (go_simp; done) | (go_simp; with_reducible rfl))
    (try simp only [Act.put]); (try simp only [List.setIfInBounds_toArray]); (try simp only [List.set_cons_succ]); (try simp only [List.set_cons_zero])
    refine wpAnyH_take (i := 27) (v := ?_) (by simp only [List.getElem?_toArray, List.getElem?_cons_succ, List.getElem?_cons_zero]; rfl) (by kernel_rfl) (by kernel_rfl) (by kernel_rfl) (by exact fun _ _ _ h => h) (Or.inl ⟨by rfl, ?_⟩) (by assumption) ?_; rotate_left; focus (intro w hSw; (try dsimp only at hSw); first | (go_simp; done) | (go_simp; with_reducible rfl))
    (try simp only [Act.put]); (try simp only [List.setIfInBounds_toArray]); (try simp only [List.set_cons_succ]); (try simp only [List.set_cons_zero])
    refine wpAnyH_ready (rs := [28]) (by kernel_rfl) (by simp) ?_
    refine AllReadyH.cons rfl (fun K hK => ?_) (AllReadyH.nil)
    rw [if_pos (by rfl)]
    go_simp
    have BX := Joins.below_alloc1 wq (.cells #[.int .i64 sh, .int .i64 (kk : Int), .bool eb, .int .i64 tm, .int .i64 (tm + onMin g s)] 67)
    have GA := Lib.hid (GQ.out.below BX)
    have OA := Lib.hid (own_below OQ.out BX)
    have QS := Lib.hid (show (wq.alloc (.cells #[.int .i64 sh, .int .i64 (kk : Int), .bool eb, .int .i64 tm, .int .i64 (tm + onMin g s)] 67)).cell? ⟨w.heap.size, 0, none⟩ = some (.slice Ad0 d.points.length cd0) ∧ (wq.alloc (.cells #[.int .i64 sh, .int .i64 (kk : Int), .bool eb, .int .i64 tm, .int .i64 (tm + onMin g s)] 67)).cell? ⟨w.heap.size, 1, none⟩ = some (.slice (some ⟨g', o', none⟩) d.segs.length cd1) ∧ (wq.alloc (.cells #[.int .i64 sh, .int .i64 (kk : Int), .bool eb, .int .i64 tm, .int .i64 (tm + onMin g s)] 67)).cell? ⟨w.heap.size + 1, 0, none⟩ = some (.string s.name) ∧ (wq.alloc (.cells #[.int .i64 sh, .int .i64 (kk : Int), .bool eb, .int .i64 tm, .int .i64 (tm + onMin g s)] 67)).cell? ⟨w.heap.size + 1, 1, none⟩ = some (.int .i64 s.length) ∧ (wq.alloc (.cells #[.int .i64 sh, .int .i64 (kk : Int), .bool eb, .int .i64 tm, .int .i64 (tm + onMin g s)] 67)).cell? ⟨w.heap.size + 1, 2, none⟩ = some (.int .i64 s.draught) ∧ (wq.alloc (.cells #[.int .i64 sh, .int .i64 (kk : Int), .bool eb, .int .i64 tm, .int .i64 (tm + onMin g s)] 67)).cell? ⟨w.heap.size + 1, 3, none⟩ = some (.int .i64 s.line) ∧ (wq.alloc (.cells #[.int .i64 sh, .int .i64 (kk : Int), .bool eb, .int .i64 tm, .int .i64 (tm + onMin g s)] 67)).cell? ⟨w.heap.size + 1, 4, none⟩ = some (.int .i64 s.tugs) ∧ (wq.alloc (.cells #[.int .i64 sh, .int .i64 (kk : Int), .bool eb, .int .i64 tm, .int .i64 (tm + onMin g s)] 67)).cell? ⟨w.heap.size + 1, 5, none⟩ = some (.bool s.slow) ∧ (wq.alloc (.cells #[.int .i64 sh, .int .i64 (kk : Int), .bool eb, .int .i64 tm, .int .i64 (tm + onMin g s)] 67)).cell? ⟨g', o' + kk * 5, none⟩ = some (.int .i64 g.a) ∧ (wq.alloc (.cells #[.int .i64 sh, .int .i64 (kk : Int), .bool eb, .int .i64 tm, .int .i64 (tm + onMin g s)] 67)).cell? ⟨gp, k, none⟩ = some (.int .i64 p) ∧ (wq.alloc (.cells #[.int .i64 sh, .int .i64 (kk : Int), .bool eb, .int .i64 tm, .int .i64 (tm + onMin g s)] 67)).cell? ⟨gt, ot + k, none⟩ = some (.int .i64 tm) from by obtain ⟨e0, e1, e2, e3, e4, e5, e6, e7, e8, e9, e10⟩ := QS.out; exact ⟨cell_onV e0 BX, cell_onV e1 BX, cell_onV e2 BX, cell_onV e3 BX, cell_onV e4 BX, cell_onV e5 BX, cell_onV e6 BX, cell_onV e7 BX, cell_onV e8 BX, cell_onV e9 BX, cell_onV e10 BX⟩)
    have HNB := Lib.hid (World.news_of_block (heap_alloc_new wq (.cells #[.int .i64 sh, .int .i64 (kk : Int), .bool eb, .int .i64 tm, .int .i64 (tm + onMin g s)] 67)))
    have hsq := GQ.out.size
    clear BX
    refine hK.out _ _ QS.out (fun hHeld => ?_)
    clear hK K
    (try simp only [Act.put]); (try simp only [List.setIfInBounds_toArray]); (try simp only [List.set_cons_succ]); (try simp only [List.set_cons_zero])
    refine wpAnyH_ready (rs := [29]) (by kernel_rfl) (by simp) ?_
    refine AllReadyH.cons rfl (fun K hK => ?_) (AllReadyH.nil)
    refine step_append_lies _ (by rfl) _ _ _ (by rfl) W0.heap.size 67 i0 _ 5 40 Try.underlying78 HI.out.1 HI.out.2.1 HI.out.2.2.1 HI.out.2.2.2 rfl (by omega) (.slice Qa out.length Qc) out.length (out.flatMap PassageD.cells) (by rfl) GA.out.1 ⟨wq.heap.size, 0, none⟩ 1 1 (PassageD.cells (⟨sh, (kk : Int), eb, tm, tm + onMin g s⟩ : PassageD)) (by rfl) (by rfl) HNB.out (passage_one _) (by omega) (by unfold maxLen; omega) (by omega) (by simp; omega) _ rfl ?_
    intro g4 cap4 w4 hown4 hgrow4 hor4 hlt4
    have GX := Lib.hid (GA.out.next (x := (⟨sh, (kk : Int), eb, tm, tm + onMin g s⟩ : PassageD)) hown4 hgrow4)
    have OX := Lib.hid (own_kept OA.out hgrow4 (fun b hv he => hA.out b he hv))
    have AX : Hid (ApartV (.slice (some ⟨g4, 0, none⟩) (out.length + 1) cap4) (.slice (some ⟨gp, 0, none⟩) pts.length cp)) := Lib.hid (fun b hb hv => by simp [Value.ownBlock] at hb; subst hb; exact hor4.elim (fun he => hA.out _ he hv) (fun he => by have h9 := (World.ownsRow.lt OA.out _ hv).2; rw [he] at h9; exact Nat.lt_irrefl _ h9))
    have QS := Lib.hid (show w4.cell? ⟨w.heap.size, 0, none⟩ = some (.slice Ad0 d.points.length cd0) ∧ w4.cell? ⟨w.heap.size, 1, none⟩ = some (.slice (some ⟨g', o', none⟩) d.segs.length cd1) ∧ w4.cell? ⟨w.heap.size + 1, 0, none⟩ = some (.string s.name) ∧ w4.cell? ⟨w.heap.size + 1, 1, none⟩ = some (.int .i64 s.length) ∧ w4.cell? ⟨w.heap.size + 1, 2, none⟩ = some (.int .i64 s.draught) ∧ w4.cell? ⟨w.heap.size + 1, 3, none⟩ = some (.int .i64 s.line) ∧ w4.cell? ⟨w.heap.size + 1, 4, none⟩ = some (.int .i64 s.tugs) ∧ w4.cell? ⟨w.heap.size + 1, 5, none⟩ = some (.bool s.slow) ∧ w4.cell? ⟨g', o' + kk * 5, none⟩ = some (.int .i64 g.a) ∧ w4.cell? ⟨gp, k, none⟩ = some (.int .i64 p) ∧ w4.cell? ⟨gt, ot + k, none⟩ = some (.int .i64 tm) from by obtain ⟨e0, e1, e2, e3, e4, e5, e6, e7, e8, e9, e10⟩ := QS.out; exact ⟨(hgrow4.cell_far _ (World.block_lt_of_cell? _ _ e0) (fun e => by have h9 : W0.heap.size ≤ w.heap.size := (own_ge GA.out.1 e.symm).1; have h8 := hbd; omega)).trans e0, (hgrow4.cell_far _ (World.block_lt_of_cell? _ _ e1) (fun e => by have h9 : W0.heap.size ≤ w.heap.size := (own_ge GA.out.1 e.symm).1; have h8 := hbd; omega)).trans e1, (hgrow4.cell_far _ (World.block_lt_of_cell? _ _ e2) (fun e => by have h9 : W0.heap.size ≤ w.heap.size + 1 := (own_ge GA.out.1 e.symm).1; have h8 := hbs; omega)).trans e2, (hgrow4.cell_far _ (World.block_lt_of_cell? _ _ e3) (fun e => by have h9 : W0.heap.size ≤ w.heap.size + 1 := (own_ge GA.out.1 e.symm).1; have h8 := hbs; omega)).trans e3, (hgrow4.cell_far _ (World.block_lt_of_cell? _ _ e4) (fun e => by have h9 : W0.heap.size ≤ w.heap.size + 1 := (own_ge GA.out.1 e.symm).1; have h8 := hbs; omega)).trans e4, (hgrow4.cell_far _ (World.block_lt_of_cell? _ _ e5) (fun e => by have h9 : W0.heap.size ≤ w.heap.size + 1 := (own_ge GA.out.1 e.symm).1; have h8 := hbs; omega)).trans e5, (hgrow4.cell_far _ (World.block_lt_of_cell? _ _ e6) (fun e => by have h9 : W0.heap.size ≤ w.heap.size + 1 := (own_ge GA.out.1 e.symm).1; have h8 := hbs; omega)).trans e6, (hgrow4.cell_far _ (World.block_lt_of_cell? _ _ e7) (fun e => by have h9 : W0.heap.size ≤ w.heap.size + 1 := (own_ge GA.out.1 e.symm).1; have h8 := hbs; omega)).trans e7, (hgrow4.cell_far _ (World.block_lt_of_cell? _ _ e8) (fun e => by have h9 : W0.heap.size ≤ g' := (own_ge GA.out.1 e.symm).1; have h8 := hbg; omega)).trans e8, (hgrow4.cell_far _ (World.block_lt_of_cell? _ _ e9) (fun e => hA.out _ e.symm rfl)).trans e9, (hgrow4.cell_far _ (World.block_lt_of_cell? _ _ e10) (fun e => by have h9 : W0.heap.size ≤ gt := (own_ge GA.out.1 e.symm).1; have h8 := hbt; omega)).trans e10⟩)
    clear hown4 hgrow4 hor4 hlt4
    refine hK.out _ _ QS.out (fun hHeld => ?_)
    clear hK K
    (try simp only [Act.put]); (try simp only [List.setIfInBounds_toArray]); (try simp only [List.set_cons_succ]); (try simp only [List.set_cons_zero])
    refine wpAnyH_take (i := 30) (v := ?_) (by simp only [List.getElem?_toArray, List.getElem?_cons_succ, List.getElem?_cons_zero]; rfl) (by kernel_rfl) (by kernel_rfl) (by kernel_rfl) (by exact fun _ _ _ h => h) (Or.inl ⟨by rfl, ?_⟩) (by assumption) ?_; rotate_left; focus (intro w hSw; (try dsimp only at hSw); first | (go_simp; done) | (go_simp; with_reducible rfl))
    (try simp only [Act.put]); (try simp only [List.setIfInBounds_toArray]); (try simp only [List.set_cons_succ]); (try simp only [List.set_cons_zero])
    refine wpAnyH_done (by kernel_rfl) ?_ _
    go_wp2
    go_roundw
    case rel => exact ⟨k + 1, out ++ [(⟨sh, (kk : Int), eb, tm, tm + onMin g s⟩ : PassageD)], by omega, by have := HOL.out; simp; omega, by go_num, NX, GX, OX, AX⟩
    case measure => simp [intOf]; omega
end Go.Proofs.Ytooeikimoheecaa
