
/- What ExactSureStarts and ExactOpenStarts and ExactIsSure and ExactIsOpenStart and ExactDraughtFor rests on, part 20: contracts and mathematics. -/
import Derived.Test.YtpimcbhjkednpaaGreatSt6
import Derived.Test.YtpimcbhjkednpaaGreatSt0
import Derived.Test.YtpimcbhjkednpaaGreatSt15
import Derived.Test.YtpimcbhjkednpaaGreatSt16
import Derived.Test.YtpimcbhjkednpaaGreatSt13
namespace Go.Proofs.YtpimcbhjkednpaaGreat
open Go.RowKit
def mvWindow (k : Int) (j : Nat) : Value := .int .i64 (k + (j : Int))
theorem markWindowSC_any (v : Value) (l : List WindowD) (k : Int) (w : World) (h : SlWindow w v l) (hfz : ∀ g, v.ownBlock = some g → ∀ j, w.frozen? ⟨g, j, none⟩ = false) (h0 : 0 ≤ k) (h1 : k ≤ 100000000) (h2 : l.length ≤ 10000000) :
    Calls Tryz.prog 21 #[v, .int .i64 k] w fun e w' => e = .returned (.int .i64 (k + (l.length : Int) * 2)) ∧ MarkedV w' v (l.length * 2) (mvWindow k) ∧ w.grownBy w' v.ownBlock :=
  markWindowS_any v l k w h hfz h0 h1 h2
theorem heldWindowSC_any (v : Value) (len : Nat) (A : Option Addr) (c : Nat) (hv : v = .slice A len c) (k : Int) (w : World) (h : MarkedV w v (len * 2) (mvWindow k)) (h0 : 0 ≤ k) (h1 : k ≤ 100000000) (h2 : len ≤ 10000000) :
    Calls Tryz.prog 22 #[v, .int .i64 k] w fun e w' => e = .returned (.int .i64 (k + (len : Int) * 2)) ∧ Below w.heap.size w w' :=
  (heldWindowS_any v len A c hv k w h h0 h1 h2).mono fun _ _ ⟨he, hw⟩ => ⟨he, hw ▸ Below.refl _ _⟩
end Go.Proofs.YtpimcbhjkednpaaGreat
namespace Go.Proofs.YtpimcbhjkednpaaGreat
set_option maxRecDepth 100000
/-- Another draught from 100 to 2000 changes nothing but the water that is needed. -/
theorem sail_dr {d : ChartD} {i : Int} {s : ShipD} {x : Int} (h : sailB d i s = true) (x0 : 100 ≤ x) (x1 : x ≤ 2000) : sailB d i (withDr s x) = true := by
  unfold sailB at h ⊢
  simp only [Bool.and_eq_true] at h ⊢
  obtain ⟨⟨h1, h2⟩, h3⟩ := h
  obtain ⟨a1, a2, a3, -, -, a4, a5, a6, a7⟩ := shipB_true h2
  refine ⟨⟨h1, ?_⟩, h3⟩
  exact shipB_of (d := withDr s x) (b0 := true) (b1 := true) (b2 := true) (b3 := true) (b4 := true) a1 (inB_mk a2 a3) (inB_mk x0 x1) (inB_mk a4 a5) (inB_mk a6 a7)
theorem min_dr (d : ChartD) (i : Int) (s : ShipD) (x : Int) (h : sailB d i s = true) (x0 : 100 ≤ x) (x1 : x ≤ 2000) : minOn d i (withDr s x) = minOn d i s := by
  obtain ⟨h1, h2, g, hg, -⟩ := sailB_true h
  obtain ⟨k1, k2, g', hg', -⟩ := sailB_true (sail_dr h x0 x1)
  rw [hg] at hg'
  cases hg'
  rw [minOn_ok h1 h2 hg, minOn_ok k1 k2 hg]
  rfl
theorem lev_dr {d : ChartD} {i : Int} {s : ShipD} {x y : Int} (h : sailB d i s = true) (x0 : 100 ≤ x) (hxy : x ≤ y) (y1 : y ≤ 2000) : levForI d i (withDr s x) ≤ levForI d i (withDr s y) := by
  have hx := sail_dr h x0 (by omega : x ≤ 2000)
  have hy := sail_dr h (by omega : 100 ≤ y) y1
  obtain ⟨-, h2, g, hg, -⟩ := sailB_true hx
  obtain ⟨-, k2, g', hg', -⟩ := sailB_true hy
  rw [hg] at hg'
  cases hg'
  rw [levForI_ok hx hg, levForI_ok hy hg, needI_ok h2, needI_ok k2]
  unfold squatI
  rw [if_pos h2, if_pos k2]
  show x + (if s.slow = true then x.tdiv 50 else x.tdiv 20) + 50 - g.depth ≤ y + (if s.slow = true then y.tdiv 50 else y.tdiv 20) + 50 - g.depth
  split
  · rw [Int.tdiv_eq_ediv_of_nonneg (by omega), Int.tdiv_eq_ediv_of_nonneg (by omega)]; omega
  · rw [Int.tdiv_eq_ediv_of_nonneg (by omega), Int.tdiv_eq_ediv_of_nonneg (by omega)]; omega
theorem start_dr {f : ForecastD} {d : ChartD} {i : Int} {s : ShipD} {t x y : Int} (h1 : fcB f.mean f.parts f.surges = true) (h : sailB d i s = true) (x0 : 100 ≤ x) (hxy : x ≤ y) (y1 : y ≤ 2000) (hs : startB false f d i (withDr s y) t = true) : startB false f d i (withDr s x) t = true := by
  obtain ⟨t0, t1, hl⟩ := (start_iff h1 (sail_dr h (by omega) y1)).1 hs
  rw [min_dr d i s y h (by omega) y1] at t1 hl
  refine (start_iff h1 (sail_dr h x0 (by omega))).2 ⟨t0, ?_, ?_⟩
  · rw [min_dr d i s x h x0 (by omega)]; exact t1
  · rw [min_dr d i s x h x0 (by omega)]
    exact fun j hj1 hj2 => Int.le_trans (lev_dr h x0 hxy y1) (hl j hj1 hj2)
/-- The model's way: the least level on the way, then the greatest draught that it bears. -/
theorem draught_way {f : ForecastD} {d : ChartD} {i : Int} {s : ShipD} {t : Int} (h1 : fcB f.mean f.parts f.surges = true) (h2 : sailB d i s = true) (t0 : 0 ≤ t) (t1 : t + minOn d i s ≤ 2880) :
    draughtI f d i s t = greatest (fun x => decide (levForI d i (withDr s x) ≤ leastTo f t (minOn d i s).toNat)) 1901 := by
  obtain ⟨n0, n1⟩ := minOn_bnd h2
  rw [show draughtI f d i s t = greatest (fun x => startB false f d i (withDr s x) t) 1901 from if_pos ⟨h1, h2⟩]
  refine greatest_congr 1901 (fun x x0 x1 => ?_)
  show startB false f d i (withDr s x) t = decide (levForI d i (withDr s x) ≤ leastTo f t (minOn d i s).toNat)
  refine bool_iff ?_
  rw [start_iff h1 (sail_dr h2 x0 (by omega)), min_dr d i s x h2 x0 (by omega), le_leastTo, show ((minOn d i s).toNat : Int) = minOn d i s by omega]
  exact ⟨fun h => h.2.2, fun h => ⟨t0, t1, h⟩⟩
theorem draught_late {f : ForecastD} {d : ChartD} {i : Int} {s : ShipD} {t : Int} (h2 : sailB d i s = true) (ht : ¬ (0 ≤ t ∧ t + minOn d i s ≤ 2880)) : draughtI f d i s t = 0 := by
  unfold draughtI
  split
  · rename_i hc
    refine greatest_none 1901 (fun x x0 x1 => ?_)
    show startB false f d i (withDr s x) t = false
    cases hb : startB false f d i (withDr s x) t with
    | false => rfl
    | true =>
      have := (start_iff hc.1 (sail_dr h2 x0 (by omega))).1 hb
      rw [min_dr d i s x h2 x0 (by omega)] at this
      exact absurd ⟨this.1, this.2.1⟩ ht
  · rfl
theorem draught_bad {f : ForecastD} {d : ChartD} {i : Int} {s : ShipD} {t : Int} (h : fcB f.mean f.parts f.surges = false ∨ sailB d i s = false) : draughtI f d i s t = 0 := if_neg (by rintro ⟨h1, h2⟩; rcases h with h | h <;> simp_all)
end Go.Proofs.YtpimcbhjkednpaaGreat
namespace Go.Proofs.YtpimcbhjkednpaaGreat
open Go.RowKit
set_option maxRecDepth 100000
theorem leastTo_step (f : ForecastD) (t : Int) (k : Nat) : (if endI false f.mean f.parts f.surges (t + (k : Int)) < leastTo f t (k - 1) then endI false f.mean f.parts f.surges (t + (k : Int)) else leastTo f t (k - 1)) = leastTo f t k := by
  cases k with
  | zero =>
    show (if endI false f.mean f.parts f.surges (t + 0) < endI false f.mean f.parts f.surges t then endI false f.mean f.parts f.surges (t + 0) else endI false f.mean f.parts f.surges t) = endI false f.mean f.parts f.surges t
    rw [Int.add_zero, if_neg (Int.lt_irrefl _)]
  | succ k =>
    show _ = min (leastTo f t k) (endI false f.mean f.parts f.surges (t + ((k + 1 : Nat) : Int)))
    rw [Nat.add_sub_cancel]
    split <;> omega
theorem dr_wf {s : ShipD} {y : Int} (h : s.wf) (y0 : 0 ≤ y) (y1 : y ≤ 2000) : (withDr s y).wf := by
  obtain ⟨h1, h2, -, h4, h5⟩ := h
  refine ⟨h1, h2, ?_, h4, h5⟩
  show (Lit.int .i64 y).wf = true
  simp [Lit.wf, IntKind.min, IntKind.max, IntKind.signed, IntKind.bits]
  omega
set_option maxHeartbeats 4000000 in
theorem specDraughtFor (yf0 yf1 : Value) (f : ForecastD) (yd0 yd1 : Value) (d : ChartD) (i : Int) (s : ShipD) (t : Int) (w : World) (rf : RdForecast w yf0 yf1 f) (rd : RdChart w yd0 yd1 d) (fd : ∀ x ∈ d.points, PointD.wf x) (fs : s.wf) :
    Calls Tryz.prog 29 #[.agg #[.int .i64 f.mean, yf0, yf1], .agg #[yd0, yd1], .int .i64 i, s.val, .int .i64 t] w (fun e w' => e = .returned (.int .i64 (draughtI f d i s t)) ∧ Below w.heap.size w w') := by
  have Rf := Lib.hid rf
  obtain ⟨rf0, rf1⟩ := rf
  obtain ⟨Af0, cf0, rfl⟩ := SlOf.form rf0
  obtain ⟨Af1, cf1, rfl⟩ := SlOf.form rf1
  clear rf0 rf1
  have Rd := Lib.hid rd
  obtain ⟨rd0, rd1⟩ := rd
  obtain ⟨Ad0, cd0, rfl⟩ := SlOf.form rd0
  obtain ⟨Ad1, cd1, rfl⟩ := SlOf.form rd1
  have Nd := Lib.hid fd
  clear fd
  clear rd0 rd1
  have Ns := Lib.hid fs
  clear fs
  obtain ⟨W0, hW0⟩ : ∃ W0, W0 = (((w.alloc (.cells #[.int .i64 f.mean, .slice Af0 f.parts.length cf0, .slice Af1 f.surges.length cf1] 44)).alloc (.cells #[.slice Ad0 d.points.length cd0, .slice Ad1 d.segs.length cd1] 49)).alloc (.cells #[.string s.name, .int .i64 s.length, .int .i64 s.draught, .int .i64 s.line, .int .i64 s.tugs, .bool s.slow] 51)) := ⟨_, rfl⟩
  have B := Lib.hid (((Joins.below_alloc1 w (.cells #[.int .i64 f.mean, .slice Af0 f.parts.length cf0, .slice Af1 f.surges.length cf1] 44)).trans ((Joins.below_alloc1 (w.alloc (.cells #[.int .i64 f.mean, .slice Af0 f.parts.length cf0, .slice Af1 f.surges.length cf1] 44)) (.cells #[.slice Ad0 d.points.length cd0, .slice Ad1 d.segs.length cd1] 49)).mono (by simp; try omega))).trans ((Joins.below_alloc1 ((w.alloc (.cells #[.int .i64 f.mean, .slice Af0 f.parts.length cf0, .slice Af1 f.surges.length cf1] 44)).alloc (.cells #[.slice Ad0 d.points.length cd0, .slice Ad1 d.segs.length cd1] 49)) (.cells #[.string s.name, .int .i64 s.length, .int .i64 s.draught, .int .i64 s.line, .int .i64 s.tugs, .bool s.slow] 51)).mono (by simp; try omega)))
  have Kf := Lib.hid (((Blk.new w #[.int .i64 f.mean, .slice Af0 f.parts.length cf0, .slice Af1 f.surges.length cf1] 44).below (Joins.below_alloc1 _ (.cells #[.slice Ad0 d.points.length cd0, .slice Ad1 d.segs.length cd1] 49))).below (Joins.below_alloc1 _ (.cells #[.string s.name, .int .i64 s.length, .int .i64 s.draught, .int .i64 s.line, .int .i64 s.tugs, .bool s.slow] 51)))
  have Kd := Lib.hid ((Blk.new (w.alloc (.cells #[.int .i64 f.mean, .slice Af0 f.parts.length cf0, .slice Af1 f.surges.length cf1] 44)) #[.slice Ad0 d.points.length cd0, .slice Ad1 d.segs.length cd1] 49).below (Joins.below_alloc1 _ (.cells #[.string s.name, .int .i64 s.length, .int .i64 s.draught, .int .i64 s.line, .int .i64 s.tugs, .bool s.slow] 51)))
  rw [World.size_alloc] at Kd
  have Ks := Lib.hid (Blk.new ((w.alloc (.cells #[.int .i64 f.mean, .slice Af0 f.parts.length cf0, .slice Af1 f.surges.length cf1] 44)).alloc (.cells #[.slice Ad0 d.points.length cd0, .slice Ad1 d.segs.length cd1] 49)) #[.string s.name, .int .i64 s.length, .int .i64 s.draught, .int .i64 s.line, .int .i64 s.tugs, .bool s.slow] 51)
  rw [World.size_alloc, World.size_alloc] at Ks
  have HW0 := Lib.hid hW0
  rw [← hW0] at B Kf Kd Ks
  clear hW0
  obtain ⟨tf, htf⟩ : ∃ t, fcB f.mean f.parts f.surges = t := ⟨_, rfl⟩
  have HTF := Lib.hid htf
  obtain ⟨ts, hts⟩ : ∃ t, sailB d i s = t := ⟨_, rfl⟩
  have HTS := Lib.hid hts
  cases tf with
  | false =>
    have E := Lib.hid (draught_bad (d := d) (i := i) (s := s) (t := t) (.inl htf))
    clear htf hts
    go_enter Tryz.func29, Tryz.ntmps29
    have vf0 : W0.cell? ⟨w.heap.size, 0, none⟩ = some (.int .i64 f.mean) := Kf.out.cell 0
    have vf1 : W0.cell? ⟨w.heap.size, 1, none⟩ = some (.slice Af0 f.parts.length cf0) := Kf.out.cell 1
    have vf2 : W0.cell? ⟨w.heap.size, 2, none⟩ = some (.slice Af1 f.surges.length cf1) := Kf.out.cell 2
    have vd0 : W0.cell? ⟨w.heap.size + 1, 0, none⟩ = some (.slice Ad0 d.points.length cd0) := Kd.out.cell 0
    have vd1 : W0.cell? ⟨w.heap.size + 1, 1, none⟩ = some (.slice Ad1 d.segs.length cd1) := Kd.out.cell 1
    have vs0 : W0.cell? ⟨w.heap.size + 2, 0, none⟩ = some (.string s.name) := Ks.out.cell 0
    have vs1 : W0.cell? ⟨w.heap.size + 2, 1, none⟩ = some (.int .i64 s.length) := Ks.out.cell 1
    have vs2 : W0.cell? ⟨w.heap.size + 2, 2, none⟩ = some (.int .i64 s.draught) := Ks.out.cell 2
    have vs3 : W0.cell? ⟨w.heap.size + 2, 3, none⟩ = some (.int .i64 s.line) := Ks.out.cell 3
    have vs4 : W0.cell? ⟨w.heap.size + 2, 4, none⟩ = some (.int .i64 s.tugs) := Ks.out.cell 4
    have vs5 : W0.cell? ⟨w.heap.size + 2, 5, none⟩ = some (.bool s.slow) := Ks.out.cell 5
    go_wp2_with fail
    rw [← HW0.out]
    clear vf0 vf1 vf2 vd0 vd1 vs0 vs1 vs2 vs3 vs4 vs5
    refine (specForecastOk f.mean _ _ f.parts f.surges _ (Rf.out.below B.out).1 (Rf.out.below B.out).2).mono ?_
    rw [HTF.out]
    rintro e w1 ⟨rfl, hb1⟩
    have B1 := Lib.hid (B.out.trans (hb1.mono B.out.size))
    have Kf_1 := Lib.hid (Kf.out.below hb1)
    have Kd_1 := Lib.hid (Kd.out.below hb1)
    have Ks_1 := Lib.hid (Ks.out.below hb1)
    clear hb1
    go_wp2
    go_ret
    exact ⟨ret_int E.out.symm, B1.out⟩
  | true =>
  cases ts with
  | false =>
    have E := Lib.hid (draught_bad (f := f) (t := t) (.inr hts))
    clear htf hts
    go_enter Tryz.func29, Tryz.ntmps29
    have vf0 : W0.cell? ⟨w.heap.size, 0, none⟩ = some (.int .i64 f.mean) := Kf.out.cell 0
    have vf1 : W0.cell? ⟨w.heap.size, 1, none⟩ = some (.slice Af0 f.parts.length cf0) := Kf.out.cell 1
    have vf2 : W0.cell? ⟨w.heap.size, 2, none⟩ = some (.slice Af1 f.surges.length cf1) := Kf.out.cell 2
    have vd0 : W0.cell? ⟨w.heap.size + 1, 0, none⟩ = some (.slice Ad0 d.points.length cd0) := Kd.out.cell 0
    have vd1 : W0.cell? ⟨w.heap.size + 1, 1, none⟩ = some (.slice Ad1 d.segs.length cd1) := Kd.out.cell 1
    have vs0 : W0.cell? ⟨w.heap.size + 2, 0, none⟩ = some (.string s.name) := Ks.out.cell 0
    have vs1 : W0.cell? ⟨w.heap.size + 2, 1, none⟩ = some (.int .i64 s.length) := Ks.out.cell 1
    have vs2 : W0.cell? ⟨w.heap.size + 2, 2, none⟩ = some (.int .i64 s.draught) := Ks.out.cell 2
    have vs3 : W0.cell? ⟨w.heap.size + 2, 3, none⟩ = some (.int .i64 s.line) := Ks.out.cell 3
    have vs4 : W0.cell? ⟨w.heap.size + 2, 4, none⟩ = some (.int .i64 s.tugs) := Ks.out.cell 4
    have vs5 : W0.cell? ⟨w.heap.size + 2, 5, none⟩ = some (.bool s.slow) := Ks.out.cell 5
    go_wp2_with fail
    rw [← HW0.out]
    clear vf0 vf1 vf2 vd0 vd1 vs0 vs1 vs2 vs3 vs4 vs5
    refine (specForecastOk f.mean _ _ f.parts f.surges _ (Rf.out.below B.out).1 (Rf.out.below B.out).2).mono ?_
    rw [HTF.out]
    rintro e w1 ⟨rfl, hb1⟩
    have B1 := Lib.hid (B.out.trans (hb1.mono B.out.size))
    have Kf_1 := Lib.hid (Kf.out.below hb1)
    have Kd_1 := Lib.hid (Kd.out.below hb1)
    have Ks_1 := Lib.hid (Ks.out.below hb1)
    clear hb1
    have vf0 : w1.cell? ⟨w.heap.size, 0, none⟩ = some (.int .i64 f.mean) := Kf_1.out.cell 0
    have vf1 : w1.cell? ⟨w.heap.size, 1, none⟩ = some (.slice Af0 f.parts.length cf0) := Kf_1.out.cell 1
    have vf2 : w1.cell? ⟨w.heap.size, 2, none⟩ = some (.slice Af1 f.surges.length cf1) := Kf_1.out.cell 2
    have vd0 : w1.cell? ⟨w.heap.size + 1, 0, none⟩ = some (.slice Ad0 d.points.length cd0) := Kd_1.out.cell 0
    have vd1 : w1.cell? ⟨w.heap.size + 1, 1, none⟩ = some (.slice Ad1 d.segs.length cd1) := Kd_1.out.cell 1
    have vs0 : w1.cell? ⟨w.heap.size + 2, 0, none⟩ = some (.string s.name) := Ks_1.out.cell 0
    have vs1 : w1.cell? ⟨w.heap.size + 2, 1, none⟩ = some (.int .i64 s.length) := Ks_1.out.cell 1
    have vs2 : w1.cell? ⟨w.heap.size + 2, 2, none⟩ = some (.int .i64 s.draught) := Ks_1.out.cell 2
    have vs3 : w1.cell? ⟨w.heap.size + 2, 3, none⟩ = some (.int .i64 s.line) := Ks_1.out.cell 3
    have vs4 : w1.cell? ⟨w.heap.size + 2, 4, none⟩ = some (.int .i64 s.tugs) := Ks_1.out.cell 4
    have vs5 : w1.cell? ⟨w.heap.size + 2, 5, none⟩ = some (.bool s.slow) := Ks_1.out.cell 5
    go_wp2_with fail
    clear vf0 vf1 vf2 vd0 vd1 vs0 vs1 vs2 vs3 vs4 vs5
    refine (specSail _ _ d i s _ (Rd.out.below B1.out) Nd.out Ns.out).mono ?_
    rw [HTS.out]
    rintro e w2 ⟨rfl, hb2⟩
    have B2 := Lib.hid (B1.out.trans (hb2.mono B1.out.size))
    have Kf_2 := Lib.hid (Kf_1.out.below hb2)
    have Kd_2 := Lib.hid (Kd_1.out.below hb2)
    have Ks_2 := Lib.hid (Ks_1.out.below hb2)
    clear hb2
    go_wp2
    go_ret
    exact ⟨ret_int E.out.symm, B2.out⟩
  | true =>
  obtain ⟨n0, n1⟩ := minOn_bnd hts
  obtain ⟨mn, hmn⟩ : ∃ mn, minOn d i s = mn := ⟨_, rfl⟩
  have HMN := Lib.hid hmn
  rw [hmn] at n0 n1
  have wq : IntKind.i64.wrap (2880 - mn) = 2880 - mn := by rw [IntKind.wrap_i64]; omega
  obtain ⟨ti, hti⟩ : ∃ b, inB t 0 (2880 - mn) = b := ⟨_, rfl⟩
  have HTI := Lib.hid hti
  cases ti with
  | false =>
    have E := Lib.hid (draught_late (f := f) (t := t) hts (by rw [hmn]; intro hc; rw [inB_mk hc.1 (by omega)] at hti; cases hti))
    clear htf hts hmn hti
    go_enter Tryz.func29, Tryz.ntmps29
    have vf0 : W0.cell? ⟨w.heap.size, 0, none⟩ = some (.int .i64 f.mean) := Kf.out.cell 0
    have vf1 : W0.cell? ⟨w.heap.size, 1, none⟩ = some (.slice Af0 f.parts.length cf0) := Kf.out.cell 1
    have vf2 : W0.cell? ⟨w.heap.size, 2, none⟩ = some (.slice Af1 f.surges.length cf1) := Kf.out.cell 2
    have vd0 : W0.cell? ⟨w.heap.size + 1, 0, none⟩ = some (.slice Ad0 d.points.length cd0) := Kd.out.cell 0
    have vd1 : W0.cell? ⟨w.heap.size + 1, 1, none⟩ = some (.slice Ad1 d.segs.length cd1) := Kd.out.cell 1
    have vs0 : W0.cell? ⟨w.heap.size + 2, 0, none⟩ = some (.string s.name) := Ks.out.cell 0
    have vs1 : W0.cell? ⟨w.heap.size + 2, 1, none⟩ = some (.int .i64 s.length) := Ks.out.cell 1
    have vs2 : W0.cell? ⟨w.heap.size + 2, 2, none⟩ = some (.int .i64 s.draught) := Ks.out.cell 2
    have vs3 : W0.cell? ⟨w.heap.size + 2, 3, none⟩ = some (.int .i64 s.line) := Ks.out.cell 3
    have vs4 : W0.cell? ⟨w.heap.size + 2, 4, none⟩ = some (.int .i64 s.tugs) := Ks.out.cell 4
    have vs5 : W0.cell? ⟨w.heap.size + 2, 5, none⟩ = some (.bool s.slow) := Ks.out.cell 5
    go_wp2_with fail
    rw [← HW0.out]
    clear vf0 vf1 vf2 vd0 vd1 vs0 vs1 vs2 vs3 vs4 vs5
    refine (specForecastOk f.mean _ _ f.parts f.surges _ (Rf.out.below B.out).1 (Rf.out.below B.out).2).mono ?_
    rw [HTF.out]
    rintro e w1 ⟨rfl, hb1⟩
    have B1 := Lib.hid (B.out.trans (hb1.mono B.out.size))
    have Kf_1 := Lib.hid (Kf.out.below hb1)
    have Kd_1 := Lib.hid (Kd.out.below hb1)
    have Ks_1 := Lib.hid (Ks.out.below hb1)
    clear hb1
    have vf0 : w1.cell? ⟨w.heap.size, 0, none⟩ = some (.int .i64 f.mean) := Kf_1.out.cell 0
    have vf1 : w1.cell? ⟨w.heap.size, 1, none⟩ = some (.slice Af0 f.parts.length cf0) := Kf_1.out.cell 1
    have vf2 : w1.cell? ⟨w.heap.size, 2, none⟩ = some (.slice Af1 f.surges.length cf1) := Kf_1.out.cell 2
    have vd0 : w1.cell? ⟨w.heap.size + 1, 0, none⟩ = some (.slice Ad0 d.points.length cd0) := Kd_1.out.cell 0
    have vd1 : w1.cell? ⟨w.heap.size + 1, 1, none⟩ = some (.slice Ad1 d.segs.length cd1) := Kd_1.out.cell 1
    have vs0 : w1.cell? ⟨w.heap.size + 2, 0, none⟩ = some (.string s.name) := Ks_1.out.cell 0
    have vs1 : w1.cell? ⟨w.heap.size + 2, 1, none⟩ = some (.int .i64 s.length) := Ks_1.out.cell 1
    have vs2 : w1.cell? ⟨w.heap.size + 2, 2, none⟩ = some (.int .i64 s.draught) := Ks_1.out.cell 2
    have vs3 : w1.cell? ⟨w.heap.size + 2, 3, none⟩ = some (.int .i64 s.line) := Ks_1.out.cell 3
    have vs4 : w1.cell? ⟨w.heap.size + 2, 4, none⟩ = some (.int .i64 s.tugs) := Ks_1.out.cell 4
    have vs5 : w1.cell? ⟨w.heap.size + 2, 5, none⟩ = some (.bool s.slow) := Ks_1.out.cell 5
    go_wp2_with fail
    clear vf0 vf1 vf2 vd0 vd1 vs0 vs1 vs2 vs3 vs4 vs5
    refine (specSail _ _ d i s _ (Rd.out.below B1.out) Nd.out Ns.out).mono ?_
    rw [HTS.out]
    rintro e w2 ⟨rfl, hb2⟩
    have B2 := Lib.hid (B1.out.trans (hb2.mono B1.out.size))
    have Kf_2 := Lib.hid (Kf_1.out.below hb2)
    have Kd_2 := Lib.hid (Kd_1.out.below hb2)
    have Ks_2 := Lib.hid (Ks_1.out.below hb2)
    clear hb2
    have vf0 : w2.cell? ⟨w.heap.size, 0, none⟩ = some (.int .i64 f.mean) := Kf_2.out.cell 0
    have vf1 : w2.cell? ⟨w.heap.size, 1, none⟩ = some (.slice Af0 f.parts.length cf0) := Kf_2.out.cell 1
    have vf2 : w2.cell? ⟨w.heap.size, 2, none⟩ = some (.slice Af1 f.surges.length cf1) := Kf_2.out.cell 2
    have vd0 : w2.cell? ⟨w.heap.size + 1, 0, none⟩ = some (.slice Ad0 d.points.length cd0) := Kd_2.out.cell 0
    have vd1 : w2.cell? ⟨w.heap.size + 1, 1, none⟩ = some (.slice Ad1 d.segs.length cd1) := Kd_2.out.cell 1
    have vs0 : w2.cell? ⟨w.heap.size + 2, 0, none⟩ = some (.string s.name) := Ks_2.out.cell 0
    have vs1 : w2.cell? ⟨w.heap.size + 2, 1, none⟩ = some (.int .i64 s.length) := Ks_2.out.cell 1
    have vs2 : w2.cell? ⟨w.heap.size + 2, 2, none⟩ = some (.int .i64 s.draught) := Ks_2.out.cell 2
    have vs3 : w2.cell? ⟨w.heap.size + 2, 3, none⟩ = some (.int .i64 s.line) := Ks_2.out.cell 3
    have vs4 : w2.cell? ⟨w.heap.size + 2, 4, none⟩ = some (.int .i64 s.tugs) := Ks_2.out.cell 4
    have vs5 : w2.cell? ⟨w.heap.size + 2, 5, none⟩ = some (.bool s.slow) := Ks_2.out.cell 5
    go_wp2_with fail
    clear vf0 vf1 vf2 vd0 vd1 vs0 vs1 vs2 vs3 vs4 vs5
    refine (specMinutesOn _ _ d i s _ (Rd.out.below B2.out) Nd.out Ns.out).mono ?_
    rw [HMN.out]
    rintro e w3 ⟨rfl, hb3⟩
    have B3 := Lib.hid (B2.out.trans (hb3.mono B2.out.size))
    have Kf_3 := Lib.hid (Kf_2.out.below hb3)
    have Kd_3 := Lib.hid (Kd_2.out.below hb3)
    have Ks_3 := Lib.hid (Ks_2.out.below hb3)
    clear hb3
    go_wp2_with fail
    refine (l01In_any _ _ _ _).mono ?_
    rw [HTI.out]
    rintro e wz ⟨rfl, rfl⟩
    go_wp2
    go_ret
    exact ⟨ret_int E.out.symm, B3.out⟩
  | true =>
  have tb : 0 ≤ t ∧ t ≤ 2880 - mn := of_decide_eq_true hti
  obtain ⟨t0, t1⟩ := tb
  have E := Lib.hid (draught_way (t := t) htf hts t0 (by rw [hmn]; omega))
  rw [hmn] at E
  obtain ⟨mk, rfl⟩ : ∃ mk : Nat, mn = (mk : Int) := ⟨mn.toNat, by omega⟩
  rw [Int.toNat_natCast] at E
  have wt : IntKind.i64.wrap (t + (mk : Int)) = t + (mk : Int) := by rw [IntKind.wrap_i64]; omega
  have HT := Lib.hid (And.intro t0 t1)
  clear htf hts hmn hti
  go_enter Tryz.func29, Tryz.ntmps29
  have vf0 : W0.cell? ⟨w.heap.size, 0, none⟩ = some (.int .i64 f.mean) := Kf.out.cell 0
  have vf1 : W0.cell? ⟨w.heap.size, 1, none⟩ = some (.slice Af0 f.parts.length cf0) := Kf.out.cell 1
  have vf2 : W0.cell? ⟨w.heap.size, 2, none⟩ = some (.slice Af1 f.surges.length cf1) := Kf.out.cell 2
  have vd0 : W0.cell? ⟨w.heap.size + 1, 0, none⟩ = some (.slice Ad0 d.points.length cd0) := Kd.out.cell 0
  have vd1 : W0.cell? ⟨w.heap.size + 1, 1, none⟩ = some (.slice Ad1 d.segs.length cd1) := Kd.out.cell 1
  have vs0 : W0.cell? ⟨w.heap.size + 2, 0, none⟩ = some (.string s.name) := Ks.out.cell 0
  have vs1 : W0.cell? ⟨w.heap.size + 2, 1, none⟩ = some (.int .i64 s.length) := Ks.out.cell 1
  have vs2 : W0.cell? ⟨w.heap.size + 2, 2, none⟩ = some (.int .i64 s.draught) := Ks.out.cell 2
  have vs3 : W0.cell? ⟨w.heap.size + 2, 3, none⟩ = some (.int .i64 s.line) := Ks.out.cell 3
  have vs4 : W0.cell? ⟨w.heap.size + 2, 4, none⟩ = some (.int .i64 s.tugs) := Ks.out.cell 4
  have vs5 : W0.cell? ⟨w.heap.size + 2, 5, none⟩ = some (.bool s.slow) := Ks.out.cell 5
  go_wp2_with fail
  rw [← HW0.out]
  clear vf0 vf1 vf2 vd0 vd1 vs0 vs1 vs2 vs3 vs4 vs5
  refine (specForecastOk f.mean _ _ f.parts f.surges _ (Rf.out.below B.out).1 (Rf.out.below B.out).2).mono ?_
  rw [HTF.out]
  rintro e w1 ⟨rfl, hb1⟩
  have B1 := Lib.hid (B.out.trans (hb1.mono B.out.size))
  have Kf_1 := Lib.hid (Kf.out.below hb1)
  have Kd_1 := Lib.hid (Kd.out.below hb1)
  have Ks_1 := Lib.hid (Ks.out.below hb1)
  clear hb1
  have vf0 : w1.cell? ⟨w.heap.size, 0, none⟩ = some (.int .i64 f.mean) := Kf_1.out.cell 0
  have vf1 : w1.cell? ⟨w.heap.size, 1, none⟩ = some (.slice Af0 f.parts.length cf0) := Kf_1.out.cell 1
  have vf2 : w1.cell? ⟨w.heap.size, 2, none⟩ = some (.slice Af1 f.surges.length cf1) := Kf_1.out.cell 2
  have vd0 : w1.cell? ⟨w.heap.size + 1, 0, none⟩ = some (.slice Ad0 d.points.length cd0) := Kd_1.out.cell 0
  have vd1 : w1.cell? ⟨w.heap.size + 1, 1, none⟩ = some (.slice Ad1 d.segs.length cd1) := Kd_1.out.cell 1
  have vs0 : w1.cell? ⟨w.heap.size + 2, 0, none⟩ = some (.string s.name) := Ks_1.out.cell 0
  have vs1 : w1.cell? ⟨w.heap.size + 2, 1, none⟩ = some (.int .i64 s.length) := Ks_1.out.cell 1
  have vs2 : w1.cell? ⟨w.heap.size + 2, 2, none⟩ = some (.int .i64 s.draught) := Ks_1.out.cell 2
  have vs3 : w1.cell? ⟨w.heap.size + 2, 3, none⟩ = some (.int .i64 s.line) := Ks_1.out.cell 3
  have vs4 : w1.cell? ⟨w.heap.size + 2, 4, none⟩ = some (.int .i64 s.tugs) := Ks_1.out.cell 4
  have vs5 : w1.cell? ⟨w.heap.size + 2, 5, none⟩ = some (.bool s.slow) := Ks_1.out.cell 5
  go_wp2_with fail
  clear vf0 vf1 vf2 vd0 vd1 vs0 vs1 vs2 vs3 vs4 vs5
  refine (specSail _ _ d i s _ (Rd.out.below B1.out) Nd.out Ns.out).mono ?_
  rw [HTS.out]
  rintro e w2 ⟨rfl, hb2⟩
  have B2 := Lib.hid (B1.out.trans (hb2.mono B1.out.size))
  have Kf_2 := Lib.hid (Kf_1.out.below hb2)
  have Kd_2 := Lib.hid (Kd_1.out.below hb2)
  have Ks_2 := Lib.hid (Ks_1.out.below hb2)
  clear hb2
  have vf0 : w2.cell? ⟨w.heap.size, 0, none⟩ = some (.int .i64 f.mean) := Kf_2.out.cell 0
  have vf1 : w2.cell? ⟨w.heap.size, 1, none⟩ = some (.slice Af0 f.parts.length cf0) := Kf_2.out.cell 1
  have vf2 : w2.cell? ⟨w.heap.size, 2, none⟩ = some (.slice Af1 f.surges.length cf1) := Kf_2.out.cell 2
  have vd0 : w2.cell? ⟨w.heap.size + 1, 0, none⟩ = some (.slice Ad0 d.points.length cd0) := Kd_2.out.cell 0
  have vd1 : w2.cell? ⟨w.heap.size + 1, 1, none⟩ = some (.slice Ad1 d.segs.length cd1) := Kd_2.out.cell 1
  have vs0 : w2.cell? ⟨w.heap.size + 2, 0, none⟩ = some (.string s.name) := Ks_2.out.cell 0
  have vs1 : w2.cell? ⟨w.heap.size + 2, 1, none⟩ = some (.int .i64 s.length) := Ks_2.out.cell 1
  have vs2 : w2.cell? ⟨w.heap.size + 2, 2, none⟩ = some (.int .i64 s.draught) := Ks_2.out.cell 2
  have vs3 : w2.cell? ⟨w.heap.size + 2, 3, none⟩ = some (.int .i64 s.line) := Ks_2.out.cell 3
  have vs4 : w2.cell? ⟨w.heap.size + 2, 4, none⟩ = some (.int .i64 s.tugs) := Ks_2.out.cell 4
  have vs5 : w2.cell? ⟨w.heap.size + 2, 5, none⟩ = some (.bool s.slow) := Ks_2.out.cell 5
  go_wp2_with fail
  clear vf0 vf1 vf2 vd0 vd1 vs0 vs1 vs2 vs3 vs4 vs5
  refine (specMinutesOn _ _ d i s _ (Rd.out.below B2.out) Nd.out Ns.out).mono ?_
  rw [HMN.out]
  rintro e w3 ⟨rfl, hb3⟩
  have B3 := Lib.hid (B2.out.trans (hb3.mono B2.out.size))
  have Kf_3 := Lib.hid (Kf_2.out.below hb3)
  have Kd_3 := Lib.hid (Kd_2.out.below hb3)
  have Ks_3 := Lib.hid (Ks_2.out.below hb3)
  clear hb3
  go_wp2_with fail
  refine (l01In_any _ _ _ _).mono ?_
  rw [HTI.out]
  rintro e wz ⟨rfl, rfl⟩
  have vf0 : w3.cell? ⟨w.heap.size, 0, none⟩ = some (.int .i64 f.mean) := Kf_3.out.cell 0
  have vf1 : w3.cell? ⟨w.heap.size, 1, none⟩ = some (.slice Af0 f.parts.length cf0) := Kf_3.out.cell 1
  have vf2 : w3.cell? ⟨w.heap.size, 2, none⟩ = some (.slice Af1 f.surges.length cf1) := Kf_3.out.cell 2
  have vd0 : w3.cell? ⟨w.heap.size + 1, 0, none⟩ = some (.slice Ad0 d.points.length cd0) := Kd_3.out.cell 0
  have vd1 : w3.cell? ⟨w.heap.size + 1, 1, none⟩ = some (.slice Ad1 d.segs.length cd1) := Kd_3.out.cell 1
  have vs0 : w3.cell? ⟨w.heap.size + 2, 0, none⟩ = some (.string s.name) := Ks_3.out.cell 0
  have vs1 : w3.cell? ⟨w.heap.size + 2, 1, none⟩ = some (.int .i64 s.length) := Ks_3.out.cell 1
  have vs2 : w3.cell? ⟨w.heap.size + 2, 2, none⟩ = some (.int .i64 s.draught) := Ks_3.out.cell 2
  have vs3 : w3.cell? ⟨w.heap.size + 2, 3, none⟩ = some (.int .i64 s.line) := Ks_3.out.cell 3
  have vs4 : w3.cell? ⟨w.heap.size + 2, 4, none⟩ = some (.int .i64 s.tugs) := Ks_3.out.cell 4
  have vs5 : w3.cell? ⟨w.heap.size + 2, 5, none⟩ = some (.bool s.slow) := Ks_3.out.cell 5
  go_wp2_with fail
  refine (specLowAt f.mean _ _ f.parts f.surges t _ (Rf.out.below B3.out).1 (Rf.out.below B3.out).2).mono ?_
  rintro e w4 ⟨rfl, hb4⟩
  have B4 := Lib.hid (B3.out.trans (hb4.mono B3.out.size))
  have Kf_4 := Lib.hid (Kf_3.out.below hb4)
  have Kd_4 := Lib.hid (Kd_3.out.below hb4)
  have Ks_4 := Lib.hid (Ks_3.out.below hb4)
  clear hb4
  go_wp2
  go_loopw [11, 12] (fun q p wr => ∃ k : Nat, k ≤ mk + 1 ∧ p = .int .i64 (t + (k : Int)) ∧ q = .int .i64 (leastTo f t (k - 1)) ∧ Hid (Below w4.heap.size w4 wr)) (fun _ p _ => (t + (mk : Int) + 1 - intOf p).toNat)
  case atStart => exact ⟨0, by omega, by simp, rfl, Lib.hid (Below.refl _ _)⟩
  case round =>
    obtain ⟨k, hk, rfl, rfl, hB⟩ := hrel
    have BR := Lib.hid (B4.out.trans (hB.out.mono B4.out.size))
    have Kf_r := Lib.hid (Kf_4.out.below hB.out)
    have Kd_r := Lib.hid (Kd_4.out.below hB.out)
    have Ks_r := Lib.hid (Ks_4.out.below hB.out)
    have vf0 : wr.cell? ⟨w.heap.size, 0, none⟩ = some (.int .i64 f.mean) := Kf_r.out.cell 0
    have vf1 : wr.cell? ⟨w.heap.size, 1, none⟩ = some (.slice Af0 f.parts.length cf0) := Kf_r.out.cell 1
    have vf2 : wr.cell? ⟨w.heap.size, 2, none⟩ = some (.slice Af1 f.surges.length cf1) := Kf_r.out.cell 2
    have vd0 : wr.cell? ⟨w.heap.size + 1, 0, none⟩ = some (.slice Ad0 d.points.length cd0) := Kd_r.out.cell 0
    have vd1 : wr.cell? ⟨w.heap.size + 1, 1, none⟩ = some (.slice Ad1 d.segs.length cd1) := Kd_r.out.cell 1
    have vs0 : wr.cell? ⟨w.heap.size + 2, 0, none⟩ = some (.string s.name) := Ks_r.out.cell 0
    have vs1 : wr.cell? ⟨w.heap.size + 2, 1, none⟩ = some (.int .i64 s.length) := Ks_r.out.cell 1
    have vs2 : wr.cell? ⟨w.heap.size + 2, 2, none⟩ = some (.int .i64 s.draught) := Ks_r.out.cell 2
    have vs3 : wr.cell? ⟨w.heap.size + 2, 3, none⟩ = some (.int .i64 s.line) := Ks_r.out.cell 3
    have vs4 : wr.cell? ⟨w.heap.size + 2, 4, none⟩ = some (.int .i64 s.tugs) := Ks_r.out.cell 4
    have vs5 : wr.cell? ⟨w.heap.size + 2, 5, none⟩ = some (.bool s.slow) := Ks_r.out.cell 5
    go_wp2_with fail
    clear vf0 vf1 vf2 vd0 vd1 vs0 vs1 vs2 vs3 vs4 vs5
    refine (specMinutesOn _ _ d i s _ (Rd.out.below BR.out) Nd.out Ns.out).mono ?_
    rw [HMN.out]
    rintro e w5 ⟨rfl, hb5⟩
    have B5 := Lib.hid (BR.out.trans (hb5.mono BR.out.size))
    have Kf_5 := Lib.hid (Kf_r.out.below hb5)
    have Kd_5 := Lib.hid (Kd_r.out.below hb5)
    have Ks_5 := Lib.hid (Ks_r.out.below hb5)
    have Q1 := Lib.hid hb5
    clear hb5
    by_cases hlt : k < mk + 1
    · have ST := Lib.hid (leastTo_step f t k)
      obtain ⟨lk, hlk⟩ : ∃ lk, leastTo f t (k - 1) = lk := ⟨_, rfl⟩
      obtain ⟨lv, hlv⟩ : ∃ lv, endI false f.mean f.parts f.surges (t + (k : Int)) = lv := ⟨_, rfl⟩
      rw [hlk, hlv] at ST
      have HLV := Lib.hid hlv
      rw [hlk]
      clear hlk hlv
      have wk : IntKind.i64.wrap (t + (k : Int) + 1) = t + ((k + 1 : Nat) : Int) := by rw [IntKind.wrap_i64]; have := HT.out; omega
      have hle : t + (k : Int) ≤ t + (mk : Int) := by omega
      have vf0 : w5.cell? ⟨w.heap.size, 0, none⟩ = some (.int .i64 f.mean) := Kf_5.out.cell 0
      have vf1 : w5.cell? ⟨w.heap.size, 1, none⟩ = some (.slice Af0 f.parts.length cf0) := Kf_5.out.cell 1
      have vf2 : w5.cell? ⟨w.heap.size, 2, none⟩ = some (.slice Af1 f.surges.length cf1) := Kf_5.out.cell 2
      have vd0 : w5.cell? ⟨w.heap.size + 1, 0, none⟩ = some (.slice Ad0 d.points.length cd0) := Kd_5.out.cell 0
      have vd1 : w5.cell? ⟨w.heap.size + 1, 1, none⟩ = some (.slice Ad1 d.segs.length cd1) := Kd_5.out.cell 1
      have vs0 : w5.cell? ⟨w.heap.size + 2, 0, none⟩ = some (.string s.name) := Ks_5.out.cell 0
      have vs1 : w5.cell? ⟨w.heap.size + 2, 1, none⟩ = some (.int .i64 s.length) := Ks_5.out.cell 1
      have vs2 : w5.cell? ⟨w.heap.size + 2, 2, none⟩ = some (.int .i64 s.draught) := Ks_5.out.cell 2
      have vs3 : w5.cell? ⟨w.heap.size + 2, 3, none⟩ = some (.int .i64 s.line) := Ks_5.out.cell 3
      have vs4 : w5.cell? ⟨w.heap.size + 2, 4, none⟩ = some (.int .i64 s.tugs) := Ks_5.out.cell 4
      have vs5 : w5.cell? ⟨w.heap.size + 2, 5, none⟩ = some (.bool s.slow) := Ks_5.out.cell 5
      go_wp2_with fail
      clear vf0 vf1 vf2 vd0 vd1 vs0 vs1 vs2 vs3 vs4 vs5
      refine (specLowAt f.mean _ _ f.parts f.surges _ _ (Rf.out.below B5.out).1 (Rf.out.below B5.out).2).mono ?_
      rw [HLV.out]
      rintro e w6 ⟨rfl, hb6⟩
      have B6 := Lib.hid (B5.out.trans (hb6.mono B5.out.size))
      have Kf_6 := Lib.hid (Kf_5.out.below hb6)
      have Kd_6 := Lib.hid (Kd_5.out.below hb6)
      have Ks_6 := Lib.hid (Ks_5.out.below hb6)
      have QB := Lib.hid (Q1.out.trans (hb6.mono Q1.out.size))
      clear hb6
      go_wp2
      go_roundw
      case rel =>
        refine ⟨k + 1, by omega, ?_, congrArg (Value.int .i64) ST.out, Lib.hid ?_⟩
        · first | rfl | exact congrArg (Value.int .i64) wk | (simp; omega)
        · exact hB.out.trans (QB.out.mono hB.out.size)
      case measure => simp [intOf]; omega
    · obtain rfl : k = mk + 1 := by omega
      have EE := Lib.hid E.out
      rw [Nat.add_sub_cancel]
      obtain ⟨lst, hlst⟩ : ∃ lst, leastTo f t mk = lst := ⟨_, rfl⟩
      rw [hlst] at EE ⊢
      clear hlst
      have hgt : ¬ (t + ((mk + 1 : Nat) : Int) ≤ t + (mk : Int)) := by omega
      go_wp2
      go_loopw [13] (fun p wr2 => ∃ (k : Nat) (x : Int), k ≤ 1901 ∧ p = .int .i64 (99 + (k : Int)) ∧ Hid (draughtI f d i s t = greatest (fun x => decide (levForI d i (withDr s x) ≤ lst)) k) ∧ Hid (Below w.heap.size w wr2) ∧ Hid (Blk wr2 w.heap.size #[.int .i64 f.mean, .slice Af0 f.parts.length cf0, .slice Af1 f.surges.length cf1] 44) ∧ Hid (Blk wr2 (w.heap.size + 1) #[.slice Ad0 d.points.length cd0, .slice Ad1 d.segs.length cd1] 49) ∧ Hid (Blk wr2 (w.heap.size + 2) #[.string s.name, .int .i64 s.length, .int .i64 x, .int .i64 s.line, .int .i64 s.tugs, .bool s.slow] 51)) (fun p _ => (intOf p - 99).toNat)
      case atStart => exact ⟨1901, s.draught, by omega, rfl, EE, B5, Kf_5, Kd_5, Ks_5⟩
      case round =>
        obtain ⟨k, x, hk, rfl, hE, hB2, hF, hC, hS⟩ := hrel
        cases k with
        | zero =>
          go_wp2
          go_ret
          exact ⟨ret_int hE.out.symm, hB2.out⟩
        | succ k =>
          obtain ⟨y, hy⟩ : ∃ y, 99 + ((k + 1 : Nat) : Int) = y := ⟨_, rfl⟩
          have HY := Lib.hid hy
          have y0 : 100 ≤ y := by omega
          have y1 : y ≤ 2000 := by omega
          have EG : Hid (draughtI f d i s t = if (fun x => decide (levForI d i (withDr s x) ≤ lst)) y = true then y else greatest (fun x => decide (levForI d i (withDr s x) ≤ lst)) k) := Lib.hid (by rw [hE.out, ← hy]; rfl)
          rw [hy]
          clear hy
          have BX := Lib.hid (Below.setCell hB2.out (p := ⟨w.heap.size + 2, 2, none⟩) (by show w.heap.size ≤ w.heap.size + 2; omega) (.int .i64 y))
          have s0 : wr.cell? ⟨w.heap.size + 2, 0, none⟩ = some (.string s.name) := hS.out.cell 0
          have g0 : wr.frozen? ⟨w.heap.size + 2, 0, none⟩ = false := hS.out.free 0
          have s1 : wr.cell? ⟨w.heap.size + 2, 1, none⟩ = some (.int .i64 s.length) := hS.out.cell 1
          have g1 : wr.frozen? ⟨w.heap.size + 2, 1, none⟩ = false := hS.out.free 1
          have s2 : wr.cell? ⟨w.heap.size + 2, 2, none⟩ = some (.int .i64 x) := hS.out.cell 2
          have g2 : wr.frozen? ⟨w.heap.size + 2, 2, none⟩ = false := hS.out.free 2
          have s3 : wr.cell? ⟨w.heap.size + 2, 3, none⟩ = some (.int .i64 s.line) := hS.out.cell 3
          have g3 : wr.frozen? ⟨w.heap.size + 2, 3, none⟩ = false := hS.out.free 3
          have s4 : wr.cell? ⟨w.heap.size + 2, 4, none⟩ = some (.int .i64 s.tugs) := hS.out.cell 4
          have g4 : wr.frozen? ⟨w.heap.size + 2, 4, none⟩ = false := hS.out.free 4
          have s5 : wr.cell? ⟨w.heap.size + 2, 5, none⟩ = some (.bool s.slow) := hS.out.cell 5
          have g5 : wr.frozen? ⟨w.heap.size + 2, 5, none⟩ = false := hS.out.free 5
          have p0 : wr.cell? ⟨w.heap.size + 1, 0, none⟩ = some (.slice Ad0 d.points.length cd0) := hC.out.cell 0
          have p1 : wr.cell? ⟨w.heap.size + 1, 1, none⟩ = some (.slice Ad1 d.segs.length cd1) := hC.out.cell 1
          obtain ⟨lv2, hlv2⟩ : ∃ z, levForI d i (withDr s y) = z := ⟨_, rfl⟩
          have HL2 := Lib.hid hlv2
          simp only [hlv2] at EG
          clear hlv2
          have KF := Lib.hid (hF.out.other (b' := w.heap.size + 2) (by omega) 2 (.int .i64 y))
          have KC := Lib.hid (hC.out.other (b' := w.heap.size + 2) (by omega) 2 (.int .i64 y))
          have KS : Hid (Blk (wr.setCell ⟨w.heap.size + 2, 2, none⟩ (.int .i64 y)) (w.heap.size + 2) #[.string s.name, .int .i64 s.length, .int .i64 y, .int .i64 s.line, .int .i64 s.tugs, .bool s.slow] 51) := Lib.hid (hS.out.set 2 (.int .i64 y))
          go_wp2_with fail
          clear s0 s1 s2 s3 s4 s5 g0 g1 g2 g3 g4 g5 p0 p1
          refine (specLevelFor _ _ d i (withDr s y) _ (Rd.out.below BX.out) Nd.out (dr_wf Ns.out (by omega) y1)).mono ?_
          rw [HL2.out]
          rintro e wv ⟨rfl, hbv⟩
          have BV := Lib.hid (BX.out.trans (hbv.mono BX.out.size))
          have KF2 := Lib.hid (KF.out.below hbv)
          have KC2 := Lib.hid (KC.out.below hbv)
          have KS2 := Lib.hid (KS.out.below hbv)
          clear hbv
          by_cases hge : lv2 ≤ lst
          · have hy : draughtI f d i s t = y := by rw [EG.out]; simp [hge]
            have HYY := Lib.hid hy
            clear hy
            go_wp2
            go_ret
            exact ⟨ret_int HYY.out.symm, BV.out⟩
          · have hy : draughtI f d i s t = greatest (fun x => decide (levForI d i (withDr s x) ≤ lst)) k := by rw [EG.out]; simp [hge]
            have HYY := Lib.hid hy
            have hk2 : IntKind.i64.wrap (y - 1) = 99 + (k : Int) := by rw [IntKind.wrap_i64]; have := HY.out; omega
            clear hy
            go_wp2
            go_roundw
            case rel => exact ⟨k, y, by omega, by first | rfl | exact congrArg (Value.int .i64) hk2, HYY, BV, KF2, KC2, KS2⟩
            case measure => simp [intOf]; have := HY.out; omega
end Go.Proofs.YtpimcbhjkednpaaGreat
namespace Go.Proofs.YtpimcbhjkednpaaGreat
set_option maxRecDepth 100000
theorem sail_dr' {d : ChartD} {i : Int} {s : ShipD} {x : Int} (hs : shipB s = true) (h : sailB d i s = false) : sailB d i (withDr s x) = false := by
  unfold sailB at h ⊢
  rw [hs] at h
  cases h1 : chartB d with
  | false => rfl
  | true =>
    rw [h1] at h
    have h3 : inB i 0 ((d.segs.length : Int) - 1) = false := by simpa using h
    rw [h3]
    simp
theorem start_bad {f : ForecastD} {d : ChartD} {i : Int} {s : ShipD} {t : Int} (h : fcB f.mean f.parts f.surges = false ∨ sailB d i s = false) : startB false f d i s t = false := by
  unfold startB
  rw [startsL_bad h]
  rfl
/-- Is the ship with the draught 100 + m not sure? -/
def notSure (f : ForecastD) (d : ChartD) (i : Int) (s : ShipD) (t : Int) (m : Nat) : Bool := !startB false f d i (withDr s (100 + (m : Int))) t
theorem notSure_mono {f : ForecastD} {d : ChartD} {i : Int} {s : ShipD} {t : Int} (hs : shipB s = true) (a b : Nat) (hab : a ≤ b) (hb : b < 1901) (h : notSure f d i s t a = true) : notSure f d i s t b = true := by
  unfold notSure at h ⊢
  cases hc : startB false f d i (withDr s (100 + (b : Int))) t with
  | false => rfl
  | true =>
    cases h1 : fcB f.mean f.parts f.surges with
    | false => rw [start_bad (.inl h1)] at hc; cases hc
    | true =>
      cases h2 : sailB d i s with
      | false => rw [start_bad (.inr (sail_dr' hs h2))] at hc; cases hc
      | true =>
        have := start_dr (x := 100 + (a : Int)) h1 h2 (by omega) (by omega) (by omega) hc
        rw [this] at h
        cases h
theorem greatest_skip {p : Int → Bool} {r : Nat} : ∀ k : Nat, r ≤ k → (∀ x : Int, 99 + (r : Int) < x → x ≤ 99 + (k : Int) → p x = false) → greatest p k = greatest p r := by
  intro k
  induction k with
  | zero => intro h _; rw [show r = 0 by omega]
  | succ k ih =>
    intro h hp
    by_cases e : r = k + 1
    · rw [e]
    · show (if p (99 + ((k + 1 : Nat) : Int)) = true then _ else greatest p k) = _
      rw [hp _ (by omega) (by omega), if_neg (by simp)]
      exact ih (by omega) (fun x h1 h2 => hp x h1 (by omega))
theorem draught_found {f : ForecastD} {d : ChartD} {i : Int} {s : ShipD} {t : Int} {r : Nat} (hs : shipB s = true) (hr : r ≤ 1901) (h1 : ∀ m, m < r → notSure f d i s t m = false) (h2 : ∀ m, r ≤ m → m < 1901 → notSure f d i s t m = true) :
    draughtI f d i s t = if r = 0 then 0 else 99 + (r : Int) := by
  have hyes : ∀ m, m < r → startB false f d i (withDr s (100 + (m : Int))) t = true := fun m hm => by
    have := h1 m hm
    unfold notSure at this
    simpa using this
  have hno : ∀ m, r ≤ m → m < 1901 → startB false f d i (withDr s (100 + (m : Int))) t = false := fun m hm hm' => by
    have := h2 m hm hm'
    unfold notSure at this
    simpa using this
  have bad : (fcB f.mean f.parts f.surges = false ∨ sailB d i s = false) → draughtI f d i s t = if r = 0 then 0 else 99 + (r : Int) := by
    intro hb
    rw [draught_bad hb]
    by_cases e : r = 0
    · rw [if_pos e]
    · have := hyes 0 (by omega)
      rw [start_bad (by
        rcases hb with hb | hb
        · exact .inl hb
        · exact .inr (sail_dr' hs hb))] at this
      cases this
  cases hf : fcB f.mean f.parts f.surges with
  | false => exact bad (.inl hf)
  | true =>
    cases hc : sailB d i s with
    | false => exact bad (.inr hc)
    | true =>
      rw [show draughtI f d i s t = greatest (fun x => startB false f d i (withDr s x) t) 1901 from if_pos ⟨hf, hc⟩]
      rw [greatest_skip (r := r) 1901 hr (fun x x0 x1 => by
        have := hno (x - 100).toNat (by omega) (by omega)
        rw [show (100 : Int) + ((x - 100).toNat : Int) = x by omega] at this
        exact this)]
      cases r with
      | zero => rfl
      | succ k =>
        have := hyes k (by omega)
        show (if startB false f d i (withDr s (99 + ((k + 1 : Nat) : Int))) t = true then _ else _) = _
        rw [show (99 : Int) + ((k + 1 : Nat) : Int) = 100 + (k : Int) by omega, this, if_pos rfl, if_neg (by omega)]
end Go.Proofs.YtpimcbhjkednpaaGreat
