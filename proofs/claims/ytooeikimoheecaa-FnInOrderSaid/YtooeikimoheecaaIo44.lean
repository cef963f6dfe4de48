
/- What InOrderLaw rests on, part 44: contracts and mathematics. -/
import Derived.Test.YtooeikimoheecaaIo43
import Derived.Test.YtooeikimoheecaaIo38
import Derived.Test.YtooeikimoheecaaIo27
import Derived.Test.YtooeikimoheecaaIo24
import Derived.Test.YtooeikimoheecaaIo6
import Derived.StillTailTactics
import Derived.Deep.DeepCutAuto
namespace Go.Proofs.Ytooeikimoheecaa
open Go.RowKit
set_option maxRecDepth 100000
theorem legr_one (A : Option Addr) (n c : Nat) (L : List WindowD) (m : Int) (b : Bool) : ∀ u ∈ LegR.cells ⟨⟨.slice A n c, L⟩, m, b⟩, u.oneCell' = true := fun u hu => by simp [LegR.cells] at hu; rcases hu with rfl | rfl | rfl <;> rfl
theorem legs_small {f : ForecastD} {d : ChartD} {s : ShipD} {p r : List Int} {rows : List LegR} (h : rows.map LegR.d = legsL f d s p r) : ∀ x ∈ rows, x.win.sure.length ≤ 1000000000 := fun x hx => by
  have h1 : x.d ∈ legsL f d s p r := by rw [← h]; exact List.mem_map_of_mem hx
  obtain ⟨i, _, e⟩ := List.mem_map.1 h1
  have e2 : x.win.sure = startsL false f d i.1 s := by have := congrArg LegD.sure e; exact this.symm
  rw [e2]
  have := starts_len false f d i.1 s
  omega
theorem info_leg : ∃ i0, Try.prog.info? 145 = some i0 ∧ i0.zero = some (.agg #[.slice none 0 0, .int .i64 0, .bool false]) ∧ i0.size = 3 ∧ i0.bytes = 40 := by
  have h : (Try.prog.info? 145).map (fun i => (i.zero, i.size, i.bytes)) = some (some (.agg #[.slice none 0 0, .int .i64 0, .bool false]), 3, 40) := by kernel_rfl
  exact info_parts h
/-- What legsOf leaves. -/
def LegsPost (f : ForecastD) (d : ChartD) (s : ShipD) (fr : Int) (r : List Int) (w : World) (e : Ending) (w' : World) : Prop :=
  ∃ v rows, e = .returned v ∧ rows.map LegR.d = (if routeB d fr r = true then legsL f d s (rteL d fr r) r else []) ∧ RdLegs w' v rows ∧ Below w.heap.size w w'
set_option maxHeartbeats 8000000 in
theorem legsOf_any (yf0 yf1 : Value) (f : ForecastD) (yd0 yd1 : Value) (d : ChartD) (s : ShipD) (fr : Int) (yr : Value) (r : List Int) (w : World) (rf : RdForecast w yf0 yf1 f) (rd : RdChart w yd0 yd1 d) (rr : SlInt w yr r) (fd : ∀ x ∈ d.points, PointD.wf x) (fs : s.wf) :
    Calls Try.prog 50 #[.agg #[.int .i64 f.mean, yf0, yf1], .agg #[yd0, yd1], s.val, .int .i64 fr, yr] w (LegsPost f d s fr r w) := by
  have Rf := Lib.hid rf
  obtain ⟨rf0, rf1⟩ := rf
  obtain ⟨Af0, cf0, rfl⟩ := SlOf.form rf0
  obtain ⟨Af1, cf1, rfl⟩ := SlOf.form rf1
  clear rf0 rf1
  have Rd := Lib.hid rd
  obtain ⟨rd0, rd1⟩ := rd
  obtain ⟨Ad0, cd0, rfl⟩ := SlOf.form rd0
  obtain ⟨Ad1, cd1, rfl⟩ := SlOf.form rd1
  have Nd := Lib.hid fd
  clear fd
  clear rd0 rd1
  have Ns := Lib.hid fs
  clear fs
  have Rr := Lib.hid rr
  obtain ⟨Ar, cr, rfl⟩ := SlOf.form rr
  clear rr
  obtain ⟨W0, hW0⟩ : ∃ W0, W0 = (((w.alloc (.cells #[.int .i64 f.mean, .slice Af0 f.parts.length cf0, .slice Af1 f.surges.length cf1] 28)).alloc (.cells #[.slice Ad0 d.points.length cd0, .slice Ad1 d.segs.length cd1] 32)).alloc (.cells #[.string s.name, .int .i64 s.length, .int .i64 s.draught, .int .i64 s.line, .int .i64 s.tugs, .bool s.slow] 46)) := ⟨_, rfl⟩
  have B := Lib.hid (((Joins.below_alloc1 w (.cells #[.int .i64 f.mean, .slice Af0 f.parts.length cf0, .slice Af1 f.surges.length cf1] 28)).trans ((Joins.below_alloc1 (w.alloc (.cells #[.int .i64 f.mean, .slice Af0 f.parts.length cf0, .slice Af1 f.surges.length cf1] 28)) (.cells #[.slice Ad0 d.points.length cd0, .slice Ad1 d.segs.length cd1] 32)).mono (by simp; try omega))).trans ((Joins.below_alloc1 ((w.alloc (.cells #[.int .i64 f.mean, .slice Af0 f.parts.length cf0, .slice Af1 f.surges.length cf1] 28)).alloc (.cells #[.slice Ad0 d.points.length cd0, .slice Ad1 d.segs.length cd1] 32)) (.cells #[.string s.name, .int .i64 s.length, .int .i64 s.draught, .int .i64 s.line, .int .i64 s.tugs, .bool s.slow] 46)).mono (by simp; try omega)))
  have Kf := Lib.hid (((Blk.new w #[.int .i64 f.mean, .slice Af0 f.parts.length cf0, .slice Af1 f.surges.length cf1] 28).below (Joins.below_alloc1 _ (.cells #[.slice Ad0 d.points.length cd0, .slice Ad1 d.segs.length cd1] 32))).below (Joins.below_alloc1 _ (.cells #[.string s.name, .int .i64 s.length, .int .i64 s.draught, .int .i64 s.line, .int .i64 s.tugs, .bool s.slow] 46)))
  have Kd := Lib.hid ((Blk.new (w.alloc (.cells #[.int .i64 f.mean, .slice Af0 f.parts.length cf0, .slice Af1 f.surges.length cf1] 28)) #[.slice Ad0 d.points.length cd0, .slice Ad1 d.segs.length cd1] 32).below (Joins.below_alloc1 _ (.cells #[.string s.name, .int .i64 s.length, .int .i64 s.draught, .int .i64 s.line, .int .i64 s.tugs, .bool s.slow] 46)))
  rw [World.size_alloc] at Kd
  have Ks := Lib.hid (Blk.new ((w.alloc (.cells #[.int .i64 f.mean, .slice Af0 f.parts.length cf0, .slice Af1 f.surges.length cf1] 28)).alloc (.cells #[.slice Ad0 d.points.length cd0, .slice Ad1 d.segs.length cd1] 32)) #[.string s.name, .int .i64 s.length, .int .i64 s.draught, .int .i64 s.line, .int .i64 s.tugs, .bool s.slow] 46)
  rw [World.size_alloc, World.size_alloc] at Ks
  have HW0 := Lib.hid hW0
  rw [← hW0] at B Kf Kd Ks
  clear hW0
  have hdl := Rd.out.2.1
  have hrl := Rr.out.1
  obtain ⟨b1, hb1⟩ : ∃ b, routeB d fr r = b := ⟨_, rfl⟩
  have H1 := Lib.hid hb1
  obtain ⟨pts, hpts⟩ : ∃ p, rteL d fr r = p := ⟨_, rfl⟩
  have HPT := Lib.hid hpts
  cases b1 with
  | false =>
    have hpz : pts = [] := by rw [← hpts]; exact if_neg (by rw [hb1]; simp)
    subst hpz
    have E := Lib.hid (show (if false = true then legsL f d s [] r else []) = ([] : List LegD) from rfl)
    clear hb1 hpts
    go_enter Try.func50, Try.ntmps50
    have vf0 : W0.cell? ⟨w.heap.size, 0, none⟩ = some (.int .i64 f.mean) := Kf.out.cell 0
    have vf1 : W0.cell? ⟨w.heap.size, 1, none⟩ = some (.slice Af0 f.parts.length cf0) := Kf.out.cell 1
    have vf2 : W0.cell? ⟨w.heap.size, 2, none⟩ = some (.slice Af1 f.surges.length cf1) := Kf.out.cell 2
    have vd0 : W0.cell? ⟨w.heap.size + 1, 0, none⟩ = some (.slice Ad0 d.points.length cd0) := Kd.out.cell 0
    have vd1 : W0.cell? ⟨w.heap.size + 1, 1, none⟩ = some (.slice Ad1 d.segs.length cd1) := Kd.out.cell 1
    have vs0 : W0.cell? ⟨w.heap.size + 2, 0, none⟩ = some (.string s.name) := Ks.out.cell 0
    have vs1 : W0.cell? ⟨w.heap.size + 2, 1, none⟩ = some (.int .i64 s.length) := Ks.out.cell 1
    have vs2 : W0.cell? ⟨w.heap.size + 2, 2, none⟩ = some (.int .i64 s.draught) := Ks.out.cell 2
    have vs3 : W0.cell? ⟨w.heap.size + 2, 3, none⟩ = some (.int .i64 s.line) := Ks.out.cell 3
    have vs4 : W0.cell? ⟨w.heap.size + 2, 4, none⟩ = some (.int .i64 s.tugs) := Ks.out.cell 4
    have vs5 : W0.cell? ⟨w.heap.size + 2, 5, none⟩ = some (.bool s.slow) := Ks.out.cell 5
    go_wp2_with fail
    rw [← HW0.out]
    clear vf0 vf1 vf2 vd0 vd1 vs0 vs1 vs2 vs3 vs4 vs5
    refine (implRoutePoints _ _ d fr _ r _ (Rd.out.below B.out) (Rr.out.below B.out) Nd.out).mono ?_
    rw [HPT.out]
    rintro e w1 ⟨vp, rfl, ho, hb1⟩
    have B1 := Lib.hid (B.out.trans (hb1.mono B.out.size))
    have Kf_1 := Lib.hid (Kf.out.below hb1)
    have Kd_1 := Lib.hid (Kd.out.below hb1)
    have Ks_1 := Lib.hid (Ks.out.below hb1)
    have BW1 := Lib.hid hb1
    have OP := Lib.hid (own_lo (base' := W0.heap.size) ho (Nat.le_refl _))
    obtain ⟨Ap, cp, rfl⟩ := own_form ho
    clear ho
    clear hb1
    go_wp2
    go_ret
    exact ⟨_, [], rfl, by rw [H1.out]; rfl, ⟨⟨by simp, .inl ⟨rfl, _, _, rfl⟩⟩, fun x hx => by simp at hx⟩, B1.out⟩
  | true =>
  obtain ⟨hcb, hpl, hpin, hsin⟩ := route_facts hb1
  rw [hpts] at hpl hpin
  have HPL := Lib.hid hpl
  have HPI := Lib.hid hpin
  have hpz : ((pts.length : Int) == 0) = false := by rw [hpl]; simp; omega
  obtain ⟨i0, hin0, hz0, hz1, hz2⟩ := info_leg
  have HI := Lib.hid (And.intro hin0 (And.intro hz0 (And.intro hz1 hz2)))
  clear hin0 hz0 hz1 hz2 hpl hpin hsin hcb hpts hb1
  go_enter Try.func50, Try.ntmps50
  have vf0 : W0.cell? ⟨w.heap.size, 0, none⟩ = some (.int .i64 f.mean) := Kf.out.cell 0
  have vf1 : W0.cell? ⟨w.heap.size, 1, none⟩ = some (.slice Af0 f.parts.length cf0) := Kf.out.cell 1
  have vf2 : W0.cell? ⟨w.heap.size, 2, none⟩ = some (.slice Af1 f.surges.length cf1) := Kf.out.cell 2
  have vd0 : W0.cell? ⟨w.heap.size + 1, 0, none⟩ = some (.slice Ad0 d.points.length cd0) := Kd.out.cell 0
  have vd1 : W0.cell? ⟨w.heap.size + 1, 1, none⟩ = some (.slice Ad1 d.segs.length cd1) := Kd.out.cell 1
  have vs0 : W0.cell? ⟨w.heap.size + 2, 0, none⟩ = some (.string s.name) := Ks.out.cell 0
  have vs1 : W0.cell? ⟨w.heap.size + 2, 1, none⟩ = some (.int .i64 s.length) := Ks.out.cell 1
  have vs2 : W0.cell? ⟨w.heap.size + 2, 2, none⟩ = some (.int .i64 s.draught) := Ks.out.cell 2
  have vs3 : W0.cell? ⟨w.heap.size + 2, 3, none⟩ = some (.int .i64 s.line) := Ks.out.cell 3
  have vs4 : W0.cell? ⟨w.heap.size + 2, 4, none⟩ = some (.int .i64 s.tugs) := Ks.out.cell 4
  have vs5 : W0.cell? ⟨w.heap.size + 2, 5, none⟩ = some (.bool s.slow) := Ks.out.cell 5
  go_wp2_with fail
  rw [← HW0.out]
  clear vf0 vf1 vf2 vd0 vd1 vs0 vs1 vs2 vs3 vs4 vs5
  refine (implRoutePoints _ _ d fr _ r _ (Rd.out.below B.out) (Rr.out.below B.out) Nd.out).mono ?_
  rw [HPT.out]
  rintro e w1 ⟨vp, rfl, ho, hb1⟩
  have B1 := Lib.hid (B.out.trans (hb1.mono B.out.size))
  have Kf_1 := Lib.hid (Kf.out.below hb1)
  have Kd_1 := Lib.hid (Kd.out.below hb1)
  have Ks_1 := Lib.hid (Ks.out.below hb1)
  have BW1 := Lib.hid hb1
  have OP := Lib.hid (own_lo (base' := W0.heap.size) ho (Nat.le_refl _))
  obtain ⟨Ap, cp, rfl⟩ := own_form ho
  clear ho
  clear hb1
  go_wp2
  go_loopw [12, 24] (fun q i wr => ∃ (k : Nat) (rows : List LegR), k ≤ r.length ∧ rows.length = k ∧ i = .int .i64 (k : Int) ∧ Hid (rows.map LegR.d = ((r.zip pts).take k).map (fun x => legOf f d s x.1 x.2)) ∧ Hid (GathO 3 LegR.cells 145 W0 q rows wr) ∧ Hid (HoldW W0.heap.size wr q (rows.map LegR.win)) ∧ Hid (OwnInt wr W0.heap.size (.slice Ap pts.length cp) pts) ∧ Hid (ApartV q (.slice Ap pts.length cp))) (fun _ i _ => r.length - (intOf i).toNat)
  case atStart => exact ⟨0, [], Nat.zero_le _, rfl, rfl, Lib.hid rfl, Lib.hid (GathO.empty BW1.out), Lib.hid (HoldW.nil _ _ _), OP, Lib.hid (fun g hg => by simp [Value.ownBlock] at hg)⟩
  case round =>
    clear OP
    obtain ⟨k, rows, hk, hol, rfl, hS, hG, hH, hO, hA⟩ := hrel
    have HOL := Lib.hid hol
    obtain ⟨Qa, Qc, rfl⟩ := hG.out.form
    have hob : rows.length ≤ 1000000000 := by omega
    clear hol
    have hsz := hG.out.size
    have BR := Lib.hid (B.out.trans (hG.out.2.mono B.out.size))
    have Kf_r := Lib.hid (Kf.out.below hG.out.2)
    have Kd_r := Lib.hid (Kd.out.below hG.out.2)
    have Ks_r := Lib.hid (Ks.out.below hG.out.2)
    by_cases hlt : k < r.length
    rotate_left
    · obtain rfl : k = r.length := by omega
      have E := Lib.hid (show rows.map LegR.d = legsL f d s pts r by rw [hS.out, List.take_of_length_le (by rw [List.length_zip]; omega)]; rfl)
      go_wp2
      go_ret
      exact ⟨_, rows, rfl, by rw [H1.out, if_pos rfl, HPT.out]; exact E.out, ⟨own_sl legRLen hG.out.1 (by omega), fun x hx => (hH.out.rd (fun y hy => by obtain ⟨z, hz, e⟩ := List.mem_map.1 hy; rw [← e]; exact legs_small E.out z hz)) x.win (List.mem_map_of_mem hx)⟩, BR.out⟩
    obtain ⟨i, hi⟩ : ∃ i, r[k]? = some i := ⟨_, List.getElem?_eq_getElem hlt⟩
    have hkp : k < pts.length := by have := HPL.out; omega
    obtain ⟨p, hp⟩ : ∃ x, pts[k]? = some x := ⟨_, List.getElem?_eq_getElem hkp⟩
    obtain ⟨p0, p1⟩ := HPI.out p (List.mem_of_getElem? hp)
    obtain ⟨kp, rfl⟩ : ∃ kp : Nat, p = (kp : Int) := ⟨p.toNat, by omega⟩
    have hkd : kp < d.points.length := by omega
    obtain ⟨y, hy⟩ : ∃ y, d.points[kp]? = some y := ⟨_, List.getElem?_eq_getElem hkd⟩
    have HWT := Lib.hid (show waitAt d (kp : Int) = y.wait by unfold waitAt; rw [Int.toNat_natCast, hy])
    have NX := Lib.hid (show ((r.zip pts).take (k + 1)).map (fun x => legOf f d s x.1 x.2) = ((r.zip pts).take k).map (fun x => legOf f d s x.1 x.2) ++ [⟨startsL false f d i s, minOn d i s, y.wait⟩] by rw [take_snoc' (r.zip pts) k (i, (kp : Int)) (List.getElem?_zip_eq_some.2 ⟨hi, hp⟩), List.map_append, ← HWT.out]; rfl)
    rcases Rr.out.2 with ⟨he, _⟩ | ⟨gr, or', cr', e, rpos, rcap, rc⟩
    · rw [he] at hlt; simp at hlt
    injection e with hA' _ hcp'
    subst hA' hcp'
    have yr := cell_onV (SlInt.cells rc k _ hi) BR.out
    rcases Rd.out.1.2 with ⟨he, _⟩ | ⟨gp, op, cp', e, ppos, pcap, pc⟩
    · rw [he] at hkd; simp at hkd
    injection e with hA' _ hcp'
    subst hA' hcp'
    have e1 := (SlPoint.cells pc kp y hy).2
    obtain ⟨gq, cq, e, yp⟩ := own_int_at hO.out hp
    injection e with hA' _ hcp'
    subst hA' hcp'
    have HG1 := Lib.hid (World.block_lt_of_cell? w _ e1)
    have YP := Lib.hid yp
    have YE := Lib.hid (cell_onV e1 BR.out)
    clear rc pc hi hp hy yp e1 p0 p1
    obtain ⟨L, hL⟩ : ∃ L, startsL false f d i s = L := ⟨_, rfl⟩
    have HL := Lib.hid hL
    obtain ⟨mn, hmn⟩ : ∃ z, minOn d i s = z := ⟨_, rfl⟩
    have HMN := Lib.hid hmn
    obtain ⟨wt, hwt⟩ : ∃ b, y.wait = b := ⟨_, rfl⟩
    rw [hL, hmn, hwt] at NX
    rw [hwt] at YE
    clear hL hmn hwt
    have F0 := Lib.hid (show wr.cell? ⟨w.heap.size, 0, none⟩ = some (.int .i64 f.mean) from Kf_r.out.cell 0)
    have v0 := F0.out
    have F1 := Lib.hid (show wr.cell? ⟨w.heap.size, 1, none⟩ = some (.slice Af0 f.parts.length cf0) from Kf_r.out.cell 1)
    have v1 := F1.out
    have F2 := Lib.hid (show wr.cell? ⟨w.heap.size, 2, none⟩ = some (.slice Af1 f.surges.length cf1) from Kf_r.out.cell 2)
    have v2 := F2.out
    have F3 := Lib.hid (show wr.cell? ⟨w.heap.size + 1, 0, none⟩ = some (.slice (some ⟨gp, op, none⟩) d.points.length cd0) from Kd_r.out.cell 0)
    have v3 := F3.out
    have F4 := Lib.hid (show wr.cell? ⟨w.heap.size + 1, 1, none⟩ = some (.slice Ad1 d.segs.length cd1) from Kd_r.out.cell 1)
    have v4 := F4.out
    have F5 := Lib.hid (show wr.cell? ⟨w.heap.size + 2, 0, none⟩ = some (.string s.name) from Ks_r.out.cell 0)
    have v5 := F5.out
    have F6 := Lib.hid (show wr.cell? ⟨w.heap.size + 2, 1, none⟩ = some (.int .i64 s.length) from Ks_r.out.cell 1)
    have v6 := F6.out
    have F7 := Lib.hid (show wr.cell? ⟨w.heap.size + 2, 2, none⟩ = some (.int .i64 s.draught) from Ks_r.out.cell 2)
    have v7 := F7.out
    have F8 := Lib.hid (show wr.cell? ⟨w.heap.size + 2, 3, none⟩ = some (.int .i64 s.line) from Ks_r.out.cell 3)
    have v8 := F8.out
    have F9 := Lib.hid (show wr.cell? ⟨w.heap.size + 2, 4, none⟩ = some (.int .i64 s.tugs) from Ks_r.out.cell 4)
    have v9 := F9.out
    have F10 := Lib.hid (show wr.cell? ⟨w.heap.size + 2, 5, none⟩ = some (.bool s.slow) from Ks_r.out.cell 5)
    have v10 := F10.out
    have F11 := Lib.hid (show wr.cell? ⟨gp, op + kp * 2 + 1, none⟩ = some (.bool wt) from YE.out)
    have v11 := F11.out
    have F12 := Lib.hid (show wr.cell? ⟨gq, k, none⟩ = some (.int .i64 (kp : Int)) from YP.out)
    have v12 := F12.out
    have hbf : w.heap.size < W0.heap.size := World.block_lt_of_cell? W0 ⟨w.heap.size, 0, none⟩ (Kf.out.cell 0)
    have hbd : w.heap.size + 1 < W0.heap.size := World.block_lt_of_cell? W0 ⟨w.heap.size + 1, 0, none⟩ (Kd.out.cell 0)
    have hbs : w.heap.size + 2 < W0.heap.size := World.block_lt_of_cell? W0 ⟨w.heap.size + 2, 0, none⟩ (Ks.out.cell 0)
    have hbg : gp < W0.heap.size := Nat.lt_of_lt_of_le HG1.out B.out.size
    go_upto_region 8 with fail
    refine wp_region_held_drew (S := (fun w' => w'.cell? ⟨w.heap.size, 0, none⟩ = some (.int .i64 f.mean) ∧ w'.cell? ⟨w.heap.size, 1, none⟩ = some (.slice Af0 f.parts.length cf0) ∧ w'.cell? ⟨w.heap.size, 2, none⟩ = some (.slice Af1 f.surges.length cf1) ∧ w'.cell? ⟨w.heap.size + 1, 0, none⟩ = some (.slice (some ⟨gp, op, none⟩) d.points.length cd0) ∧ w'.cell? ⟨w.heap.size + 1, 1, none⟩ = some (.slice Ad1 d.segs.length cd1) ∧ w'.cell? ⟨w.heap.size + 2, 0, none⟩ = some (.string s.name) ∧ w'.cell? ⟨w.heap.size + 2, 1, none⟩ = some (.int .i64 s.length) ∧ w'.cell? ⟨w.heap.size + 2, 2, none⟩ = some (.int .i64 s.draught) ∧ w'.cell? ⟨w.heap.size + 2, 3, none⟩ = some (.int .i64 s.line) ∧ w'.cell? ⟨w.heap.size + 2, 4, none⟩ = some (.int .i64 s.tugs) ∧ w'.cell? ⟨w.heap.size + 2, 5, none⟩ = some (.bool s.slow) ∧ w'.cell? ⟨gp, op + kp * 2 + 1, none⟩ = some (.bool wt) ∧ w'.cell? ⟨gq, k, none⟩ = some (.int .i64 (kp : Int)))) (by kernel_rfl) ?_ (fun hHeld => ?_)
    · (try dsimp only); go_keep
    refine wpAnyH_take (i := 0) (v := ?_) (by simp only [List.getElem?_toArray, List.getElem?_cons_zero]; rfl) (by kernel_rfl) (by kernel_rfl) (by kernel_rfl) (by exact fun _ _ _ h => h) (Or.inl ⟨by rfl, ?_⟩) (by assumption) ?_; rotate_left; focus (intro w hSw; (try dsimp only at hSw); first | (go_simp; done) | (go_simp; with_reducible rfl))
    (try simp only [Act.put]); (try simp only [List.setIfInBounds_toArray]); (try simp only [List.set_cons_succ]); (try simp only [List.set_cons_zero])
    refine wpAnyH_take (i := 1) (v := ?_) (by simp only [List.getElem?_toArray, List.getElem?_cons_succ, List.getElem?_cons_zero]; rfl) (by kernel_rfl) (by kernel_rfl) (by kernel_rfl) (by exact fun _ _ _ h => h) (Or.inl ⟨by rfl, ?_⟩) (by assumption) ?_; rotate_left; focus (intro w hSw; (try dsimp only at hSw); first | (go_simp; done) | (go_simp; with_reducible rfl))
    (try simp only [Act.put]); (try simp only [List.setIfInBounds_toArray]); (try simp only [List.set_cons_succ]); (try simp only [List.set_cons_zero])
    refine wpAnyH_take (i := 2) (v := ?_) (by simp only [List.getElem?_toArray, List.getElem?_cons_succ, List.getElem?_cons_zero]; rfl) (by kernel_rfl) (by kernel_rfl) (by kernel_rfl) (by exact fun _ _ _ h => h) (Or.inl ⟨by rfl, ?_⟩) (by assumption) ?_; rotate_left; focus (intro w hSw; (try dsimp only at hSw); first | (go_simp; done) | (go_simp; with_reducible rfl))
    (try simp only [Act.put]); (try simp only [List.setIfInBounds_toArray]); (try simp only [List.set_cons_succ]); (try simp only [List.set_cons_zero])
    refine wpAnyH_take (i := 3) (v := ?_) (by simp only [List.getElem?_toArray, List.getElem?_cons_succ, List.getElem?_cons_zero]; rfl) (by kernel_rfl) (by kernel_rfl) (by kernel_rfl) (by exact fun _ _ _ h => h) (Or.inl ⟨by rfl, ?_⟩) (by assumption) ?_; rotate_left; focus (intro w hSw; (try dsimp only at hSw); first | (go_simp; done) | (go_simp; with_reducible rfl))
    (try simp only [Act.put]); (try simp only [List.setIfInBounds_toArray]); (try simp only [List.set_cons_succ]); (try simp only [List.set_cons_zero])
    refine wpAnyH_take (i := 4) (v := ?_) (by simp only [List.getElem?_toArray, List.getElem?_cons_succ, List.getElem?_cons_zero]; rfl) (by kernel_rfl) (by kernel_rfl) (by kernel_rfl) (by exact fun _ _ _ h => h) (Or.inl ⟨by rfl, ?_⟩) (by assumption) ?_; rotate_left; focus (intro w hSw; (try dsimp only at hSw); first | (go_simp; done) | (go_simp; with_reducible rfl))
    (try simp only [Act.put]); (try simp only [List.setIfInBounds_toArray]); (try simp only [List.set_cons_succ]); (try simp only [List.set_cons_zero])
    refine wpAnyH_take (i := 6) (v := ?_) (by simp only [List.getElem?_toArray, List.getElem?_cons_succ, List.getElem?_cons_zero]; rfl) (by kernel_rfl) (by kernel_rfl) (by kernel_rfl) (by exact fun _ _ _ h => h) (Or.inl ⟨by rfl, ?_⟩) (by assumption) ?_; rotate_left; focus (intro w hSw; (try dsimp only at hSw); first | (go_simp; done) | (go_simp; with_reducible rfl))
    (try simp only [Act.put]); (try simp only [List.setIfInBounds_toArray]); (try simp only [List.set_cons_succ]); (try simp only [List.set_cons_zero])
    refine wpAnyH_take (i := 7) (v := ?_) (by simp only [List.getElem?_toArray, List.getElem?_cons_succ, List.getElem?_cons_zero]; rfl) (by kernel_rfl) (by kernel_rfl) (by kernel_rfl) (by exact fun _ _ _ h => h) (Or.inl ⟨by rfl, ?_⟩) (by assumption) ?_; rotate_left; focus (intro w hSw; (try dsimp only at hSw); first | (go_simp; done) | (go_simp; with_reducible rfl))
    (try simp only [Act.put]); (try simp only [List.setIfInBounds_toArray]); (try simp only [List.set_cons_succ]); (try simp only [List.set_cons_zero])
    refine wpAnyH_take (i := 8) (v := ?_) (by simp only [List.getElem?_toArray, List.getElem?_cons_succ, List.getElem?_cons_zero]; rfl) (by kernel_rfl) (by kernel_rfl) (by kernel_rfl) (by exact fun _ _ _ h => h) (Or.inl ⟨by rfl, ?_⟩) (by assumption) ?_; rotate_left; focus (intro w hSw; (try dsimp only at hSw); first | (go_simp; done) | (go_simp; with_reducible rfl))
    (try simp only [Act.put]); (try simp only [List.setIfInBounds_toArray]); (try simp only [List.set_cons_succ]); (try simp only [List.set_cons_zero])
    refine wpAnyH_take (i := 10) (v := ?_) (by simp only [List.getElem?_toArray, List.getElem?_cons_succ, List.getElem?_cons_zero]; rfl) (by kernel_rfl) (by kernel_rfl) (by kernel_rfl) (by exact fun _ _ _ h => h) (Or.inl ⟨by rfl, ?_⟩) (by assumption) ?_; rotate_left; focus (intro w hSw; (try dsimp only at hSw); first | (go_simp; done) | (go_simp; with_reducible rfl))
    (try simp only [Act.put]); (try simp only [List.setIfInBounds_toArray]); (try simp only [List.set_cons_succ]); (try simp only [List.set_cons_zero])
    refine wpAnyH_take (i := 11) (v := ?_) (by simp only [List.getElem?_toArray, List.getElem?_cons_succ, List.getElem?_cons_zero]; rfl) (by kernel_rfl) (by kernel_rfl) (by kernel_rfl) (by exact fun _ _ _ h => h) (Or.inl ⟨by rfl, ?_⟩) (by assumption) ?_; rotate_left; focus (intro w hSw; (try dsimp only at hSw); first | (go_simp; done) | (go_simp; with_reducible rfl))
    (try simp only [Act.put]); (try simp only [List.setIfInBounds_toArray]); (try simp only [List.set_cons_succ]); (try simp only [List.set_cons_zero])
    refine wpAnyH_take (i := 12) (v := ?_) (by simp only [List.getElem?_toArray, List.getElem?_cons_succ, List.getElem?_cons_zero]; rfl) (by kernel_rfl) (by kernel_rfl) (by kernel_rfl) (by exact fun _ _ _ h => h) (Or.inl ⟨by rfl, ?_⟩) (by assumption) ?_; rotate_left; focus (intro w hSw; (try dsimp only at hSw); first | (go_simp; done) | (go_simp; with_reducible rfl))
    (try simp only [Act.put]); (try simp only [List.setIfInBounds_toArray]); (try simp only [List.set_cons_succ]); (try simp only [List.set_cons_zero])
    refine wpAnyH_take (i := 13) (v := ?_) (by simp only [List.getElem?_toArray, List.getElem?_cons_succ, List.getElem?_cons_zero]; rfl) (by kernel_rfl) (by kernel_rfl) (by kernel_rfl) (by exact fun _ _ _ h => h) (Or.inl ⟨by rfl, ?_⟩) (by assumption) ?_; rotate_left; focus (intro w hSw; (try dsimp only at hSw); first | (go_simp; done) | (go_simp; with_reducible rfl))
    (try simp only [Act.put]); (try simp only [List.setIfInBounds_toArray]); (try simp only [List.set_cons_succ]); (try simp only [List.set_cons_zero])
    refine wpAnyH_take (i := 14) (v := ?_) (by simp only [List.getElem?_toArray, List.getElem?_cons_succ, List.getElem?_cons_zero]; rfl) (by kernel_rfl) (by kernel_rfl) (by kernel_rfl) (by exact fun _ _ _ h => h) (Or.inl ⟨by rfl, ?_⟩) (by assumption) ?_; rotate_left; focus (intro w hSw; (try dsimp only at hSw); first | (go_simp; done) | (go_simp; with_reducible rfl))
    (try simp only [Act.put]); (try simp only [List.setIfInBounds_toArray]); (try simp only [List.set_cons_succ]); (try simp only [List.set_cons_zero])
    refine wpAnyH_take (i := 15) (v := ?_) (by simp only [List.getElem?_toArray, List.getElem?_cons_succ, List.getElem?_cons_zero]; rfl) (by kernel_rfl) (by kernel_rfl) (by kernel_rfl) (by exact fun _ _ _ h => h) (Or.inl ⟨by rfl, ?_⟩) (by assumption) ?_; rotate_left; focus (intro w hSw; (try dsimp only at hSw); first | (go_simp; done) | (go_simp; with_reducible rfl))
    (try simp only [Act.put]); (try simp only [List.setIfInBounds_toArray]); (try simp only [List.set_cons_succ]); (try simp only [List.set_cons_zero])
    refine wpAnyH_take (i := 16) (v := ?_) (by simp only [List.getElem?_toArray, List.getElem?_cons_succ, List.getElem?_cons_zero]; rfl) (by kernel_rfl) (by kernel_rfl) (by kernel_rfl) (by exact fun _ _ _ h => h) (Or.inl ⟨by rfl, ?_⟩) (by assumption) ?_; rotate_left; focus (intro w hSw; (try dsimp only at hSw); first | (go_simp; done) | (go_simp; with_reducible rfl))
    (try simp only [Act.put]); (try simp only [List.setIfInBounds_toArray]); (try simp only [List.set_cons_succ]); (try simp only [List.set_cons_zero])
    refine wpAnyH_take (i := 17) (v := ?_) (by simp only [List.getElem?_toArray, List.getElem?_cons_succ, List.getElem?_cons_zero]; rfl) (by kernel_rfl) (by kernel_rfl) (by kernel_rfl) (by exact fun _ _ _ h => h) (Or.inl ⟨by rfl, ?_⟩) (by assumption) ?_; rotate_left; focus (intro w hSw; (try dsimp only at hSw); first | (go_simp; done) | (go_simp; with_reducible rfl))
    (try simp only [Act.put]); (try simp only [List.setIfInBounds_toArray]); (try simp only [List.set_cons_succ]); (try simp only [List.set_cons_zero])
    refine wpAnyH_take (i := 18) (v := ?_) (by simp only [List.getElem?_toArray, List.getElem?_cons_succ, List.getElem?_cons_zero]; rfl) (by kernel_rfl) (by kernel_rfl) (by kernel_rfl) (by exact fun _ _ _ h => h) (Or.inl ⟨by rfl, ?_⟩) (by assumption) ?_; rotate_left; focus (intro w hSw; (try dsimp only at hSw); first | (go_simp; done) | (go_simp; with_reducible rfl))
    (try simp only [Act.put]); (try simp only [List.setIfInBounds_toArray]); (try simp only [List.set_cons_succ]); (try simp only [List.set_cons_zero])
    refine wpAnyH_ready (rs := [5]) (by kernel_rfl) (by simp) ?_
    refine AllReadyH.cons rfl (fun K hK => ?_) (AllReadyH.nil)
    rw [if_pos (by rfl)]
    go_simp
    have BD := BR.out.drew
    go_at_call 92
    refine (implSureStarts _ _ f _ _ d i s _ (Rf.out.below BD) (Rd.out.below BD) Nd.out Ns.out).mono ?_
    rw [HL.out]
    rintro e wa ⟨vl, rfl, hol, hbk⟩
    have HBK := (Below.refl wr.heap.size wr).drew.trans (hbk.mono (Nat.le_refl _))
    have BA := Lib.hid (BR.out.trans (HBK.mono BR.out.size))
    have GA0 := Lib.hid (hG.out.below HBK)
    have HA0 := Lib.hid (hH.out.below HBK)
    have OA0 := Lib.hid (own_below hO.out HBK)
    have AP := Lib.hid (apart_young hG.out.1 hol (Nat.le_refl _))
    have OL0 := Lib.hid (own_lo (base' := W0.heap.size) hol (by show W0.heap.size ≤ wr.heap.size; exact hsz))
    obtain ⟨Al, cl, rfl⟩ := own_form hol
    have QS := Lib.hid (show wa.cell? ⟨w.heap.size, 0, none⟩ = some (.int .i64 f.mean) ∧ wa.cell? ⟨w.heap.size, 1, none⟩ = some (.slice Af0 f.parts.length cf0) ∧ wa.cell? ⟨w.heap.size, 2, none⟩ = some (.slice Af1 f.surges.length cf1) ∧ wa.cell? ⟨w.heap.size + 1, 0, none⟩ = some (.slice (some ⟨gp, op, none⟩) d.points.length cd0) ∧ wa.cell? ⟨w.heap.size + 1, 1, none⟩ = some (.slice Ad1 d.segs.length cd1) ∧ wa.cell? ⟨w.heap.size + 2, 0, none⟩ = some (.string s.name) ∧ wa.cell? ⟨w.heap.size + 2, 1, none⟩ = some (.int .i64 s.length) ∧ wa.cell? ⟨w.heap.size + 2, 2, none⟩ = some (.int .i64 s.draught) ∧ wa.cell? ⟨w.heap.size + 2, 3, none⟩ = some (.int .i64 s.line) ∧ wa.cell? ⟨w.heap.size + 2, 4, none⟩ = some (.int .i64 s.tugs) ∧ wa.cell? ⟨w.heap.size + 2, 5, none⟩ = some (.bool s.slow) ∧ wa.cell? ⟨gp, op + kp * 2 + 1, none⟩ = some (.bool wt) ∧ wa.cell? ⟨gq, k, none⟩ = some (.int .i64 (kp : Int)) from ⟨cell_onV F0.out HBK, cell_onV F1.out HBK, cell_onV F2.out HBK, cell_onV F3.out HBK, cell_onV F4.out HBK, cell_onV F5.out HBK, cell_onV F6.out HBK, cell_onV F7.out HBK, cell_onV F8.out HBK, cell_onV F9.out HBK, cell_onV F10.out HBK, cell_onV F11.out HBK, cell_onV F12.out HBK⟩)
    clear hbk HBK hol BD
    go_simp
    refine hK.out _ _ QS.out (fun hHeld => ?_)
    clear hK K
    (try simp only [Act.put]); (try simp only [List.setIfInBounds_toArray]); (try simp only [List.set_cons_succ]); (try simp only [List.set_cons_zero])
    refine wpAnyH_ready (rs := [9]) (by kernel_rfl) (by simp) ?_
    refine AllReadyH.cons rfl (fun K hK => ?_) (AllReadyH.nil)
    rw [if_pos (by rfl)]
    go_simp
    go_at_call 57
    refine (implMinutesOn _ _ d i s _ (Rd.out.below BA.out) Nd.out Ns.out).mono ?_
    rw [HMN.out]
    rintro e wq ⟨rfl, hbk⟩
    have GQ := Lib.hid (GA0.out.below hbk)
    have HQ := Lib.hid (HA0.out.below hbk)
    have OQ := Lib.hid (own_below OA0.out hbk)
    have OL1 := Lib.hid (own_below OL0.out hbk)
    have QS := Lib.hid (show wq.cell? ⟨w.heap.size, 0, none⟩ = some (.int .i64 f.mean) ∧ wq.cell? ⟨w.heap.size, 1, none⟩ = some (.slice Af0 f.parts.length cf0) ∧ wq.cell? ⟨w.heap.size, 2, none⟩ = some (.slice Af1 f.surges.length cf1) ∧ wq.cell? ⟨w.heap.size + 1, 0, none⟩ = some (.slice (some ⟨gp, op, none⟩) d.points.length cd0) ∧ wq.cell? ⟨w.heap.size + 1, 1, none⟩ = some (.slice Ad1 d.segs.length cd1) ∧ wq.cell? ⟨w.heap.size + 2, 0, none⟩ = some (.string s.name) ∧ wq.cell? ⟨w.heap.size + 2, 1, none⟩ = some (.int .i64 s.length) ∧ wq.cell? ⟨w.heap.size + 2, 2, none⟩ = some (.int .i64 s.draught) ∧ wq.cell? ⟨w.heap.size + 2, 3, none⟩ = some (.int .i64 s.line) ∧ wq.cell? ⟨w.heap.size + 2, 4, none⟩ = some (.int .i64 s.tugs) ∧ wq.cell? ⟨w.heap.size + 2, 5, none⟩ = some (.bool s.slow) ∧ wq.cell? ⟨gp, op + kp * 2 + 1, none⟩ = some (.bool wt) ∧ wq.cell? ⟨gq, k, none⟩ = some (.int .i64 (kp : Int)) from by obtain ⟨e0, e1, e2, e3, e4, e5, e6, e7, e8, e9, e10, e11, e12⟩ := QS.out; exact ⟨cell_onV e0 hbk, cell_onV e1 hbk, cell_onV e2 hbk, cell_onV e3 hbk, cell_onV e4 hbk, cell_onV e5 hbk, cell_onV e6 hbk, cell_onV e7 hbk, cell_onV e8 hbk, cell_onV e9 hbk, cell_onV e10 hbk, cell_onV e11 hbk, cell_onV e12 hbk⟩)
    clear hbk
    go_simp
    refine hK.out _ _ QS.out (fun hHeld => ?_)
    clear hK K
    (try simp only [Act.put]); (try simp only [List.setIfInBounds_toArray]); (try simp only [List.set_cons_succ]); (try simp only [List.set_cons_zero])
    refine wpAnyH_take (i := 19) (v := ?_) (by simp only [List.getElem?_toArray, List.getElem?_cons_succ, List.getElem?_cons_zero]; rfl) (by kernel_rfl) (by kernel_rfl) (by kernel_rfl) (by exact fun _ _ _ h => h) (Or.inl ⟨by rfl, ?_⟩) (by assumption) ?_; rotate_left; focus (intro w hSw; (try dsimp only at hSw); first | (go_simp; done) | (go_simp; with_reducible rfl))
    (try simp only [Act.put]); (try simp only [List.setIfInBounds_toArray]); (try simp only [List.set_cons_succ]); (try simp only [List.set_cons_zero])
    refine wpAnyH_ready (rs := [20]) (by kernel_rfl) (by simp) ?_
    refine AllReadyH.cons rfl (fun K hK => ?_) (AllReadyH.nil)
    rw [if_pos (by rfl)]
    go_simp
    have BX := Joins.below_alloc1 wq (.cells #[.slice Al L.length cl, .int .i64 mn, .bool wt] 145)
    have GA := Lib.hid (GQ.out.below BX)
    have HA := Lib.hid (HQ.out.below BX)
    have OA := Lib.hid (own_below OQ.out BX)
    have OL := Lib.hid (own_below OL1.out BX)
    have QS := Lib.hid (show (wq.alloc (.cells #[.slice Al L.length cl, .int .i64 mn, .bool wt] 145)).cell? ⟨w.heap.size, 0, none⟩ = some (.int .i64 f.mean) ∧ (wq.alloc (.cells #[.slice Al L.length cl, .int .i64 mn, .bool wt] 145)).cell? ⟨w.heap.size, 1, none⟩ = some (.slice Af0 f.parts.length cf0) ∧ (wq.alloc (.cells #[.slice Al L.length cl, .int .i64 mn, .bool wt] 145)).cell? ⟨w.heap.size, 2, none⟩ = some (.slice Af1 f.surges.length cf1) ∧ (wq.alloc (.cells #[.slice Al L.length cl, .int .i64 mn, .bool wt] 145)).cell? ⟨w.heap.size + 1, 0, none⟩ = some (.slice (some ⟨gp, op, none⟩) d.points.length cd0) ∧ (wq.alloc (.cells #[.slice Al L.length cl, .int .i64 mn, .bool wt] 145)).cell? ⟨w.heap.size + 1, 1, none⟩ = some (.slice Ad1 d.segs.length cd1) ∧ (wq.alloc (.cells #[.slice Al L.length cl, .int .i64 mn, .bool wt] 145)).cell? ⟨w.heap.size + 2, 0, none⟩ = some (.string s.name) ∧ (wq.alloc (.cells #[.slice Al L.length cl, .int .i64 mn, .bool wt] 145)).cell? ⟨w.heap.size + 2, 1, none⟩ = some (.int .i64 s.length) ∧ (wq.alloc (.cells #[.slice Al L.length cl, .int .i64 mn, .bool wt] 145)).cell? ⟨w.heap.size + 2, 2, none⟩ = some (.int .i64 s.draught) ∧ (wq.alloc (.cells #[.slice Al L.length cl, .int .i64 mn, .bool wt] 145)).cell? ⟨w.heap.size + 2, 3, none⟩ = some (.int .i64 s.line) ∧ (wq.alloc (.cells #[.slice Al L.length cl, .int .i64 mn, .bool wt] 145)).cell? ⟨w.heap.size + 2, 4, none⟩ = some (.int .i64 s.tugs) ∧ (wq.alloc (.cells #[.slice Al L.length cl, .int .i64 mn, .bool wt] 145)).cell? ⟨w.heap.size + 2, 5, none⟩ = some (.bool s.slow) ∧ (wq.alloc (.cells #[.slice Al L.length cl, .int .i64 mn, .bool wt] 145)).cell? ⟨gp, op + kp * 2 + 1, none⟩ = some (.bool wt) ∧ (wq.alloc (.cells #[.slice Al L.length cl, .int .i64 mn, .bool wt] 145)).cell? ⟨gq, k, none⟩ = some (.int .i64 (kp : Int)) from by obtain ⟨e0, e1, e2, e3, e4, e5, e6, e7, e8, e9, e10, e11, e12⟩ := QS.out; exact ⟨cell_onV e0 BX, cell_onV e1 BX, cell_onV e2 BX, cell_onV e3 BX, cell_onV e4 BX, cell_onV e5 BX, cell_onV e6 BX, cell_onV e7 BX, cell_onV e8 BX, cell_onV e9 BX, cell_onV e10 BX, cell_onV e11 BX, cell_onV e12 BX⟩)
    have HNB := Lib.hid (World.news_of_block (heap_alloc_new wq (.cells #[.slice Al L.length cl, .int .i64 mn, .bool wt] 145)))
    have hsq := GQ.out.size
    clear BX
    refine hK.out _ _ QS.out (fun hHeld => ?_)
    clear hK K
    (try simp only [Act.put]); (try simp only [List.setIfInBounds_toArray]); (try simp only [List.set_cons_succ]); (try simp only [List.set_cons_zero])
    refine wpAnyH_ready (rs := [21]) (by kernel_rfl) (by simp) ?_
    refine AllReadyH.cons rfl (fun K hK => ?_) (AllReadyH.nil)
    refine step_append_lies _ (by rfl) _ _ _ (by rfl) W0.heap.size 145 i0 _ 3 40 Try.underlying102 HI.out.1 HI.out.2.1 HI.out.2.2.1 HI.out.2.2.2 rfl (by omega) (.slice Qa rows.length Qc) rows.length (rows.flatMap LegR.cells) (by rfl) GA.out.1 ⟨wq.heap.size, 0, none⟩ 1 1 (LegR.cells (⟨⟨.slice Al L.length cl, L⟩, mn, wt⟩ : LegR)) (by rfl) (by rfl) HNB.out (legr_one _ _ _ _ _ _) (by omega) (by unfold maxLen; omega) (by omega) (by simp; omega) _ rfl ?_
    intro g4 cap4 w4 hown4 hgrow4 hor4 hlt4
    have GX := Lib.hid (GA.out.next (x := (⟨⟨.slice Al L.length cl, L⟩, mn, wt⟩ : LegR)) hown4 hgrow4)
    have HX : Hid (HoldW W0.heap.size w4 (.slice (some ⟨g4, 0, none⟩) (rows.length + 1) cap4) ((rows ++ [(⟨⟨.slice Al L.length cl, L⟩, mn, wt⟩ : LegR)]).map LegR.win)) := Lib.hid (by rw [List.map_append]; exact HA.out.next (x := ⟨.slice Al L.length cl, L⟩) ⟨OL.out, AP.out⟩ hgrow4 hor4)
    have OX := Lib.hid (own_kept OA.out hgrow4 (fun b hv he => hA.out b he hv))
    have AX : Hid (ApartV (.slice (some ⟨g4, 0, none⟩) (rows.length + 1) cap4) (.slice (some ⟨gq, 0, none⟩) pts.length cp)) := Lib.hid (fun b hb hv => by simp [Value.ownBlock] at hb; subst hb; exact hor4.elim (fun he => hA.out _ he hv) (fun he => by have h9 := (World.ownsRow.lt OA.out _ hv).2; rw [he] at h9; exact Nat.lt_irrefl _ h9))
    have QS := Lib.hid (show w4.cell? ⟨w.heap.size, 0, none⟩ = some (.int .i64 f.mean) ∧ w4.cell? ⟨w.heap.size, 1, none⟩ = some (.slice Af0 f.parts.length cf0) ∧ w4.cell? ⟨w.heap.size, 2, none⟩ = some (.slice Af1 f.surges.length cf1) ∧ w4.cell? ⟨w.heap.size + 1, 0, none⟩ = some (.slice (some ⟨gp, op, none⟩) d.points.length cd0) ∧ w4.cell? ⟨w.heap.size + 1, 1, none⟩ = some (.slice Ad1 d.segs.length cd1) ∧ w4.cell? ⟨w.heap.size + 2, 0, none⟩ = some (.string s.name) ∧ w4.cell? ⟨w.heap.size + 2, 1, none⟩ = some (.int .i64 s.length) ∧ w4.cell? ⟨w.heap.size + 2, 2, none⟩ = some (.int .i64 s.draught) ∧ w4.cell? ⟨w.heap.size + 2, 3, none⟩ = some (.int .i64 s.line) ∧ w4.cell? ⟨w.heap.size + 2, 4, none⟩ = some (.int .i64 s.tugs) ∧ w4.cell? ⟨w.heap.size + 2, 5, none⟩ = some (.bool s.slow) ∧ w4.cell? ⟨gp, op + kp * 2 + 1, none⟩ = some (.bool wt) ∧ w4.cell? ⟨gq, k, none⟩ = some (.int .i64 (kp : Int)) from by obtain ⟨e0, e1, e2, e3, e4, e5, e6, e7, e8, e9, e10, e11, e12⟩ := QS.out; exact ⟨(hgrow4.cell_far _ (World.block_lt_of_cell? _ _ e0) (fun e => by have h9 : W0.heap.size ≤ w.heap.size := (own_ge GA.out.1 e.symm).1; have h8 := hbf; omega)).trans e0, (hgrow4.cell_far _ (World.block_lt_of_cell? _ _ e1) (fun e => by have h9 : W0.heap.size ≤ w.heap.size := (own_ge GA.out.1 e.symm).1; have h8 := hbf; omega)).trans e1, (hgrow4.cell_far _ (World.block_lt_of_cell? _ _ e2) (fun e => by have h9 : W0.heap.size ≤ w.heap.size := (own_ge GA.out.1 e.symm).1; have h8 := hbf; omega)).trans e2, (hgrow4.cell_far _ (World.block_lt_of_cell? _ _ e3) (fun e => by have h9 : W0.heap.size ≤ w.heap.size + 1 := (own_ge GA.out.1 e.symm).1; have h8 := hbd; omega)).trans e3, (hgrow4.cell_far _ (World.block_lt_of_cell? _ _ e4) (fun e => by have h9 : W0.heap.size ≤ w.heap.size + 1 := (own_ge GA.out.1 e.symm).1; have h8 := hbd; omega)).trans e4, (hgrow4.cell_far _ (World.block_lt_of_cell? _ _ e5) (fun e => by have h9 : W0.heap.size ≤ w.heap.size + 2 := (own_ge GA.out.1 e.symm).1; have h8 := hbs; omega)).trans e5, (hgrow4.cell_far _ (World.block_lt_of_cell? _ _ e6) (fun e => by have h9 : W0.heap.size ≤ w.heap.size + 2 := (own_ge GA.out.1 e.symm).1; have h8 := hbs; omega)).trans e6, (hgrow4.cell_far _ (World.block_lt_of_cell? _ _ e7) (fun e => by have h9 : W0.heap.size ≤ w.heap.size + 2 := (own_ge GA.out.1 e.symm).1; have h8 := hbs; omega)).trans e7, (hgrow4.cell_far _ (World.block_lt_of_cell? _ _ e8) (fun e => by have h9 : W0.heap.size ≤ w.heap.size + 2 := (own_ge GA.out.1 e.symm).1; have h8 := hbs; omega)).trans e8, (hgrow4.cell_far _ (World.block_lt_of_cell? _ _ e9) (fun e => by have h9 : W0.heap.size ≤ w.heap.size + 2 := (own_ge GA.out.1 e.symm).1; have h8 := hbs; omega)).trans e9, (hgrow4.cell_far _ (World.block_lt_of_cell? _ _ e10) (fun e => by have h9 : W0.heap.size ≤ w.heap.size + 2 := (own_ge GA.out.1 e.symm).1; have h8 := hbs; omega)).trans e10, (hgrow4.cell_far _ (World.block_lt_of_cell? _ _ e11) (fun e => by have h9 : W0.heap.size ≤ gp := (own_ge GA.out.1 e.symm).1; have h8 := hbg; omega)).trans e11, (hgrow4.cell_far _ (World.block_lt_of_cell? _ _ e12) (fun e => hA.out _ e.symm rfl)).trans e12⟩)
    clear hown4 hgrow4 hor4 hlt4
    refine hK.out _ _ QS.out (fun hHeld => ?_)
    clear hK K
    (try simp only [Act.put]); (try simp only [List.setIfInBounds_toArray]); (try simp only [List.set_cons_succ]); (try simp only [List.set_cons_zero])
    refine wpAnyH_take (i := 22) (v := ?_) (by simp only [List.getElem?_toArray, List.getElem?_cons_succ, List.getElem?_cons_zero]; rfl) (by kernel_rfl) (by kernel_rfl) (by kernel_rfl) (by exact fun _ _ _ h => h) (Or.inl ⟨by rfl, ?_⟩) (by assumption) ?_; rotate_left; focus (intro w hSw; (try dsimp only at hSw); first | (go_simp; done) | (go_simp; with_reducible rfl))
    (try simp only [Act.put]); (try simp only [List.setIfInBounds_toArray]); (try simp only [List.set_cons_succ]); (try simp only [List.set_cons_zero])
    refine wpAnyH_done (by kernel_rfl) ?_ _
    go_wp2
    go_roundw
    case rel => exact ⟨k + 1, rows ++ [(⟨⟨.slice Al L.length cl, L⟩, mn, wt⟩ : LegR)], by omega, by have := HOL.out; simp; omega, by go_num, Lib.hid (by rw [List.map_append, hS.out, NX.out]; rfl), GX, HX, OX, AX⟩
    case measure => simp [intOf]; omega
end Go.Proofs.Ytooeikimoheecaa
