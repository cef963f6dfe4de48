
/- What ExactSailRoute and ExactFirstSail rests on, part 35: contracts and mathematics. -/
import Derived.Test.YtooeikimoheecaaGreatSf32
import Derived.Test.YtooeikimoheecaaGreatSf33
import Derived.Test.YtooeikimoheecaaGreatSf7
import Derived.StillTailTactics
import Derived.Deep.DeepCutAuto
namespace Go.Proofs.YtooeikimoheecaaGreat
open Go.RowKit
set_option maxRecDepth 100000
/-- What the search over the legs of a route finds tells of the sailed route. -/
theorem legs_bad {f : ForecastD} {d : ChartD} {s : ShipD} {fr : Int} {r : List Int} {rows : List LegR} {a b : Int} {x : Option (List Int)} (hm : rows.map LegR.d = (if routeB d fr r = true then legsL f d s (rteL d fr r) r else [])) (hx : SailRes rows a b x) (hp : sailPre f d s fr r = false) : x = none := by
  cases rows with
  | nil => exact hx.1 rfl
  | cons l0 rows =>
    have h0 := hx.2 l0 rfl
    cases hr : routeB d fr r with
    | false => rw [hr] at hm; cases hm
    | true =>
      rw [hr, if_pos rfl] at hm
      have e0 : (legsL f d s (rteL d fr r) r)[0]? = some l0.d := by rw [← hm]; rfl
      have hne : r ≠ [] := fun e => by rw [e] at e0; unfold legsL at e0; simp at e0
      have hbad : fcB f.mean f.parts f.surges = false ∨ shipB s = false := by
        unfold sailPre at hp
        rw [hr] at hp
        cases r with
        | nil => exact absurd rfl hne
        | cons i r => cases h1 : fcB f.mean f.parts f.surges <;> cases h2 : shipB s <;> simp_all
      have hs : l0.win.sure = [] := by
        obtain ⟨i, _, e⟩ := List.mem_map.1 (List.mem_of_getElem? e0)
        have e2 : l0.win.sure = startsL false f d i.1 s := (congrArg LegD.sure e).symm
        rw [e2]
        refine startsL_bad ?_
        rcases hbad with h | h
        · exact .inl h
        · right; unfold sailB; rw [h]; simp
      rw [hs] at h0
      cases x with
      | none => rfl
      | some out => obtain ⟨m, a, -, -, hh, -⟩ := h0; cases hh
theorem legs_found {f : ForecastD} {d : ChartD} {s : ShipD} {fr : Int} {r : List Int} {rows : List LegR} {a b : Int} {x : Option (List Int)} (hm : rows.map LegR.d = (if routeB d fr r = true then legsL f d s (rteL d fr r) r else [])) (hx : SailRes rows a b x) (hp : sailPre f d s fr r = true) :
    Found ((winsL f d s r).getD 0 []) (legsL f d s (rteL d fr r) r) a b x ∧ WOk ((winsL f d s r).getD 0 []) := by
  have hp' := hp
  unfold sailPre at hp'
  simp only [Bool.and_eq_true, Bool.not_eq_true'] at hp'
  obtain ⟨⟨⟨h1, h2⟩, h3⟩, h4⟩ := hp'
  rw [h3, if_pos rfl] at hm
  have hlen : (legsL f d s (rteL d fr r) r).length = r.length := legsL_len (by rw [(route_facts h3).2.1]; omega)
  cases rows with
  | nil =>
    have e : r.length = 0 := by rw [← hlen, ← hm]; rfl
    rw [List.eq_nil_of_length_eq_zero e] at h4
    cases h4
  | cons l0 rows =>
    have e0 : (legsL f d s (rteL d fr r) r)[0]? = some l0.d := by rw [← hm]; rfl
    have ew := wins_head e0
    rw [ew]
    refine ⟨by rw [← hm]; exact hx.2 l0 rfl, ?_⟩
    obtain ⟨i, _, e⟩ := List.mem_map.1 (List.mem_of_getElem? e0)
    have e2 : l0.d.sure = startsL false f d i.1 s := (congrArg LegD.sure e).symm
    rw [e2]
    exact starts_wok false f d i.1 s
theorem legs_wok {f : ForecastD} {d : ChartD} {s : ShipD} {fr : Int} {r : List Int} {rows : List LegR} (hm : rows.map LegR.d = (if routeB d fr r = true then legsL f d s (rteL d fr r) r else [])) : ∀ x ∈ rows, ∃ i p, x.d = legOf f d s i p := fun x hx => by
  have h1 : x.d ∈ rows.map LegR.d := List.mem_map_of_mem hx
  rw [hm] at h1
  split at h1
  · obtain ⟨i, _, e⟩ := List.mem_map.1 h1
    exact ⟨i.1, i.2, e.symm⟩
  · cases h1
theorem legs_wok' {f : ForecastD} {d : ChartD} {s : ShipD} {fr : Int} {r : List Int} {rows : List LegR} (hm : rows.map LegR.d = (if routeB d fr r = true then legsL f d s (rteL d fr r) r else [])) : ∀ x ∈ rows, WOk x.win.sure := fun x hx => by
  obtain ⟨i, p, e⟩ := legs_wok hm x hx
  have e2 : x.win.sure = startsL false f d i s := congrArg LegD.sure e
  rw [e2]
  exact starts_wok false f d i s
theorem legs_mins {f : ForecastD} {d : ChartD} {s : ShipD} {fr : Int} {r : List Int} {rows : List LegR} (hm : rows.map LegR.d = (if routeB d fr r = true then legsL f d s (rteL d fr r) r else [])) : ∀ l0, rows[0]? = some l0 → l0.win.sure ≠ [] → ∀ x ∈ rows, 0 ≤ x.mins ∧ x.mins ≤ 480 := fun l0 h0 hne x hx => by
  have hr : routeB d fr r = true := by
    cases hr : routeB d fr r with
    | true => rfl
    | false =>
      rw [hr] at hm
      rw [if_neg (by simp)] at hm
      have := List.map_eq_nil_iff.1 hm
      rw [this] at hx
      cases hx
  obtain ⟨i0, p0, e0⟩ := legs_wok hm l0 (List.mem_of_getElem? h0)
  have e1 : l0.win.sure = startsL false f d i0 s := congrArg LegD.sure e0
  have hsb : sailB d i0 s = true := by
    cases h : sailB d i0 s with
    | true => rfl
    | false => exact absurd (e1.trans (startsL_bad (.inr h))) hne
  have hsh : shipB s = true := by unfold sailB at hsb; simp only [Bool.and_eq_true] at hsb; exact hsb.1.2
  obtain ⟨hcb, hpl, hpin, hsin⟩ := route_facts hr
  rw [hr, if_pos rfl] at hm
  have h1 : x.d ∈ legsL f d s (rteL d fr r) r := by rw [← hm]; exact List.mem_map_of_mem hx
  obtain ⟨⟨i, p⟩, hip, e⟩ := List.mem_map.1 h1
  obtain ⟨g, hg, hgx, -⟩ := hsin i (List.of_mem_zip hip).1
  have e3 : x.mins = minOn d i s := (congrArg LegD.mins e).symm
  rw [e3, minOn_ok hcb hsh hg]
  obtain ⟨-, -, -, -, -, -, -, m0, m1⟩ := segB_true (chartB_seg hcb hgx)
  unfold onMin
  split <;> omega
theorem res_sail {f : ForecastD} {d : ChartD} {s : ShipD} {fr : Int} {r : List Int} {rows : List LegR} {st : Int} {x : Option (List Int)} (hm : rows.map LegR.d = (if routeB d fr r = true then legsL f d s (rteL d fr r) r else [])) (hx : SailRes rows st st x) : sailO f d s fr r st = x := by
  cases hp : sailPre f d s fr r with
  | false => rw [sailO_bad hp, legs_bad hm hx hp]
  | true => exact found_sail hp (legs_found hm hx hp).1
theorem res_first {f : ForecastD} {d : ChartD} {s : ShipD} {fr : Int} {r : List Int} {rows : List LegR} {st : Int} {x : Option (List Int)} (hm : rows.map LegR.d = (if routeB d fr r = true then legsL f d s (rteL d fr r) r else [])) (hx : SailRes rows st 2880 x) : firstSail f d s fr r st = x := by
  cases hp : sailPre f d s fr r with
  | false => rw [firstSail_bad hp, legs_bad hm hx hp]
  | true => exact found_first hp (legs_found hm hx hp).2 (legs_found hm hx hp).1
set_option maxHeartbeats 4000000 in
theorem implSailRoute (yf0 yf1 : Value) (f : ForecastD) (yd0 yd1 : Value) (d : ChartD) (s : ShipD) (fr : Int) (yr : Value) (r : List Int) (st : Int) (w : World) (rf : RdForecast w yf0 yf1 f) (rd : RdChart w yd0 yd1 d) (rr : SlInt w yr r) (fd : ∀ x ∈ d.points, PointD.wf x) (fs : s.wf) :
    Calls Tryz.prog 22 #[.agg #[.int .i64 f.mean, yf0, yf1], .agg #[yd0, yd1], s.val, .int .i64 fr, yr, .int .i64 st] w (SailPost (sailO f d s fr r st) w) := by
  have Rf := Lib.hid rf
  obtain ⟨rf0, rf1⟩ := rf
  obtain ⟨Af0, cf0, rfl⟩ := SlOf.form rf0
  obtain ⟨Af1, cf1, rfl⟩ := SlOf.form rf1
  clear rf0 rf1
  have Rd := Lib.hid rd
  obtain ⟨rd0, rd1⟩ := rd
  obtain ⟨Ad0, cd0, rfl⟩ := SlOf.form rd0
  obtain ⟨Ad1, cd1, rfl⟩ := SlOf.form rd1
  have Nd := Lib.hid fd
  clear fd
  clear rd0 rd1
  have Ns := Lib.hid fs
  clear fs
  have Rr := Lib.hid rr
  obtain ⟨Ar, cr, rfl⟩ := SlOf.form rr
  clear rr
  obtain ⟨W0, hW0⟩ : ∃ W0, W0 = (((w.alloc (.cells #[.int .i64 f.mean, .slice Af0 f.parts.length cf0, .slice Af1 f.surges.length cf1] 44)).alloc (.cells #[.slice Ad0 d.points.length cd0, .slice Ad1 d.segs.length cd1] 49)).alloc (.cells #[.string s.name, .int .i64 s.length, .int .i64 s.draught, .int .i64 s.line, .int .i64 s.tugs, .bool s.slow] 65)) := ⟨_, rfl⟩
  have B := Lib.hid (((Joins.below_alloc1 w (.cells #[.int .i64 f.mean, .slice Af0 f.parts.length cf0, .slice Af1 f.surges.length cf1] 44)).trans ((Joins.below_alloc1 (w.alloc (.cells #[.int .i64 f.mean, .slice Af0 f.parts.length cf0, .slice Af1 f.surges.length cf1] 44)) (.cells #[.slice Ad0 d.points.length cd0, .slice Ad1 d.segs.length cd1] 49)).mono (by simp; try omega))).trans ((Joins.below_alloc1 ((w.alloc (.cells #[.int .i64 f.mean, .slice Af0 f.parts.length cf0, .slice Af1 f.surges.length cf1] 44)).alloc (.cells #[.slice Ad0 d.points.length cd0, .slice Ad1 d.segs.length cd1] 49)) (.cells #[.string s.name, .int .i64 s.length, .int .i64 s.draught, .int .i64 s.line, .int .i64 s.tugs, .bool s.slow] 65)).mono (by simp; try omega)))
  have Kf := Lib.hid (((Blk.new w #[.int .i64 f.mean, .slice Af0 f.parts.length cf0, .slice Af1 f.surges.length cf1] 44).below (Joins.below_alloc1 _ (.cells #[.slice Ad0 d.points.length cd0, .slice Ad1 d.segs.length cd1] 49))).below (Joins.below_alloc1 _ (.cells #[.string s.name, .int .i64 s.length, .int .i64 s.draught, .int .i64 s.line, .int .i64 s.tugs, .bool s.slow] 65)))
  have Kd := Lib.hid ((Blk.new (w.alloc (.cells #[.int .i64 f.mean, .slice Af0 f.parts.length cf0, .slice Af1 f.surges.length cf1] 44)) #[.slice Ad0 d.points.length cd0, .slice Ad1 d.segs.length cd1] 49).below (Joins.below_alloc1 _ (.cells #[.string s.name, .int .i64 s.length, .int .i64 s.draught, .int .i64 s.line, .int .i64 s.tugs, .bool s.slow] 65)))
  rw [World.size_alloc] at Kd
  have Ks := Lib.hid (Blk.new ((w.alloc (.cells #[.int .i64 f.mean, .slice Af0 f.parts.length cf0, .slice Af1 f.surges.length cf1] 44)).alloc (.cells #[.slice Ad0 d.points.length cd0, .slice Ad1 d.segs.length cd1] 49)) #[.string s.name, .int .i64 s.length, .int .i64 s.draught, .int .i64 s.line, .int .i64 s.tugs, .bool s.slow] 65)
  rw [World.size_alloc, World.size_alloc] at Ks
  have HW0 := Lib.hid hW0
  rw [← hW0] at B Kf Kd Ks
  clear hW0
  have hdl := Rd.out.2.1
  have hrl := Rr.out.1
  go_enter Tryz.func22, Tryz.ntmps22
  have vf0 : W0.cell? ⟨w.heap.size, 0, none⟩ = some (.int .i64 f.mean) := Kf.out.cell 0
  have vf1 : W0.cell? ⟨w.heap.size, 1, none⟩ = some (.slice Af0 f.parts.length cf0) := Kf.out.cell 1
  have vf2 : W0.cell? ⟨w.heap.size, 2, none⟩ = some (.slice Af1 f.surges.length cf1) := Kf.out.cell 2
  have vd0 : W0.cell? ⟨w.heap.size + 1, 0, none⟩ = some (.slice Ad0 d.points.length cd0) := Kd.out.cell 0
  have vd1 : W0.cell? ⟨w.heap.size + 1, 1, none⟩ = some (.slice Ad1 d.segs.length cd1) := Kd.out.cell 1
  have vs0 : W0.cell? ⟨w.heap.size + 2, 0, none⟩ = some (.string s.name) := Ks.out.cell 0
  have vs1 : W0.cell? ⟨w.heap.size + 2, 1, none⟩ = some (.int .i64 s.length) := Ks.out.cell 1
  have vs2 : W0.cell? ⟨w.heap.size + 2, 2, none⟩ = some (.int .i64 s.draught) := Ks.out.cell 2
  have vs3 : W0.cell? ⟨w.heap.size + 2, 3, none⟩ = some (.int .i64 s.line) := Ks.out.cell 3
  have vs4 : W0.cell? ⟨w.heap.size + 2, 4, none⟩ = some (.int .i64 s.tugs) := Ks.out.cell 4
  have vs5 : W0.cell? ⟨w.heap.size + 2, 5, none⟩ = some (.bool s.slow) := Ks.out.cell 5
  go_wp2_with fail
  rw [← HW0.out]
  clear vf0 vf1 vf2 vd0 vd1 vs0 vs1 vs2 vs3 vs4 vs5
  refine (legsOf_any _ _ f _ _ d s fr _ r _ (Rf.out.below B.out) (Rd.out.below B.out) (Rr.out.below B.out) Nd.out Ns.out).mono ?_
  rintro e w1 ⟨vl, rows, rfl, hrows, hrl2, hb1⟩
  have B1 := Lib.hid (B.out.trans (hb1.mono B.out.size))
  have Kf_1 := Lib.hid (Kf.out.below hb1)
  have Kd_1 := Lib.hid (Kd.out.below hb1)
  have Ks_1 := Lib.hid (Ks.out.below hb1)
  have RL := Lib.hid hrl2
  have HRO := Lib.hid hrows
  obtain ⟨Al, cl, rfl⟩ := SlOf.form hrl2.1
  clear hrl2 hrows
  clear hb1
  go_wp2_with fail
  refine (sailLegs_any _ rows st st _ RL.out (legs_wok' HRO.out) (legs_mins HRO.out)).mono ?_
  rintro e w2 ⟨x, hx, vo, rfl, hoo, hb2⟩
  have B2 := Lib.hid (B1.out.trans (hb2.mono B1.out.size))
  have Kf_2 := Lib.hid (Kf_1.out.below hb2)
  have Kd_2 := Lib.hid (Kd_1.out.below hb2)
  have Ks_2 := Lib.hid (Ks_1.out.below hb2)
  have E := Lib.hid (res_sail HRO.out hx)
  have OO := Lib.hid (own_lo (base' := w.heap.size) hoo B1.out.size)
  obtain ⟨Ao, co, rfl⟩ := own_form hoo
  clear hoo hx
  clear hb2
  go_wp2
  refine bodyPost_ret (v := .tuple #[.slice Ao (x.getD []).length co, .bool x.isSome]) (by simp [results, Tryz.results22, go_sem, *]) rfl ⟨_, by rw [E.out], by rw [E.out]; exact OO.out, B2.out⟩
set_option maxHeartbeats 4000000 in
theorem implFirstSail (yf0 yf1 : Value) (f : ForecastD) (yd0 yd1 : Value) (d : ChartD) (s : ShipD) (fr : Int) (yr : Value) (r : List Int) (st : Int) (w : World) (rf : RdForecast w yf0 yf1 f) (rd : RdChart w yd0 yd1 d) (rr : SlInt w yr r) (fd : ∀ x ∈ d.points, PointD.wf x) (fs : s.wf) :
    Calls Tryz.prog 29 #[.agg #[.int .i64 f.mean, yf0, yf1], .agg #[yd0, yd1], s.val, .int .i64 fr, yr, .int .i64 st] w (SailPost (firstSail f d s fr r st) w) := by
  have Rf := Lib.hid rf
  obtain ⟨rf0, rf1⟩ := rf
  obtain ⟨Af0, cf0, rfl⟩ := SlOf.form rf0
  obtain ⟨Af1, cf1, rfl⟩ := SlOf.form rf1
  clear rf0 rf1
  have Rd := Lib.hid rd
  obtain ⟨rd0, rd1⟩ := rd
  obtain ⟨Ad0, cd0, rfl⟩ := SlOf.form rd0
  obtain ⟨Ad1, cd1, rfl⟩ := SlOf.form rd1
  have Nd := Lib.hid fd
  clear fd
  clear rd0 rd1
  have Ns := Lib.hid fs
  clear fs
  have Rr := Lib.hid rr
  obtain ⟨Ar, cr, rfl⟩ := SlOf.form rr
  clear rr
  obtain ⟨W0, hW0⟩ : ∃ W0, W0 = (((w.alloc (.cells #[.int .i64 f.mean, .slice Af0 f.parts.length cf0, .slice Af1 f.surges.length cf1] 44)).alloc (.cells #[.slice Ad0 d.points.length cd0, .slice Ad1 d.segs.length cd1] 49)).alloc (.cells #[.string s.name, .int .i64 s.length, .int .i64 s.draught, .int .i64 s.line, .int .i64 s.tugs, .bool s.slow] 65)) := ⟨_, rfl⟩
  have B := Lib.hid (((Joins.below_alloc1 w (.cells #[.int .i64 f.mean, .slice Af0 f.parts.length cf0, .slice Af1 f.surges.length cf1] 44)).trans ((Joins.below_alloc1 (w.alloc (.cells #[.int .i64 f.mean, .slice Af0 f.parts.length cf0, .slice Af1 f.surges.length cf1] 44)) (.cells #[.slice Ad0 d.points.length cd0, .slice Ad1 d.segs.length cd1] 49)).mono (by simp; try omega))).trans ((Joins.below_alloc1 ((w.alloc (.cells #[.int .i64 f.mean, .slice Af0 f.parts.length cf0, .slice Af1 f.surges.length cf1] 44)).alloc (.cells #[.slice Ad0 d.points.length cd0, .slice Ad1 d.segs.length cd1] 49)) (.cells #[.string s.name, .int .i64 s.length, .int .i64 s.draught, .int .i64 s.line, .int .i64 s.tugs, .bool s.slow] 65)).mono (by simp; try omega)))
  have Kf := Lib.hid (((Blk.new w #[.int .i64 f.mean, .slice Af0 f.parts.length cf0, .slice Af1 f.surges.length cf1] 44).below (Joins.below_alloc1 _ (.cells #[.slice Ad0 d.points.length cd0, .slice Ad1 d.segs.length cd1] 49))).below (Joins.below_alloc1 _ (.cells #[.string s.name, .int .i64 s.length, .int .i64 s.draught, .int .i64 s.line, .int .i64 s.tugs, .bool s.slow] 65)))
  have Kd := Lib.hid ((Blk.new (w.alloc (.cells #[.int .i64 f.mean, .slice Af0 f.parts.length cf0, .slice Af1 f.surges.length cf1] 44)) #[.slice Ad0 d.points.length cd0, .slice Ad1 d.segs.length cd1] 49).below (Joins.below_alloc1 _ (.cells #[.string s.name, .int .i64 s.length, .int .i64 s.draught, .int .i64 s.line, .int .i64 s.tugs, .bool s.slow] 65)))
  rw [World.size_alloc] at Kd
  have Ks := Lib.hid (Blk.new ((w.alloc (.cells #[.int .i64 f.mean, .slice Af0 f.parts.length cf0, .slice Af1 f.surges.length cf1] 44)).alloc (.cells #[.slice Ad0 d.points.length cd0, .slice Ad1 d.segs.length cd1] 49)) #[.string s.name, .int .i64 s.length, .int .i64 s.draught, .int .i64 s.line, .int .i64 s.tugs, .bool s.slow] 65)
  rw [World.size_alloc, World.size_alloc] at Ks
  have HW0 := Lib.hid hW0
  rw [← hW0] at B Kf Kd Ks
  clear hW0
  have hdl := Rd.out.2.1
  have hrl := Rr.out.1
  go_enter Tryz.func29, Tryz.ntmps29
  have vf0 : W0.cell? ⟨w.heap.size, 0, none⟩ = some (.int .i64 f.mean) := Kf.out.cell 0
  have vf1 : W0.cell? ⟨w.heap.size, 1, none⟩ = some (.slice Af0 f.parts.length cf0) := Kf.out.cell 1
  have vf2 : W0.cell? ⟨w.heap.size, 2, none⟩ = some (.slice Af1 f.surges.length cf1) := Kf.out.cell 2
  have vd0 : W0.cell? ⟨w.heap.size + 1, 0, none⟩ = some (.slice Ad0 d.points.length cd0) := Kd.out.cell 0
  have vd1 : W0.cell? ⟨w.heap.size + 1, 1, none⟩ = some (.slice Ad1 d.segs.length cd1) := Kd.out.cell 1
  have vs0 : W0.cell? ⟨w.heap.size + 2, 0, none⟩ = some (.string s.name) := Ks.out.cell 0
  have vs1 : W0.cell? ⟨w.heap.size + 2, 1, none⟩ = some (.int .i64 s.length) := Ks.out.cell 1
  have vs2 : W0.cell? ⟨w.heap.size + 2, 2, none⟩ = some (.int .i64 s.draught) := Ks.out.cell 2
  have vs3 : W0.cell? ⟨w.heap.size + 2, 3, none⟩ = some (.int .i64 s.line) := Ks.out.cell 3
  have vs4 : W0.cell? ⟨w.heap.size + 2, 4, none⟩ = some (.int .i64 s.tugs) := Ks.out.cell 4
  have vs5 : W0.cell? ⟨w.heap.size + 2, 5, none⟩ = some (.bool s.slow) := Ks.out.cell 5
  go_wp2_with fail
  rw [← HW0.out]
  clear vf0 vf1 vf2 vd0 vd1 vs0 vs1 vs2 vs3 vs4 vs5
  refine (legsOf_any _ _ f _ _ d s fr _ r _ (Rf.out.below B.out) (Rd.out.below B.out) (Rr.out.below B.out) Nd.out Ns.out).mono ?_
  rintro e w1 ⟨vl, rows, rfl, hrows, hrl2, hb1⟩
  have B1 := Lib.hid (B.out.trans (hb1.mono B.out.size))
  have Kf_1 := Lib.hid (Kf.out.below hb1)
  have Kd_1 := Lib.hid (Kd.out.below hb1)
  have Ks_1 := Lib.hid (Ks.out.below hb1)
  have RL := Lib.hid hrl2
  have HRO := Lib.hid hrows
  obtain ⟨Al, cl, rfl⟩ := SlOf.form hrl2.1
  clear hrl2 hrows
  clear hb1
  go_wp2_with fail
  refine (sailLegs_any _ rows st 2880 _ RL.out (legs_wok' HRO.out) (legs_mins HRO.out)).mono ?_
  rintro e w2 ⟨x, hx, vo, rfl, hoo, hb2⟩
  have B2 := Lib.hid (B1.out.trans (hb2.mono B1.out.size))
  have Kf_2 := Lib.hid (Kf_1.out.below hb2)
  have Kd_2 := Lib.hid (Kd_1.out.below hb2)
  have Ks_2 := Lib.hid (Ks_1.out.below hb2)
  have E := Lib.hid (res_first HRO.out hx)
  have OO := Lib.hid (own_lo (base' := w.heap.size) hoo B1.out.size)
  obtain ⟨Ao, co, rfl⟩ := own_form hoo
  clear hoo hx
  clear hb2
  go_wp2
  refine bodyPost_ret (v := .tuple #[.slice Ao (x.getD []).length co, .bool x.isSome]) (by simp [results, Tryz.results29, go_sem, *]) rfl ⟨_, by rw [E.out], by rw [E.out]; exact OO.out, B2.out⟩
end Go.Proofs.YtooeikimoheecaaGreat
