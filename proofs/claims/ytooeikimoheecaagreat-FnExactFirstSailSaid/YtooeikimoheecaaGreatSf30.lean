
/- What ExactSailRoute and ExactFirstSail rests on, part 30: contracts and mathematics. -/
import Derived.Test.YtooeikimoheecaaGreatSf28
import Derived.Test.YtooeikimoheecaaGreatSf15
import Derived.Test.YtooeikimoheecaaGreatSf12
import Derived.Test.YtooeikimoheecaaGreatSf20
namespace Go.Proofs.YtooeikimoheecaaGreat
open Go.RowKit
set_option maxRecDepth 100000
set_option maxHeartbeats 4000000 in
theorem specStarts (hi : Bool) (y0 y1 : Value) (f : ForecastD) (v0 v1 : Value) (d : ChartD) (i : Int) (s : ShipD) (w : World) (hf : RdForecast w y0 y1 f) (h : RdChart w v0 v1 d) (hw : ∀ x ∈ d.points, PointD.wf x) (hs : s.wf) :
    Calls Tryz.prog 95 #[.agg #[.int .i64 f.mean, y0, y1], .agg #[v0, v1], .int .i64 i, s.val, .bool hi] w (NewWindow (startsL hi f d i s) w) := by
  have HF := Lib.hid hf
  have HR := Lib.hid h
  have HWF := Lib.hid hw
  have WS := Lib.hid hs
  obtain ⟨g0, g1⟩ := hf
  obtain ⟨F0, e0, rfl⟩ := SlOf.form g0
  obtain ⟨F1, e1, rfl⟩ := SlOf.form g1
  obtain ⟨h0, h1⟩ := h
  obtain ⟨A0, c0, rfl⟩ := h0.at
  obtain ⟨A1, c1, rfl⟩ := h1.at
  obtain ⟨W0, hW0⟩ : ∃ W0, W0 = (((w.alloc (.cells #[.int .i64 f.mean, .slice F0 f.parts.length e0, .slice F1 f.surges.length e1] 44)).alloc (.cells #[.slice A0 d.points.length c0, .slice A1 d.segs.length c1] 49)).alloc (.cells #[.string s.name, .int .i64 s.length, .int .i64 s.draught, .int .i64 s.line, .int .i64 s.tugs, .bool s.slow] 65)) := ⟨_, rfl⟩
  have B := Lib.hid ((Joins.below_alloc2 w (.cells #[.int .i64 f.mean, .slice F0 f.parts.length e0, .slice F1 f.surges.length e1] 44) (.cells #[.slice A0 d.points.length c0, .slice A1 d.segs.length c1] 49)).trans ((Joins.below_alloc1 ((w.alloc (.cells #[.int .i64 f.mean, .slice F0 f.parts.length e0, .slice F1 f.surges.length e1] 44)).alloc (.cells #[.slice A0 d.points.length c0, .slice A1 d.segs.length c1] 49)) (.cells #[.string s.name, .int .i64 s.length, .int .i64 s.draught, .int .i64 s.line, .int .i64 s.tugs, .bool s.slow] 65)).mono (by simp; omega)))
  have BF := Lib.hid (((Blk.new w #[.int .i64 f.mean, .slice F0 f.parts.length e0, .slice F1 f.surges.length e1] 44).below (Joins.below_alloc1 _ (.cells #[.slice A0 d.points.length c0, .slice A1 d.segs.length c1] 49))).below (Joins.below_alloc1 _ (.cells #[.string s.name, .int .i64 s.length, .int .i64 s.draught, .int .i64 s.line, .int .i64 s.tugs, .bool s.slow] 65)))
  have BC := Lib.hid ((Blk.new (w.alloc (.cells #[.int .i64 f.mean, .slice F0 f.parts.length e0, .slice F1 f.surges.length e1] 44)) #[.slice A0 d.points.length c0, .slice A1 d.segs.length c1] 49).below (Joins.below_alloc1 _ (.cells #[.string s.name, .int .i64 s.length, .int .i64 s.draught, .int .i64 s.line, .int .i64 s.tugs, .bool s.slow] 65)))
  have BS := Lib.hid (Blk.new ((w.alloc (.cells #[.int .i64 f.mean, .slice F0 f.parts.length e0, .slice F1 f.surges.length e1] 44)).alloc (.cells #[.slice A0 d.points.length c0, .slice A1 d.segs.length c1] 49)) #[.string s.name, .int .i64 s.length, .int .i64 s.draught, .int .i64 s.line, .int .i64 s.tugs, .bool s.slow] 65)
  rw [World.size_alloc] at BC
  rw [World.size_alloc, World.size_alloc] at BS
  have HW0 := Lib.hid hW0
  rw [← hW0] at B BF BC BS
  clear g0 g1 h0 h1 hw hs hW0
  obtain ⟨tf, htf⟩ : ∃ t, fcB f.mean f.parts f.surges = t := ⟨_, rfl⟩
  have HTF := Lib.hid htf
  obtain ⟨ts, hts⟩ : ∃ t, sailB d i s = t := ⟨_, rfl⟩
  have HTS := Lib.hid hts
  have f0 : W0.cell? ⟨w.heap.size, 0, none⟩ = some (.int .i64 f.mean) := BF.out.cell 0
  have f1 : W0.cell? ⟨w.heap.size, 1, none⟩ = some (.slice F0 f.parts.length e0) := BF.out.cell 1
  have f2 : W0.cell? ⟨w.heap.size, 2, none⟩ = some (.slice F1 f.surges.length e1) := BF.out.cell 2
  have p0 : W0.cell? ⟨w.heap.size + 1, 0, none⟩ = some (.slice A0 d.points.length c0) := BC.out.cell 0
  have p1 : W0.cell? ⟨w.heap.size + 1, 1, none⟩ = some (.slice A1 d.segs.length c1) := BC.out.cell 1
  have s0 : W0.cell? ⟨w.heap.size + 2, 0, none⟩ = some (.string s.name) := BS.out.cell 0
  have s1 : W0.cell? ⟨w.heap.size + 2, 1, none⟩ = some (.int .i64 s.length) := BS.out.cell 1
  have s2 : W0.cell? ⟨w.heap.size + 2, 2, none⟩ = some (.int .i64 s.draught) := BS.out.cell 2
  have s3 : W0.cell? ⟨w.heap.size + 2, 3, none⟩ = some (.int .i64 s.line) := BS.out.cell 3
  have s4 : W0.cell? ⟨w.heap.size + 2, 4, none⟩ = some (.int .i64 s.tugs) := BS.out.cell 4
  have s5 : W0.cell? ⟨w.heap.size + 2, 5, none⟩ = some (.bool s.slow) := BS.out.cell 5
  cases tf with
  | false =>
    have E := Lib.hid (startsL_bad (hi := hi) (d := d) (i := i) (s := s) (.inl htf))
    clear htf hts
    go_enter Tryz.func95, Tryz.ntmps95
    go_wp2_with fail
    rw [← HW0.out]
    clear f0 f1 f2 p0 p1 s0 s1 s2 s3 s4 s5
    refine (specForecastOk f.mean _ _ f.parts f.surges _ (HF.out.below B.out).1 (HF.out.below B.out).2).mono ?_
    rw [HTF.out]
    rintro e w1 ⟨rfl, hb1⟩
    have B1 := Lib.hid (B.out.trans (hb1.mono B.out.size))
    clear hb1
    go_wp2
    go_ret
    exact ⟨_, rfl, by rw [E.out]; exact (GathO.empty (cs := WindowD.cells) (t := 145) (k := 2) B1.out).1, B1.out⟩
  | true =>
  cases ts with
  | false =>
    have E := Lib.hid (startsL_bad (hi := hi) (f := f) (.inr hts))
    clear htf hts
    go_enter Tryz.func95, Tryz.ntmps95
    go_wp2_with fail
    rw [← HW0.out]
    clear f0 f1 f2 p0 p1 s0 s1 s2 s3 s4 s5
    refine (specForecastOk f.mean _ _ f.parts f.surges _ (HF.out.below B.out).1 (HF.out.below B.out).2).mono ?_
    rw [HTF.out]
    rintro e w1 ⟨rfl, hb1⟩
    have B1 := Lib.hid (B.out.trans (hb1.mono B.out.size))
    have f0 : w1.cell? ⟨w.heap.size, 0, none⟩ = some (.int .i64 f.mean) := (BF.out.below hb1).cell 0
    have f1 : w1.cell? ⟨w.heap.size, 1, none⟩ = some (.slice F0 f.parts.length e0) := (BF.out.below hb1).cell 1
    have f2 : w1.cell? ⟨w.heap.size, 2, none⟩ = some (.slice F1 f.surges.length e1) := (BF.out.below hb1).cell 2
    have p0 : w1.cell? ⟨w.heap.size + 1, 0, none⟩ = some (.slice A0 d.points.length c0) := (BC.out.below hb1).cell 0
    have p1 : w1.cell? ⟨w.heap.size + 1, 1, none⟩ = some (.slice A1 d.segs.length c1) := (BC.out.below hb1).cell 1
    have s0 : w1.cell? ⟨w.heap.size + 2, 0, none⟩ = some (.string s.name) := (BS.out.below hb1).cell 0
    have s1 : w1.cell? ⟨w.heap.size + 2, 1, none⟩ = some (.int .i64 s.length) := (BS.out.below hb1).cell 1
    have s2 : w1.cell? ⟨w.heap.size + 2, 2, none⟩ = some (.int .i64 s.draught) := (BS.out.below hb1).cell 2
    have s3 : w1.cell? ⟨w.heap.size + 2, 3, none⟩ = some (.int .i64 s.line) := (BS.out.below hb1).cell 3
    have s4 : w1.cell? ⟨w.heap.size + 2, 4, none⟩ = some (.int .i64 s.tugs) := (BS.out.below hb1).cell 4
    have s5 : w1.cell? ⟨w.heap.size + 2, 5, none⟩ = some (.bool s.slow) := (BS.out.below hb1).cell 5
    have BF1 := Lib.hid (BF.out.below hb1)
    have BC1 := Lib.hid (BC.out.below hb1)
    have BS1 := Lib.hid (BS.out.below hb1)
    clear hb1
    go_wp2_with fail
    clear f0 f1 f2 p0 p1 s0 s1 s2 s3 s4 s5
    refine (specSail _ _ d i s _ (HR.out.below B1.out) HWF.out WS.out).mono ?_
    rw [HTS.out]
    rintro e w2 ⟨rfl, hb2⟩
    have B2 := Lib.hid (B1.out.trans (hb2.mono B1.out.size))
    clear hb2
    go_wp2
    go_ret
    exact ⟨_, rfl, by rw [E.out]; exact (GathO.empty (cs := WindowD.cells) (t := 145) (k := 2) B2.out).1, B2.out⟩
  | true =>
  have E := Lib.hid (startsL_ok (hi := hi) htf hts)
  obtain ⟨lv, hlv⟩ : ∃ lv, levForI d i s = lv := ⟨_, rfl⟩
  obtain ⟨mn, hmn⟩ : ∃ mn, minOn d i s = mn := ⟨_, rfl⟩
  rw [hlv, hmn] at E
  have HLV := Lib.hid hlv
  have HMN := Lib.hid hmn
  have hwl : wetL hi f.mean f.parts f.surges lv = ofMarks (wetF hi f.mean f.parts f.surges lv) 2881 := if_pos htf
  have hll := wetL_len hi f.mean f.parts f.surges lv
  obtain ⟨LW, hLW⟩ : ∃ LW, wetL hi f.mean f.parts f.surges lv = LW := ⟨_, rfl⟩
  rw [hLW] at hwl hll E
  have HLW := Lib.hid hwl
  have HLL := Lib.hid hll
  have hrl := starts_len hi f d i s
  rw [E.out] at hrl
  obtain ⟨R, hR⟩ : ∃ R, shrinkL LW mn = R := ⟨_, rfl⟩
  rw [hR] at hrl E
  have HRE := Lib.hid hR
  have HRL := Lib.hid hrl
  clear htf hts hlv hmn hwl hll hLW hR hrl
  go_enter Tryz.func95, Tryz.ntmps95
  go_wp2_with fail
  rw [← HW0.out]
  clear f0 f1 f2 p0 p1 s0 s1 s2 s3 s4 s5
  refine (specForecastOk f.mean _ _ f.parts f.surges _ (HF.out.below B.out).1 (HF.out.below B.out).2).mono ?_
  rw [HTF.out]
  rintro e w1 ⟨rfl, hb1⟩
  have B1 := Lib.hid (B.out.trans (hb1.mono B.out.size))
  have f0 : w1.cell? ⟨w.heap.size, 0, none⟩ = some (.int .i64 f.mean) := (BF.out.below hb1).cell 0
  have f1 : w1.cell? ⟨w.heap.size, 1, none⟩ = some (.slice F0 f.parts.length e0) := (BF.out.below hb1).cell 1
  have f2 : w1.cell? ⟨w.heap.size, 2, none⟩ = some (.slice F1 f.surges.length e1) := (BF.out.below hb1).cell 2
  have p0 : w1.cell? ⟨w.heap.size + 1, 0, none⟩ = some (.slice A0 d.points.length c0) := (BC.out.below hb1).cell 0
  have p1 : w1.cell? ⟨w.heap.size + 1, 1, none⟩ = some (.slice A1 d.segs.length c1) := (BC.out.below hb1).cell 1
  have s0 : w1.cell? ⟨w.heap.size + 2, 0, none⟩ = some (.string s.name) := (BS.out.below hb1).cell 0
  have s1 : w1.cell? ⟨w.heap.size + 2, 1, none⟩ = some (.int .i64 s.length) := (BS.out.below hb1).cell 1
  have s2 : w1.cell? ⟨w.heap.size + 2, 2, none⟩ = some (.int .i64 s.draught) := (BS.out.below hb1).cell 2
  have s3 : w1.cell? ⟨w.heap.size + 2, 3, none⟩ = some (.int .i64 s.line) := (BS.out.below hb1).cell 3
  have s4 : w1.cell? ⟨w.heap.size + 2, 4, none⟩ = some (.int .i64 s.tugs) := (BS.out.below hb1).cell 4
  have s5 : w1.cell? ⟨w.heap.size + 2, 5, none⟩ = some (.bool s.slow) := (BS.out.below hb1).cell 5
  have BF1 := Lib.hid (BF.out.below hb1)
  have BC1 := Lib.hid (BC.out.below hb1)
  have BS1 := Lib.hid (BS.out.below hb1)
  clear hb1
  go_wp2_with fail
  clear f0 f1 f2 p0 p1 s0 s1 s2 s3 s4 s5
  refine (specSail _ _ d i s _ (HR.out.below B1.out) HWF.out WS.out).mono ?_
  rw [HTS.out]
  rintro e w2 ⟨rfl, hb2⟩
  have B2 := Lib.hid (B1.out.trans (hb2.mono B1.out.size))
  have K1 := BF1.out.below hb2
  have K2 := BC1.out.below hb2
  have K3 := BS1.out.below hb2
  have FF0 := Lib.hid (show w2.cell? ⟨w.heap.size, 0, none⟩ = some (.int .i64 f.mean) from K1.cell 0)
  have FF1 := Lib.hid (show w2.cell? ⟨w.heap.size, 1, none⟩ = some (.slice F0 f.parts.length e0) from K1.cell 1)
  have FF2 := Lib.hid (show w2.cell? ⟨w.heap.size, 2, none⟩ = some (.slice F1 f.surges.length e1) from K1.cell 2)
  have FC0 := Lib.hid (show w2.cell? ⟨w.heap.size + 1, 0, none⟩ = some (.slice A0 d.points.length c0) from K2.cell 0)
  have FC1 := Lib.hid (show w2.cell? ⟨w.heap.size + 1, 1, none⟩ = some (.slice A1 d.segs.length c1) from K2.cell 1)
  have FS0 := Lib.hid (show w2.cell? ⟨w.heap.size + 2, 0, none⟩ = some (.string s.name) from K3.cell 0)
  have FS1 := Lib.hid (show w2.cell? ⟨w.heap.size + 2, 1, none⟩ = some (.int .i64 s.length) from K3.cell 1)
  have FS2 := Lib.hid (show w2.cell? ⟨w.heap.size + 2, 2, none⟩ = some (.int .i64 s.draught) from K3.cell 2)
  have FS3 := Lib.hid (show w2.cell? ⟨w.heap.size + 2, 3, none⟩ = some (.int .i64 s.line) from K3.cell 3)
  have FS4 := Lib.hid (show w2.cell? ⟨w.heap.size + 2, 4, none⟩ = some (.int .i64 s.tugs) from K3.cell 4)
  have FS5 := Lib.hid (show w2.cell? ⟨w.heap.size + 2, 5, none⟩ = some (.bool s.slow) from K3.cell 5)
  have HR2 := Lib.hid (HR.out.below B2.out)
  have HF2 := Lib.hid (HF.out.below B2.out)
  clear hb2 K1 K2 K3
  have DD := Lib.hid ((Below.refl w2.heap.size w2).drew)
  have vFF0 := FF0.out
  have vFF1 := FF1.out
  have vFF2 := FF2.out
  have vFC0 := FC0.out
  have vFC1 := FC1.out
  have vFS0 := FS0.out
  have vFS1 := FS1.out
  have vFS2 := FS2.out
  have vFS3 := FS3.out
  have vFS4 := FS4.out
  have vFS5 := FS5.out
  go_upto_region 3 with fail
  refine wp_region_held_drew (S := (fun w' => w'.cell? ⟨w.heap.size, 0, none⟩ = some (.int .i64 f.mean) ∧ w'.cell? ⟨w.heap.size, 1, none⟩ = some (.slice F0 f.parts.length e0) ∧ w'.cell? ⟨w.heap.size, 2, none⟩ = some (.slice F1 f.surges.length e1) ∧ w'.cell? ⟨w.heap.size + 1, 0, none⟩ = some (.slice A0 d.points.length c0) ∧ w'.cell? ⟨w.heap.size + 1, 1, none⟩ = some (.slice A1 d.segs.length c1) ∧ w'.cell? ⟨w.heap.size + 2, 0, none⟩ = some (.string s.name) ∧ w'.cell? ⟨w.heap.size + 2, 1, none⟩ = some (.int .i64 s.length) ∧ w'.cell? ⟨w.heap.size + 2, 2, none⟩ = some (.int .i64 s.draught) ∧ w'.cell? ⟨w.heap.size + 2, 3, none⟩ = some (.int .i64 s.line) ∧ w'.cell? ⟨w.heap.size + 2, 4, none⟩ = some (.int .i64 s.tugs) ∧ w'.cell? ⟨w.heap.size + 2, 5, none⟩ = some (.bool s.slow) ∧ Hid (Below w2.heap.size w2 w'))) (by kernel_rfl) ?_ (fun hHeld => ?_)
  · (try dsimp only); go_keep
  refine wpAnyH_take (i := 0) (v := ?_) (by simp only [List.getElem?_toArray, List.getElem?_cons_zero]; rfl) (by kernel_rfl) (by kernel_rfl) (by kernel_rfl) (by exact fun _ _ _ h => h) (Or.inl ⟨by rfl, ?_⟩) (by assumption) ?_; rotate_left; focus (intro w hSw; (try dsimp only at hSw); first | (go_simp; done) | (go_simp; with_reducible rfl))
  try simp only [Act.put, List.setIfInBounds_toArray, List.set_cons_zero, List.set_cons_succ]
  refine wpAnyH_take (i := 1) (v := ?_) (by simp only [List.getElem?_toArray, List.getElem?_cons_succ, List.getElem?_cons_zero]; rfl) (by kernel_rfl) (by kernel_rfl) (by kernel_rfl) (by exact fun _ _ _ h => h) (Or.inl ⟨by rfl, ?_⟩) (by assumption) ?_; rotate_left; focus (intro w hSw; (try dsimp only at hSw); first | (go_simp; done) | (go_simp; with_reducible rfl))
  try simp only [Act.put, List.setIfInBounds_toArray, List.set_cons_zero, List.set_cons_succ]
  refine wpAnyH_take (i := 2) (v := ?_) (by simp only [List.getElem?_toArray, List.getElem?_cons_succ, List.getElem?_cons_zero]; rfl) (by kernel_rfl) (by kernel_rfl) (by kernel_rfl) (by exact fun _ _ _ h => h) (Or.inl ⟨by rfl, ?_⟩) (by assumption) ?_; rotate_left; focus (intro w hSw; (try dsimp only at hSw); first | (go_simp; done) | (go_simp; with_reducible rfl))
  try simp only [Act.put, List.setIfInBounds_toArray, List.set_cons_zero, List.set_cons_succ]
  refine wpAnyH_take (i := 3) (v := ?_) (by simp only [List.getElem?_toArray, List.getElem?_cons_succ, List.getElem?_cons_zero]; rfl) (by kernel_rfl) (by kernel_rfl) (by kernel_rfl) (by exact fun _ _ _ h => h) (Or.inl ⟨by rfl, ?_⟩) (by assumption) ?_; rotate_left; focus (intro w hSw; (try dsimp only at hSw); first | (go_simp; done) | (go_simp; with_reducible rfl))
  try simp only [Act.put, List.setIfInBounds_toArray, List.set_cons_zero, List.set_cons_succ]
  refine wpAnyH_take (i := 5) (v := ?_) (by simp only [List.getElem?_toArray, List.getElem?_cons_succ, List.getElem?_cons_zero]; rfl) (by kernel_rfl) (by kernel_rfl) (by kernel_rfl) (by exact fun _ _ _ h => h) (Or.inl ⟨by rfl, ?_⟩) (by assumption) ?_; rotate_left; focus (intro w hSw; (try dsimp only at hSw); first | (go_simp; done) | (go_simp; with_reducible rfl))
  try simp only [Act.put, List.setIfInBounds_toArray, List.set_cons_zero, List.set_cons_succ]
  refine wpAnyH_take (i := 7) (v := ?_) (by simp only [List.getElem?_toArray, List.getElem?_cons_succ, List.getElem?_cons_zero]; rfl) (by kernel_rfl) (by kernel_rfl) (by kernel_rfl) (by exact fun _ _ _ h => h) (Or.inl ⟨by rfl, ?_⟩) (by assumption) ?_; rotate_left; focus (intro w hSw; (try dsimp only at hSw); first | (go_simp; done) | (go_simp; with_reducible rfl))
  try simp only [Act.put, List.setIfInBounds_toArray, List.set_cons_zero, List.set_cons_succ]
  refine wpAnyH_take (i := 8) (v := ?_) (by simp only [List.getElem?_toArray, List.getElem?_cons_succ, List.getElem?_cons_zero]; rfl) (by kernel_rfl) (by kernel_rfl) (by kernel_rfl) (by exact fun _ _ _ h => h) (Or.inl ⟨by rfl, ?_⟩) (by assumption) ?_; rotate_left; focus (intro w hSw; (try dsimp only at hSw); first | (go_simp; done) | (go_simp; with_reducible rfl))
  try simp only [Act.put, List.setIfInBounds_toArray, List.set_cons_zero, List.set_cons_succ]
  refine wpAnyH_take (i := 9) (v := ?_) (by simp only [List.getElem?_toArray, List.getElem?_cons_succ, List.getElem?_cons_zero]; rfl) (by kernel_rfl) (by kernel_rfl) (by kernel_rfl) (by exact fun _ _ _ h => h) (Or.inl ⟨by rfl, ?_⟩) (by assumption) ?_; rotate_left; focus (intro w hSw; (try dsimp only at hSw); first | (go_simp; done) | (go_simp; with_reducible rfl))
  try simp only [Act.put, List.setIfInBounds_toArray, List.set_cons_zero, List.set_cons_succ]
  refine wpAnyH_ready (rs := [4]) (by kernel_rfl) (by simp) ?_
  refine AllReadyH.cons rfl (fun K hK => ?_) AllReadyH.nil
  rw [if_pos (by rfl)]
  go_simp
  go_at_call 114
  have kB := hHeld.2.2.2.2.2.2.2.2.2.2.2
  refine (specLevelFor _ _ d i s _ (HR2.out.below kB.out) HWF.out WS.out).mono ?_
  rw [HLV.out]
  rintro e wq4 ⟨rfl, hbk⟩
  have HBK := kB.out.trans (hbk.mono kB.out.size)
  have QS := Lib.hid (show wq4.cell? ⟨w.heap.size, 0, none⟩ = some (.int .i64 f.mean) ∧ wq4.cell? ⟨w.heap.size, 1, none⟩ = some (.slice F0 f.parts.length e0) ∧ wq4.cell? ⟨w.heap.size, 2, none⟩ = some (.slice F1 f.surges.length e1) ∧ wq4.cell? ⟨w.heap.size + 1, 0, none⟩ = some (.slice A0 d.points.length c0) ∧ wq4.cell? ⟨w.heap.size + 1, 1, none⟩ = some (.slice A1 d.segs.length c1) ∧ wq4.cell? ⟨w.heap.size + 2, 0, none⟩ = some (.string s.name) ∧ wq4.cell? ⟨w.heap.size + 2, 1, none⟩ = some (.int .i64 s.length) ∧ wq4.cell? ⟨w.heap.size + 2, 2, none⟩ = some (.int .i64 s.draught) ∧ wq4.cell? ⟨w.heap.size + 2, 3, none⟩ = some (.int .i64 s.line) ∧ wq4.cell? ⟨w.heap.size + 2, 4, none⟩ = some (.int .i64 s.tugs) ∧ wq4.cell? ⟨w.heap.size + 2, 5, none⟩ = some (.bool s.slow) ∧ Hid (Below w2.heap.size w2 wq4) from ⟨cell_onV FF0.out HBK, cell_onV FF1.out HBK, cell_onV FF2.out HBK, cell_onV FC0.out HBK, cell_onV FC1.out HBK, cell_onV FS0.out HBK, cell_onV FS1.out HBK, cell_onV FS2.out HBK, cell_onV FS3.out HBK, cell_onV FS4.out HBK, cell_onV FS5.out HBK, Lib.hid HBK⟩)
  clear hbk kB hHeld HBK
  go_simp
  refine hK.out _ _ ?_ (fun hHeld => ?_)
  · (try dsimp only); exact QS.out
  clear hK K
  try simp only [Act.put, List.setIfInBounds_toArray, List.set_cons_zero, List.set_cons_succ]
  refine wpAnyH_ready (rs := [6]) (by kernel_rfl) (by simp) ?_
  refine AllReadyH.cons rfl (fun K hK => ?_) AllReadyH.nil
  rw [if_pos (by rfl)]
  go_simp
  go_at_call 113
  have kB := hHeld.2.2.2.2.2.2.2.2.2.2.2
  refine (l04Levels_any hi f.mean _ _ f.parts f.surges lv _ (HF2.out.below kB.out).1 (HF2.out.below kB.out).2 HTF.out).mono ?_
  rw [← HLW.out]
  rintro e wq6 ⟨vw, rfl, ho, hbk⟩
  have hll := HLL.out
  have SW := Lib.hid (own_sl windowLen ho (by omega))
  obtain ⟨AW, cw, rfl⟩ := own_form ho
  clear ho hll
  have HBK := kB.out.trans (hbk.mono kB.out.size)
  have QS := Lib.hid (show wq6.cell? ⟨w.heap.size, 0, none⟩ = some (.int .i64 f.mean) ∧ wq6.cell? ⟨w.heap.size, 1, none⟩ = some (.slice F0 f.parts.length e0) ∧ wq6.cell? ⟨w.heap.size, 2, none⟩ = some (.slice F1 f.surges.length e1) ∧ wq6.cell? ⟨w.heap.size + 1, 0, none⟩ = some (.slice A0 d.points.length c0) ∧ wq6.cell? ⟨w.heap.size + 1, 1, none⟩ = some (.slice A1 d.segs.length c1) ∧ wq6.cell? ⟨w.heap.size + 2, 0, none⟩ = some (.string s.name) ∧ wq6.cell? ⟨w.heap.size + 2, 1, none⟩ = some (.int .i64 s.length) ∧ wq6.cell? ⟨w.heap.size + 2, 2, none⟩ = some (.int .i64 s.draught) ∧ wq6.cell? ⟨w.heap.size + 2, 3, none⟩ = some (.int .i64 s.line) ∧ wq6.cell? ⟨w.heap.size + 2, 4, none⟩ = some (.int .i64 s.tugs) ∧ wq6.cell? ⟨w.heap.size + 2, 5, none⟩ = some (.bool s.slow) ∧ Hid (Below w2.heap.size w2 wq6) from ⟨cell_onV FF0.out HBK, cell_onV FF1.out HBK, cell_onV FF2.out HBK, cell_onV FC0.out HBK, cell_onV FC1.out HBK, cell_onV FS0.out HBK, cell_onV FS1.out HBK, cell_onV FS2.out HBK, cell_onV FS3.out HBK, cell_onV FS4.out HBK, cell_onV FS5.out HBK, Lib.hid HBK⟩)
  clear hbk kB hHeld HBK
  go_simp
  refine hK.out _ _ ?_ (fun hHeld => ?_)
  · (try dsimp only); exact QS.out
  clear hK K
  try simp only [Act.put, List.setIfInBounds_toArray, List.set_cons_zero, List.set_cons_succ]
  refine wpAnyH_ready (rs := [10]) (by kernel_rfl) (by simp) ?_
  refine AllReadyH.cons rfl (fun K hK => ?_) AllReadyH.nil
  rw [if_pos (by rfl)]
  go_simp
  go_at_call 64
  have kB := hHeld.2.2.2.2.2.2.2.2.2.2.2
  refine (specMinutesOn _ _ d i s _ (HR2.out.below kB.out) HWF.out WS.out).mono ?_
  rw [HMN.out]
  rintro e wq10 ⟨rfl, hbk⟩
  have SW2 := Lib.hid (SlOf.below SW.out hbk)
  clear SW
  have HBK := kB.out.trans (hbk.mono kB.out.size)
  have QS := Lib.hid (show wq10.cell? ⟨w.heap.size, 0, none⟩ = some (.int .i64 f.mean) ∧ wq10.cell? ⟨w.heap.size, 1, none⟩ = some (.slice F0 f.parts.length e0) ∧ wq10.cell? ⟨w.heap.size, 2, none⟩ = some (.slice F1 f.surges.length e1) ∧ wq10.cell? ⟨w.heap.size + 1, 0, none⟩ = some (.slice A0 d.points.length c0) ∧ wq10.cell? ⟨w.heap.size + 1, 1, none⟩ = some (.slice A1 d.segs.length c1) ∧ wq10.cell? ⟨w.heap.size + 2, 0, none⟩ = some (.string s.name) ∧ wq10.cell? ⟨w.heap.size + 2, 1, none⟩ = some (.int .i64 s.length) ∧ wq10.cell? ⟨w.heap.size + 2, 2, none⟩ = some (.int .i64 s.draught) ∧ wq10.cell? ⟨w.heap.size + 2, 3, none⟩ = some (.int .i64 s.line) ∧ wq10.cell? ⟨w.heap.size + 2, 4, none⟩ = some (.int .i64 s.tugs) ∧ wq10.cell? ⟨w.heap.size + 2, 5, none⟩ = some (.bool s.slow) ∧ Hid (Below w2.heap.size w2 wq10) from ⟨cell_onV FF0.out HBK, cell_onV FF1.out HBK, cell_onV FF2.out HBK, cell_onV FC0.out HBK, cell_onV FC1.out HBK, cell_onV FS0.out HBK, cell_onV FS1.out HBK, cell_onV FS2.out HBK, cell_onV FS3.out HBK, cell_onV FS4.out HBK, cell_onV FS5.out HBK, Lib.hid HBK⟩)
  clear hbk kB hHeld HBK
  go_simp
  refine hK.out _ _ ?_ (fun hHeld => ?_)
  · (try dsimp only); exact QS.out
  clear hK K
  try simp only [Act.put, List.setIfInBounds_toArray, List.set_cons_zero, List.set_cons_succ]
  refine wpAnyH_ready (rs := [11]) (by kernel_rfl) (by simp) ?_
  refine AllReadyH.cons rfl (fun K hK => ?_) AllReadyH.nil
  rw [if_pos (by rfl)]
  go_simp
  go_at_call 112
  have kB := hHeld.2.2.2.2.2.2.2.2.2.2.2
  refine (specShrinkWindows _ LW mn _ SW2.out).mono ?_
  rw [HRE.out]
  rintro e wq11 ⟨vz, rfl, ho, hbk⟩
  have OZ := Lib.hid (own_lo (base' := w.heap.size) ho (Nat.le_trans B2.out.size kB.out.size))
  obtain ⟨AZ, cz, rfl⟩ := own_form ho
  clear ho SW2
  have HBK := kB.out.trans (hbk.mono kB.out.size)
  have QS := Lib.hid (show wq11.cell? ⟨w.heap.size, 0, none⟩ = some (.int .i64 f.mean) ∧ wq11.cell? ⟨w.heap.size, 1, none⟩ = some (.slice F0 f.parts.length e0) ∧ wq11.cell? ⟨w.heap.size, 2, none⟩ = some (.slice F1 f.surges.length e1) ∧ wq11.cell? ⟨w.heap.size + 1, 0, none⟩ = some (.slice A0 d.points.length c0) ∧ wq11.cell? ⟨w.heap.size + 1, 1, none⟩ = some (.slice A1 d.segs.length c1) ∧ wq11.cell? ⟨w.heap.size + 2, 0, none⟩ = some (.string s.name) ∧ wq11.cell? ⟨w.heap.size + 2, 1, none⟩ = some (.int .i64 s.length) ∧ wq11.cell? ⟨w.heap.size + 2, 2, none⟩ = some (.int .i64 s.draught) ∧ wq11.cell? ⟨w.heap.size + 2, 3, none⟩ = some (.int .i64 s.line) ∧ wq11.cell? ⟨w.heap.size + 2, 4, none⟩ = some (.int .i64 s.tugs) ∧ wq11.cell? ⟨w.heap.size + 2, 5, none⟩ = some (.bool s.slow) ∧ Hid (Below w2.heap.size w2 wq11) from ⟨cell_onV FF0.out HBK, cell_onV FF1.out HBK, cell_onV FF2.out HBK, cell_onV FC0.out HBK, cell_onV FC1.out HBK, cell_onV FS0.out HBK, cell_onV FS1.out HBK, cell_onV FS2.out HBK, cell_onV FS3.out HBK, cell_onV FS4.out HBK, cell_onV FS5.out HBK, Lib.hid HBK⟩)
  clear hbk kB hHeld HBK
  go_simp
  refine hK.out _ _ ?_ (fun hHeld => ?_)
  · (try dsimp only); exact QS.out
  clear hK K
  try simp only [Act.put, List.setIfInBounds_toArray, List.set_cons_zero, List.set_cons_succ]
  refine wpAnyH_take (i := 12) (v := ?_) (by simp only [List.getElem?_toArray, List.getElem?_cons_succ, List.getElem?_cons_zero]; rfl) (by kernel_rfl) (by kernel_rfl) (by kernel_rfl) (by exact fun _ _ _ h => h) (Or.inl ⟨by rfl, ?_⟩) (by assumption) ?_; rotate_left; focus (intro w hSw; (try dsimp only at hSw); first | (go_simp; done) | (go_simp; with_reducible rfl))
  try simp only [Act.put, List.setIfInBounds_toArray, List.set_cons_zero, List.set_cons_succ]
  refine wpAnyH_done (by kernel_rfl) ?_ _
  go_wp2
  go_ret
  exact ⟨_, rfl, by rw [E.out]; exact OZ.out, B2.out.trans (hHeld.2.2.2.2.2.2.2.2.2.2.2.out.mono B2.out.size)⟩
set_option maxHeartbeats 4000000 in
theorem specSureStarts (y0 y1 : Value) (f : ForecastD) (v0 v1 : Value) (d : ChartD) (i : Int) (s : ShipD) (w : World) (hf : RdForecast w y0 y1 f) (h : RdChart w v0 v1 d) (hw : ∀ x ∈ d.points, PointD.wf x) (hs : s.wf) :
    Calls Tryz.prog 66 #[.agg #[.int .i64 f.mean, y0, y1], .agg #[v0, v1], .int .i64 i, s.val] w (NewWindow (startsL false f d i s) w) := by
  have HF := Lib.hid hf
  have HR := Lib.hid h
  have HWF := Lib.hid hw
  have WS := Lib.hid hs
  obtain ⟨g0, g1⟩ := hf
  obtain ⟨F0, e0, rfl⟩ := SlOf.form g0
  obtain ⟨F1, e1, rfl⟩ := SlOf.form g1
  obtain ⟨h0, h1⟩ := h
  obtain ⟨A0, c0, rfl⟩ := h0.at
  obtain ⟨A1, c1, rfl⟩ := h1.at
  obtain ⟨W0, hW0⟩ : ∃ W0, W0 = (((w.alloc (.cells #[.int .i64 f.mean, .slice F0 f.parts.length e0, .slice F1 f.surges.length e1] 44)).alloc (.cells #[.slice A0 d.points.length c0, .slice A1 d.segs.length c1] 49)).alloc (.cells #[.string s.name, .int .i64 s.length, .int .i64 s.draught, .int .i64 s.line, .int .i64 s.tugs, .bool s.slow] 65)) := ⟨_, rfl⟩
  have B := Lib.hid ((Joins.below_alloc2 w (.cells #[.int .i64 f.mean, .slice F0 f.parts.length e0, .slice F1 f.surges.length e1] 44) (.cells #[.slice A0 d.points.length c0, .slice A1 d.segs.length c1] 49)).trans ((Joins.below_alloc1 ((w.alloc (.cells #[.int .i64 f.mean, .slice F0 f.parts.length e0, .slice F1 f.surges.length e1] 44)).alloc (.cells #[.slice A0 d.points.length c0, .slice A1 d.segs.length c1] 49)) (.cells #[.string s.name, .int .i64 s.length, .int .i64 s.draught, .int .i64 s.line, .int .i64 s.tugs, .bool s.slow] 65)).mono (by simp; omega)))
  have BF := Lib.hid (((Blk.new w #[.int .i64 f.mean, .slice F0 f.parts.length e0, .slice F1 f.surges.length e1] 44).below (Joins.below_alloc1 _ (.cells #[.slice A0 d.points.length c0, .slice A1 d.segs.length c1] 49))).below (Joins.below_alloc1 _ (.cells #[.string s.name, .int .i64 s.length, .int .i64 s.draught, .int .i64 s.line, .int .i64 s.tugs, .bool s.slow] 65)))
  have BC := Lib.hid ((Blk.new (w.alloc (.cells #[.int .i64 f.mean, .slice F0 f.parts.length e0, .slice F1 f.surges.length e1] 44)) #[.slice A0 d.points.length c0, .slice A1 d.segs.length c1] 49).below (Joins.below_alloc1 _ (.cells #[.string s.name, .int .i64 s.length, .int .i64 s.draught, .int .i64 s.line, .int .i64 s.tugs, .bool s.slow] 65)))
  have BS := Lib.hid (Blk.new ((w.alloc (.cells #[.int .i64 f.mean, .slice F0 f.parts.length e0, .slice F1 f.surges.length e1] 44)).alloc (.cells #[.slice A0 d.points.length c0, .slice A1 d.segs.length c1] 49)) #[.string s.name, .int .i64 s.length, .int .i64 s.draught, .int .i64 s.line, .int .i64 s.tugs, .bool s.slow] 65)
  rw [World.size_alloc] at BC
  rw [World.size_alloc, World.size_alloc] at BS
  have HW0 := Lib.hid hW0
  rw [← hW0] at B BF BC BS
  clear g0 g1 h0 h1 hw hs hW0
  have f0 : W0.cell? ⟨w.heap.size, 0, none⟩ = some (.int .i64 f.mean) := BF.out.cell 0
  have f1 : W0.cell? ⟨w.heap.size, 1, none⟩ = some (.slice F0 f.parts.length e0) := BF.out.cell 1
  have f2 : W0.cell? ⟨w.heap.size, 2, none⟩ = some (.slice F1 f.surges.length e1) := BF.out.cell 2
  have p0 : W0.cell? ⟨w.heap.size + 1, 0, none⟩ = some (.slice A0 d.points.length c0) := BC.out.cell 0
  have p1 : W0.cell? ⟨w.heap.size + 1, 1, none⟩ = some (.slice A1 d.segs.length c1) := BC.out.cell 1
  have s0 : W0.cell? ⟨w.heap.size + 2, 0, none⟩ = some (.string s.name) := BS.out.cell 0
  have s1 : W0.cell? ⟨w.heap.size + 2, 1, none⟩ = some (.int .i64 s.length) := BS.out.cell 1
  have s2 : W0.cell? ⟨w.heap.size + 2, 2, none⟩ = some (.int .i64 s.draught) := BS.out.cell 2
  have s3 : W0.cell? ⟨w.heap.size + 2, 3, none⟩ = some (.int .i64 s.line) := BS.out.cell 3
  have s4 : W0.cell? ⟨w.heap.size + 2, 4, none⟩ = some (.int .i64 s.tugs) := BS.out.cell 4
  have s5 : W0.cell? ⟨w.heap.size + 2, 5, none⟩ = some (.bool s.slow) := BS.out.cell 5
  have hsl := starts_len false f d i s
  obtain ⟨R, hR⟩ : ∃ R, startsL false f d i s = R := ⟨_, rfl⟩
  rw [hR] at hsl
  have HRE := Lib.hid hR
  have HRL := Lib.hid hsl
  rw [hR]
  clear hR hsl
  go_enter Tryz.func66, Tryz.ntmps66
  go_wp2_with fail
  rw [← HW0.out]
  clear f0 f1 f2 p0 p1 s0 s1 s2 s3 s4 s5
  refine (specStarts false _ _ f _ _ d i s _ (HF.out.below B.out) (HR.out.below B.out) HWF.out WS.out).mono ?_
  rw [HRE.out]
  rintro e w1 ⟨v, rfl, ho, hb1⟩
  have B1 := Lib.hid (B.out.trans (hb1.mono B.out.size))
  have OZ := Lib.hid (own_lo (base' := w.heap.size) ho B.out.size)
  obtain ⟨AZ, cz, rfl⟩ := own_form ho
  clear ho hb1
  go_wp2
  go_ret
  exact ⟨_, rfl, OZ.out, B1.out⟩
end Go.Proofs.YtooeikimoheecaaGreat
