
/- What InOrderLaw rests on, part 38: contracts and mathematics. -/
import Derived.Test.YtooeikimoheecaaIo35
import Derived.Test.YtooeikimoheecaaIo18
import Derived.Test.YtooeikimoheecaaIo16
import Derived.Test.YtooeikimoheecaaIo6
import Derived.Test.YtooeikimoheecaaIo23
import Derived.Test.YtooeikimoheecaaIo3
import Derived.Test.YtooeikimoheecaaIo2
import Derived.StillTailTactics
import Derived.Deep.DeepCutAuto
namespace Go.Proofs.Ytooeikimoheecaa
open Go.RowKit
set_option maxRecDepth 100000
theorem shrink_nil (n : Int) : shrinkL [] n = [] := by unfold shrinkL; split <;> rfl
theorem starts_sail {hi : Bool} {f : ForecastD} {d : ChartD} {i : Int} {s : ShipD} (h : sailB d i s = true) : startsL hi f d i s = shrinkL (wetL hi f.mean f.parts f.surges (levForI d i s)) (minOn d i s) := by
  cases hf : fcB f.mean f.parts f.surges with
  | true => exact startsL_ok hf h
  | false => rw [startsL_bad (.inl hf), show wetL hi f.mean f.parts f.surges (levForI d i s) = [] from if_neg (by rw [hf]; simp), shrink_nil]
set_option maxHeartbeats 2000000 in
theorem bandLow (m : Int) (v u : Value) (l : List PartD) (s : List SurgeD) (level : Int) (w : World) (h : SlP w v l) (h' : SlSurge w u s) :
    Calls Try.prog 120 #[.agg #[.int .i64 m, v, u], .int .i64 level] w (NewWindow (wetL false m l s level) w) := by
  have B0 := Lib.hid (Joins.below_alloc1 w (.cells #[.int .i64 m, v, u] 177))
  have CC := Lib.hid (implLowWindows m v u l s level _ (h.below B0.out) (h'.below B0.out))
  obtain ⟨A, c, rfl⟩ := h.at
  obtain ⟨A', c', rfl⟩ := h'.at
  clear h h'
  go_enter Try.func120, Try.ntmps120
  go_wp2_with fail
  refine CC.out.mono ?_
  intro e w3 hnew
  obtain ⟨v3, rfl, h1, h2⟩ := hnew
  have K1 := Lib.hid h1
  have K2 := Lib.hid h2
  obtain ⟨A3, c3, rfl⟩ := own_form h1
  clear h1 h2
  go_wp2
  go_ret
  exact ⟨_, rfl, own_lo K1.out B0.out.size, B0.out.trans (K2.out.mono B0.out.size)⟩
set_option maxHeartbeats 4000000 in
theorem startsLow (m : Int) (y0 y1 : Value) (fl : List PartD) (fs : List SurgeD) (v0 v1 : Value) (d : ChartD) (i : Int) (s : ShipD) (w : World) (hf0 : SlP w y0 fl) (hf1 : SlSurge w y1 fs) (h : RdChart w v0 v1 d) (hw : ∀ x ∈ d.points, PointD.wf x) (hs : s.wf) :
    Calls Try.prog 119 #[.func (.func 120) #[.agg #[.int .i64 m, y0, y1]] #[], .agg #[v0, v1], .int .i64 i, s.val] w (NewWindow (startsL false ⟨m, fl, fs⟩ d i s) w) := by
  have HF0 := Lib.hid hf0
  have HF1 := Lib.hid hf1
  have HR := Lib.hid h
  have HWF := Lib.hid hw
  have WS := Lib.hid hs
  obtain ⟨F0, e0, rfl⟩ := SlOf.form hf0
  obtain ⟨F1, e1, rfl⟩ := SlOf.form hf1
  obtain ⟨h0, h1⟩ := h
  obtain ⟨A0, c0, rfl⟩ := h0.at
  obtain ⟨A1, c1, rfl⟩ := h1.at
  obtain ⟨W0, hW0⟩ : ∃ W0, W0 = ((w.alloc (.cells #[.slice A0 d.points.length c0, .slice A1 d.segs.length c1] 32)).alloc (.cells #[.string s.name, .int .i64 s.length, .int .i64 s.draught, .int .i64 s.line, .int .i64 s.tugs, .bool s.slow] 46)) := ⟨_, rfl⟩
  have B := Lib.hid (Joins.below_alloc2 w (.cells #[.slice A0 d.points.length c0, .slice A1 d.segs.length c1] 32) (.cells #[.string s.name, .int .i64 s.length, .int .i64 s.draught, .int .i64 s.line, .int .i64 s.tugs, .bool s.slow] 46))
  have BC := Lib.hid ((Blk.new w #[.slice A0 d.points.length c0, .slice A1 d.segs.length c1] 32).below (Joins.below_alloc1 _ (.cells #[.string s.name, .int .i64 s.length, .int .i64 s.draught, .int .i64 s.line, .int .i64 s.tugs, .bool s.slow] 46)))
  have BS := Lib.hid (Blk.new (w.alloc (.cells #[.slice A0 d.points.length c0, .slice A1 d.segs.length c1] 32)) #[.string s.name, .int .i64 s.length, .int .i64 s.draught, .int .i64 s.line, .int .i64 s.tugs, .bool s.slow] 46)
  rw [World.size_alloc] at BS
  have HW0 := Lib.hid hW0
  rw [← hW0] at B BC BS
  clear hf0 hf1 h0 h1 hw hs hW0
  obtain ⟨ts, hts⟩ : ∃ t, sailB d i s = t := ⟨_, rfl⟩
  have HTS := Lib.hid hts
  have p0 : W0.cell? ⟨w.heap.size, 0, none⟩ = some (.slice A0 d.points.length c0) := BC.out.cell 0
  have p1 : W0.cell? ⟨w.heap.size, 1, none⟩ = some (.slice A1 d.segs.length c1) := BC.out.cell 1
  have s0 : W0.cell? ⟨w.heap.size + 1, 0, none⟩ = some (.string s.name) := BS.out.cell 0
  have s1 : W0.cell? ⟨w.heap.size + 1, 1, none⟩ = some (.int .i64 s.length) := BS.out.cell 1
  have s2 : W0.cell? ⟨w.heap.size + 1, 2, none⟩ = some (.int .i64 s.draught) := BS.out.cell 2
  have s3 : W0.cell? ⟨w.heap.size + 1, 3, none⟩ = some (.int .i64 s.line) := BS.out.cell 3
  have s4 : W0.cell? ⟨w.heap.size + 1, 4, none⟩ = some (.int .i64 s.tugs) := BS.out.cell 4
  have s5 : W0.cell? ⟨w.heap.size + 1, 5, none⟩ = some (.bool s.slow) := BS.out.cell 5
  cases ts with
  | false =>
    have E := Lib.hid (startsL_bad (hi := false) (f := ⟨m, fl, fs⟩) (.inr hts))
    clear hts
    go_enter Try.func119, Try.ntmps119
    go_wp2_with fail
    rw [← HW0.out]
    clear p0 p1 s0 s1 s2 s3 s4 s5
    refine (implSail _ _ d i s _ (HR.out.below B.out) HWF.out WS.out).mono ?_
    rw [HTS.out]
    rintro e w1 ⟨rfl, hb1⟩
    have B1 := Lib.hid (B.out.trans (hb1.mono B.out.size))
    clear hb1
    go_wp2
    go_ret
    exact ⟨_, rfl, by rw [E.out]; exact (GathO.empty (cs := WindowD.cells) (t := 174) (k := 2) B1.out).1, B1.out⟩
  | true =>
  have E := Lib.hid (starts_sail (hi := false) (f := ⟨m, fl, fs⟩) hts)
  dsimp only at E
  obtain ⟨lv, hlv⟩ : ∃ lv, levForI d i s = lv := ⟨_, rfl⟩
  obtain ⟨mn, hmn⟩ : ∃ mn, minOn d i s = mn := ⟨_, rfl⟩
  rw [hlv, hmn] at E
  have HLV := Lib.hid hlv
  have HMN := Lib.hid hmn
  have hll := wetL_len false m fl fs lv
  obtain ⟨LW, hLW⟩ : ∃ LW, wetL false m fl fs lv = LW := ⟨_, rfl⟩
  rw [hLW] at hll E
  have HLW := Lib.hid hLW
  have HLL := Lib.hid hll
  have hrl := starts_len false ⟨m, fl, fs⟩ d i s
  rw [E.out] at hrl
  obtain ⟨R, hR⟩ : ∃ R, shrinkL LW mn = R := ⟨_, rfl⟩
  rw [hR] at hrl E
  have HRE := Lib.hid hR
  have HRL := Lib.hid hrl
  clear hts hlv hmn hll hLW hR hrl
  go_enter Try.func119, Try.ntmps119
  go_wp2_with fail
  rw [← HW0.out]
  clear p0 p1 s0 s1 s2 s3 s4 s5
  refine (implSail _ _ d i s _ (HR.out.below B.out) HWF.out WS.out).mono ?_
  rw [HTS.out]
  rintro e w1 ⟨rfl, hb1⟩
  have B1 := Lib.hid (B.out.trans (hb1.mono B.out.size))
  have K2 := BC.out.below hb1
  have K3 := BS.out.below hb1
  have FC0 := Lib.hid (show w1.cell? ⟨w.heap.size, 0, none⟩ = some (.slice A0 d.points.length c0) from K2.cell 0)
  have FC1 := Lib.hid (show w1.cell? ⟨w.heap.size, 1, none⟩ = some (.slice A1 d.segs.length c1) from K2.cell 1)
  have FS0 := Lib.hid (show w1.cell? ⟨w.heap.size + 1, 0, none⟩ = some (.string s.name) from K3.cell 0)
  have FS1 := Lib.hid (show w1.cell? ⟨w.heap.size + 1, 1, none⟩ = some (.int .i64 s.length) from K3.cell 1)
  have FS2 := Lib.hid (show w1.cell? ⟨w.heap.size + 1, 2, none⟩ = some (.int .i64 s.draught) from K3.cell 2)
  have FS3 := Lib.hid (show w1.cell? ⟨w.heap.size + 1, 3, none⟩ = some (.int .i64 s.line) from K3.cell 3)
  have FS4 := Lib.hid (show w1.cell? ⟨w.heap.size + 1, 4, none⟩ = some (.int .i64 s.tugs) from K3.cell 4)
  have FS5 := Lib.hid (show w1.cell? ⟨w.heap.size + 1, 5, none⟩ = some (.bool s.slow) from K3.cell 5)
  have HR2 := Lib.hid (HR.out.below B1.out)
  have HG0 := Lib.hid (HF0.out.below B1.out)
  have HG1 := Lib.hid (HF1.out.below B1.out)
  clear hb1 K2 K3
  have DD := Lib.hid ((Below.refl w1.heap.size w1).drew)
  have vFC0 := FC0.out
  have vFC1 := FC1.out
  have vFS0 := FS0.out
  have vFS1 := FS1.out
  have vFS2 := FS2.out
  have vFS3 := FS3.out
  have vFS4 := FS4.out
  have vFS5 := FS5.out
  go_upto_region 3 with fail
  refine wp_region_held_drew (S := (fun w' => w'.cell? ⟨w.heap.size, 0, none⟩ = some (.slice A0 d.points.length c0) ∧ w'.cell? ⟨w.heap.size, 1, none⟩ = some (.slice A1 d.segs.length c1) ∧ w'.cell? ⟨w.heap.size + 1, 0, none⟩ = some (.string s.name) ∧ w'.cell? ⟨w.heap.size + 1, 1, none⟩ = some (.int .i64 s.length) ∧ w'.cell? ⟨w.heap.size + 1, 2, none⟩ = some (.int .i64 s.draught) ∧ w'.cell? ⟨w.heap.size + 1, 3, none⟩ = some (.int .i64 s.line) ∧ w'.cell? ⟨w.heap.size + 1, 4, none⟩ = some (.int .i64 s.tugs) ∧ w'.cell? ⟨w.heap.size + 1, 5, none⟩ = some (.bool s.slow) ∧ Hid (Below w1.heap.size w1 w'))) (by kernel_rfl) ?_ (fun hHeld => ?_)
  · (try dsimp only); go_keep
  refine wpAnyH_take (i := 0) (v := ?_) (by simp only [List.getElem?_toArray, List.getElem?_cons_zero]; rfl) (by kernel_rfl) (by kernel_rfl) (by kernel_rfl) (by exact fun _ _ _ h => h) (Or.inl ⟨by rfl, ?_⟩) (by assumption) ?_; rotate_left; focus (intro w hSw; (try dsimp only at hSw); first | (go_simp; done) | (go_simp; with_reducible rfl))
  try simp only [Act.put, List.setIfInBounds_toArray, List.set_cons_zero, List.set_cons_succ]
  refine wpAnyH_take (i := 1) (v := ?_) (by simp only [List.getElem?_toArray, List.getElem?_cons_succ, List.getElem?_cons_zero]; rfl) (by kernel_rfl) (by kernel_rfl) (by kernel_rfl) (by exact fun _ _ _ h => h) (Or.inl ⟨by rfl, ?_⟩) (by assumption) ?_; rotate_left; focus (intro w hSw; (try dsimp only at hSw); first | (go_simp; done) | (go_simp; with_reducible rfl))
  try simp only [Act.put, List.setIfInBounds_toArray, List.set_cons_zero, List.set_cons_succ]
  refine wpAnyH_take (i := 2) (v := ?_) (by simp only [List.getElem?_toArray, List.getElem?_cons_succ, List.getElem?_cons_zero]; rfl) (by kernel_rfl) (by kernel_rfl) (by kernel_rfl) (by exact fun _ _ _ h => h) (Or.inl ⟨by rfl, ?_⟩) (by assumption) ?_; rotate_left; focus (intro w hSw; (try dsimp only at hSw); first | (go_simp; done) | (go_simp; with_reducible rfl))
  try simp only [Act.put, List.setIfInBounds_toArray, List.set_cons_zero, List.set_cons_succ]
  refine wpAnyH_take (i := 3) (v := ?_) (by simp only [List.getElem?_toArray, List.getElem?_cons_succ, List.getElem?_cons_zero]; rfl) (by kernel_rfl) (by kernel_rfl) (by kernel_rfl) (by exact fun _ _ _ h => h) (Or.inl ⟨by rfl, ?_⟩) (by assumption) ?_; rotate_left; focus (intro w hSw; (try dsimp only at hSw); first | (go_simp; done) | (go_simp; with_reducible rfl))
  try simp only [Act.put, List.setIfInBounds_toArray, List.set_cons_zero, List.set_cons_succ]
  refine wpAnyH_take (i := 6) (v := ?_) (by simp only [List.getElem?_toArray, List.getElem?_cons_succ, List.getElem?_cons_zero]; rfl) (by kernel_rfl) (by kernel_rfl) (by kernel_rfl) (by exact fun _ _ _ h => h) (Or.inl ⟨by rfl, ?_⟩) (by assumption) ?_; rotate_left; focus (intro w hSw; (try dsimp only at hSw); first | (go_simp; done) | (go_simp; with_reducible rfl))
  try simp only [Act.put, List.setIfInBounds_toArray, List.set_cons_zero, List.set_cons_succ]
  refine wpAnyH_take (i := 7) (v := ?_) (by simp only [List.getElem?_toArray, List.getElem?_cons_succ, List.getElem?_cons_zero]; rfl) (by kernel_rfl) (by kernel_rfl) (by kernel_rfl) (by exact fun _ _ _ h => h) (Or.inl ⟨by rfl, ?_⟩) (by assumption) ?_; rotate_left; focus (intro w hSw; (try dsimp only at hSw); first | (go_simp; done) | (go_simp; with_reducible rfl))
  try simp only [Act.put, List.setIfInBounds_toArray, List.set_cons_zero, List.set_cons_succ]
  refine wpAnyH_take (i := 8) (v := ?_) (by simp only [List.getElem?_toArray, List.getElem?_cons_succ, List.getElem?_cons_zero]; rfl) (by kernel_rfl) (by kernel_rfl) (by kernel_rfl) (by exact fun _ _ _ h => h) (Or.inl ⟨by rfl, ?_⟩) (by assumption) ?_; rotate_left; focus (intro w hSw; (try dsimp only at hSw); first | (go_simp; done) | (go_simp; with_reducible rfl))
  try simp only [Act.put, List.setIfInBounds_toArray, List.set_cons_zero, List.set_cons_succ]
  refine wpAnyH_ready (rs := [4]) (by kernel_rfl) (by simp) ?_
  refine AllReadyH.cons rfl (fun K hK => ?_) AllReadyH.nil
  rw [if_pos (by rfl)]
  go_simp
  go_at_call 133
  have kB := hHeld.2.2.2.2.2.2.2.2
  refine (implLevelFor _ _ d i s _ (HR2.out.below kB.out) HWF.out WS.out).mono ?_
  rw [HLV.out]
  rintro e wq4 ⟨rfl, hbk⟩
  have HBK := kB.out.trans (hbk.mono kB.out.size)
  have QS := Lib.hid (show wq4.cell? ⟨w.heap.size, 0, none⟩ = some (.slice A0 d.points.length c0) ∧ wq4.cell? ⟨w.heap.size, 1, none⟩ = some (.slice A1 d.segs.length c1) ∧ wq4.cell? ⟨w.heap.size + 1, 0, none⟩ = some (.string s.name) ∧ wq4.cell? ⟨w.heap.size + 1, 1, none⟩ = some (.int .i64 s.length) ∧ wq4.cell? ⟨w.heap.size + 1, 2, none⟩ = some (.int .i64 s.draught) ∧ wq4.cell? ⟨w.heap.size + 1, 3, none⟩ = some (.int .i64 s.line) ∧ wq4.cell? ⟨w.heap.size + 1, 4, none⟩ = some (.int .i64 s.tugs) ∧ wq4.cell? ⟨w.heap.size + 1, 5, none⟩ = some (.bool s.slow) ∧ Hid (Below w1.heap.size w1 wq4) from ⟨cell_onV FC0.out HBK, cell_onV FC1.out HBK, cell_onV FS0.out HBK, cell_onV FS1.out HBK, cell_onV FS2.out HBK, cell_onV FS3.out HBK, cell_onV FS4.out HBK, cell_onV FS5.out HBK, Lib.hid HBK⟩)
  clear hbk kB hHeld HBK
  go_simp
  refine hK.out _ _ ?_ (fun hHeld => ?_)
  · (try dsimp only); exact QS.out
  clear hK K
  try simp only [Act.put, List.setIfInBounds_toArray, List.set_cons_zero, List.set_cons_succ]
  refine wpAnyH_ready (rs := [5]) (by kernel_rfl) (by simp) ?_
  refine AllReadyH.cons rfl (fun K hK => ?_) AllReadyH.nil
  rw [if_pos (by rfl)]
  go_simp
  go_at_call 120
  have kB := hHeld.2.2.2.2.2.2.2.2
  refine (bandLow m _ _ fl fs lv _ (HG0.out.below kB.out) (HG1.out.below kB.out)).mono ?_
  rw [HLW.out]
  rintro e wq6 ⟨vw, rfl, ho, hbk⟩
  have hll := HLL.out
  have SW := Lib.hid (own_sl windowLen ho (by omega))
  obtain ⟨AW, cw, rfl⟩ := own_form ho
  clear ho hll
  have HBK := kB.out.trans (hbk.mono kB.out.size)
  have QS := Lib.hid (show wq6.cell? ⟨w.heap.size, 0, none⟩ = some (.slice A0 d.points.length c0) ∧ wq6.cell? ⟨w.heap.size, 1, none⟩ = some (.slice A1 d.segs.length c1) ∧ wq6.cell? ⟨w.heap.size + 1, 0, none⟩ = some (.string s.name) ∧ wq6.cell? ⟨w.heap.size + 1, 1, none⟩ = some (.int .i64 s.length) ∧ wq6.cell? ⟨w.heap.size + 1, 2, none⟩ = some (.int .i64 s.draught) ∧ wq6.cell? ⟨w.heap.size + 1, 3, none⟩ = some (.int .i64 s.line) ∧ wq6.cell? ⟨w.heap.size + 1, 4, none⟩ = some (.int .i64 s.tugs) ∧ wq6.cell? ⟨w.heap.size + 1, 5, none⟩ = some (.bool s.slow) ∧ Hid (Below w1.heap.size w1 wq6) from ⟨cell_onV FC0.out HBK, cell_onV FC1.out HBK, cell_onV FS0.out HBK, cell_onV FS1.out HBK, cell_onV FS2.out HBK, cell_onV FS3.out HBK, cell_onV FS4.out HBK, cell_onV FS5.out HBK, Lib.hid HBK⟩)
  clear hbk kB hHeld HBK
  go_simp
  refine hK.out _ _ ?_ (fun hHeld => ?_)
  · (try dsimp only); exact QS.out
  clear hK K
  try simp only [Act.put, List.setIfInBounds_toArray, List.set_cons_zero, List.set_cons_succ]
  refine wpAnyH_ready (rs := [9]) (by kernel_rfl) (by simp) ?_
  refine AllReadyH.cons rfl (fun K hK => ?_) AllReadyH.nil
  rw [if_pos (by rfl)]
  go_simp
  go_at_call 57
  have kB := hHeld.2.2.2.2.2.2.2.2
  refine (implMinutesOn _ _ d i s _ (HR2.out.below kB.out) HWF.out WS.out).mono ?_
  rw [HMN.out]
  rintro e wq10 ⟨rfl, hbk⟩
  have SW2 := Lib.hid (SlOf.below SW.out hbk)
  clear SW
  have HBK := kB.out.trans (hbk.mono kB.out.size)
  have QS := Lib.hid (show wq10.cell? ⟨w.heap.size, 0, none⟩ = some (.slice A0 d.points.length c0) ∧ wq10.cell? ⟨w.heap.size, 1, none⟩ = some (.slice A1 d.segs.length c1) ∧ wq10.cell? ⟨w.heap.size + 1, 0, none⟩ = some (.string s.name) ∧ wq10.cell? ⟨w.heap.size + 1, 1, none⟩ = some (.int .i64 s.length) ∧ wq10.cell? ⟨w.heap.size + 1, 2, none⟩ = some (.int .i64 s.draught) ∧ wq10.cell? ⟨w.heap.size + 1, 3, none⟩ = some (.int .i64 s.line) ∧ wq10.cell? ⟨w.heap.size + 1, 4, none⟩ = some (.int .i64 s.tugs) ∧ wq10.cell? ⟨w.heap.size + 1, 5, none⟩ = some (.bool s.slow) ∧ Hid (Below w1.heap.size w1 wq10) from ⟨cell_onV FC0.out HBK, cell_onV FC1.out HBK, cell_onV FS0.out HBK, cell_onV FS1.out HBK, cell_onV FS2.out HBK, cell_onV FS3.out HBK, cell_onV FS4.out HBK, cell_onV FS5.out HBK, Lib.hid HBK⟩)
  clear hbk kB hHeld HBK
  go_simp
  refine hK.out _ _ ?_ (fun hHeld => ?_)
  · (try dsimp only); exact QS.out
  clear hK K
  try simp only [Act.put, List.setIfInBounds_toArray, List.set_cons_zero, List.set_cons_succ]
  refine wpAnyH_ready (rs := [10]) (by kernel_rfl) (by simp) ?_
  refine AllReadyH.cons rfl (fun K hK => ?_) AllReadyH.nil
  rw [if_pos (by rfl)]
  go_simp
  go_at_call 132
  have kB := hHeld.2.2.2.2.2.2.2.2
  refine (implShrinkWindows _ LW mn _ SW2.out).mono ?_
  rw [HRE.out]
  rintro e wq11 ⟨vz, rfl, ho, hbk⟩
  have OZ := Lib.hid (own_lo (base' := w.heap.size) ho (Nat.le_trans B1.out.size kB.out.size))
  obtain ⟨AZ, cz, rfl⟩ := own_form ho
  clear ho SW2
  have HBK := kB.out.trans (hbk.mono kB.out.size)
  have QS := Lib.hid (show wq11.cell? ⟨w.heap.size, 0, none⟩ = some (.slice A0 d.points.length c0) ∧ wq11.cell? ⟨w.heap.size, 1, none⟩ = some (.slice A1 d.segs.length c1) ∧ wq11.cell? ⟨w.heap.size + 1, 0, none⟩ = some (.string s.name) ∧ wq11.cell? ⟨w.heap.size + 1, 1, none⟩ = some (.int .i64 s.length) ∧ wq11.cell? ⟨w.heap.size + 1, 2, none⟩ = some (.int .i64 s.draught) ∧ wq11.cell? ⟨w.heap.size + 1, 3, none⟩ = some (.int .i64 s.line) ∧ wq11.cell? ⟨w.heap.size + 1, 4, none⟩ = some (.int .i64 s.tugs) ∧ wq11.cell? ⟨w.heap.size + 1, 5, none⟩ = some (.bool s.slow) ∧ Hid (Below w1.heap.size w1 wq11) from ⟨cell_onV FC0.out HBK, cell_onV FC1.out HBK, cell_onV FS0.out HBK, cell_onV FS1.out HBK, cell_onV FS2.out HBK, cell_onV FS3.out HBK, cell_onV FS4.out HBK, cell_onV FS5.out HBK, Lib.hid HBK⟩)
  clear hbk kB hHeld HBK
  go_simp
  refine hK.out _ _ ?_ (fun hHeld => ?_)
  · (try dsimp only); exact QS.out
  clear hK K
  try simp only [Act.put, List.setIfInBounds_toArray, List.set_cons_zero, List.set_cons_succ]
  refine wpAnyH_take (i := 11) (v := ?_) (by simp only [List.getElem?_toArray, List.getElem?_cons_succ, List.getElem?_cons_zero]; rfl) (by kernel_rfl) (by kernel_rfl) (by kernel_rfl) (by exact fun _ _ _ h => h) (Or.inl ⟨by rfl, ?_⟩) (by assumption) ?_; rotate_left; focus (intro w hSw; (try dsimp only at hSw); first | (go_simp; done) | (go_simp; with_reducible rfl))
  try simp only [Act.put, List.setIfInBounds_toArray, List.set_cons_zero, List.set_cons_succ]
  refine wpAnyH_done (by kernel_rfl) ?_ _
  go_wp2
  go_ret
  exact ⟨_, rfl, by rw [E.out]; exact OZ.out, B1.out.trans (hHeld.2.2.2.2.2.2.2.2.out.mono B1.out.size)⟩
set_option maxHeartbeats 4000000 in
theorem implSureStarts (yf0 yf1 : Value) (f : ForecastD) (yd0 yd1 : Value) (d : ChartD) (i : Int) (s : ShipD) (w : World) (rf : RdForecast w yf0 yf1 f) (rd : RdChart w yd0 yd1 d) (fd : ∀ x ∈ d.points, PointD.wf x) (fs : s.wf) :
    Calls Try.prog 92 #[.agg #[.int .i64 f.mean, yf0, yf1], .agg #[yd0, yd1], .int .i64 i, s.val] w (NewWindow (startsL false f d i s) w) := by
  have Rf := Lib.hid rf
  obtain ⟨rf0, rf1⟩ := rf
  obtain ⟨Af0, cf0, rfl⟩ := SlOf.form rf0
  obtain ⟨Af1, cf1, rfl⟩ := SlOf.form rf1
  clear rf0 rf1
  have Rd := Lib.hid rd
  obtain ⟨rd0, rd1⟩ := rd
  obtain ⟨Ad0, cd0, rfl⟩ := SlOf.form rd0
  obtain ⟨Ad1, cd1, rfl⟩ := SlOf.form rd1
  have Nd := Lib.hid fd
  clear fd
  clear rd0 rd1
  have Ns := Lib.hid fs
  clear fs
  obtain ⟨W0, hW0⟩ : ∃ W0, W0 = (((w.alloc (.cells #[.int .i64 f.mean, .slice Af0 f.parts.length cf0, .slice Af1 f.surges.length cf1] 28)).alloc (.cells #[.slice Ad0 d.points.length cd0, .slice Ad1 d.segs.length cd1] 32)).alloc (.cells #[.string s.name, .int .i64 s.length, .int .i64 s.draught, .int .i64 s.line, .int .i64 s.tugs, .bool s.slow] 46)) := ⟨_, rfl⟩
  have B := Lib.hid (((Joins.below_alloc1 w (.cells #[.int .i64 f.mean, .slice Af0 f.parts.length cf0, .slice Af1 f.surges.length cf1] 28)).trans ((Joins.below_alloc1 (w.alloc (.cells #[.int .i64 f.mean, .slice Af0 f.parts.length cf0, .slice Af1 f.surges.length cf1] 28)) (.cells #[.slice Ad0 d.points.length cd0, .slice Ad1 d.segs.length cd1] 32)).mono (by simp; try omega))).trans ((Joins.below_alloc1 ((w.alloc (.cells #[.int .i64 f.mean, .slice Af0 f.parts.length cf0, .slice Af1 f.surges.length cf1] 28)).alloc (.cells #[.slice Ad0 d.points.length cd0, .slice Ad1 d.segs.length cd1] 32)) (.cells #[.string s.name, .int .i64 s.length, .int .i64 s.draught, .int .i64 s.line, .int .i64 s.tugs, .bool s.slow] 46)).mono (by simp; try omega)))
  have Kf := Lib.hid (((Blk.new w #[.int .i64 f.mean, .slice Af0 f.parts.length cf0, .slice Af1 f.surges.length cf1] 28).below (Joins.below_alloc1 _ (.cells #[.slice Ad0 d.points.length cd0, .slice Ad1 d.segs.length cd1] 32))).below (Joins.below_alloc1 _ (.cells #[.string s.name, .int .i64 s.length, .int .i64 s.draught, .int .i64 s.line, .int .i64 s.tugs, .bool s.slow] 46)))
  have Kd := Lib.hid ((Blk.new (w.alloc (.cells #[.int .i64 f.mean, .slice Af0 f.parts.length cf0, .slice Af1 f.surges.length cf1] 28)) #[.slice Ad0 d.points.length cd0, .slice Ad1 d.segs.length cd1] 32).below (Joins.below_alloc1 _ (.cells #[.string s.name, .int .i64 s.length, .int .i64 s.draught, .int .i64 s.line, .int .i64 s.tugs, .bool s.slow] 46)))
  rw [World.size_alloc] at Kd
  have Ks := Lib.hid (Blk.new ((w.alloc (.cells #[.int .i64 f.mean, .slice Af0 f.parts.length cf0, .slice Af1 f.surges.length cf1] 28)).alloc (.cells #[.slice Ad0 d.points.length cd0, .slice Ad1 d.segs.length cd1] 32)) #[.string s.name, .int .i64 s.length, .int .i64 s.draught, .int .i64 s.line, .int .i64 s.tugs, .bool s.slow] 46)
  rw [World.size_alloc, World.size_alloc] at Ks
  have HW0 := Lib.hid hW0
  rw [← hW0] at B Kf Kd Ks
  clear hW0
  have hsl := starts_len false f d i s
  obtain ⟨R, hR⟩ : ∃ R, startsL false f d i s = R := ⟨_, rfl⟩
  rw [hR] at hsl
  have HRE := Lib.hid hR
  have HRL := Lib.hid hsl
  rw [hR]
  clear hR hsl
  have hmf : ∀ (fn : Fn) (first cap : Array Value) (w : World), (Instr.makeFunc fn first cap).run Try.prog w = .ok (.func fn first cap) w := fun _ _ _ _ => rfl
  go_enter Try.func92, Try.ntmps92
  have vf0 : W0.cell? ⟨w.heap.size, 0, none⟩ = some (.int .i64 f.mean) := Kf.out.cell 0
  have vf1 : W0.cell? ⟨w.heap.size, 1, none⟩ = some (.slice Af0 f.parts.length cf0) := Kf.out.cell 1
  have vf2 : W0.cell? ⟨w.heap.size, 2, none⟩ = some (.slice Af1 f.surges.length cf1) := Kf.out.cell 2
  have vd0 : W0.cell? ⟨w.heap.size + 1, 0, none⟩ = some (.slice Ad0 d.points.length cd0) := Kd.out.cell 0
  have vd1 : W0.cell? ⟨w.heap.size + 1, 1, none⟩ = some (.slice Ad1 d.segs.length cd1) := Kd.out.cell 1
  have vs0 : W0.cell? ⟨w.heap.size + 2, 0, none⟩ = some (.string s.name) := Ks.out.cell 0
  have vs1 : W0.cell? ⟨w.heap.size + 2, 1, none⟩ = some (.int .i64 s.length) := Ks.out.cell 1
  have vs2 : W0.cell? ⟨w.heap.size + 2, 2, none⟩ = some (.int .i64 s.draught) := Ks.out.cell 2
  have vs3 : W0.cell? ⟨w.heap.size + 2, 3, none⟩ = some (.int .i64 s.line) := Ks.out.cell 3
  have vs4 : W0.cell? ⟨w.heap.size + 2, 4, none⟩ = some (.int .i64 s.tugs) := Ks.out.cell 4
  have vs5 : W0.cell? ⟨w.heap.size + 2, 5, none⟩ = some (.bool s.slow) := Ks.out.cell 5
  go_wp2_with fail
  rw [← HW0.out]
  clear vf0 vf1 vf2 vd0 vd1 vs0 vs1 vs2 vs3 vs4 vs5
  refine (startsLow f.mean _ _ f.parts f.surges _ _ d i s _ (Rf.out.below B.out).1 (Rf.out.below B.out).2 (Rd.out.below B.out) Nd.out Ns.out).mono ?_
  rw [HRE.out]
  rintro e w1 ⟨v, rfl, ho, hb1⟩
  have B1 := Lib.hid (B.out.trans (hb1.mono B.out.size))
  have Kf_1 := Lib.hid (Kf.out.below hb1)
  have Kd_1 := Lib.hid (Kd.out.below hb1)
  have Ks_1 := Lib.hid (Ks.out.below hb1)
  have OZ := Lib.hid (own_lo (base' := w.heap.size) ho B.out.size)
  obtain ⟨AZ, cz, rfl⟩ := own_form ho
  clear ho
  clear hb1
  go_wp2
  go_ret
  exact ⟨_, rfl, OZ.out, B1.out⟩
end Go.Proofs.Ytooeikimoheecaa
namespace Go.Proofs.Ytooeikimoheecaa
open Go.RowKit
set_option maxRecDepth 100000
theorem segAt_at {d : ChartD} {i : Int} {s : SegmentD} (h : segAt d i = some s) : d.segs[i.toNat]? = some s ∧ 0 ≤ i ∧ i.toNat < d.segs.length := by
  unfold segAt at h
  split at h
  · exact ⟨h, by assumption, (List.getElem?_eq_some_iff.1 h).1⟩
  · cases h
theorem minSum_nonneg {d : ChartD} (hd : chartB d = true) : ∀ (l : List Int) {x : Int}, minSum d l = some x → 0 ≤ x
  | [], x, h => by cases h; exact Int.le_refl _
  | i :: l, x, h => by
    unfold minSum at h
    cases hs : segAt d i with
    | none => rw [hs] at h; cases h
    | some g =>
      cases hr : minSum d l with
      | none => rw [hs, hr] at h; cases h
      | some r =>
        rw [hs, hr] at h
        injection h with e
        have := minSum_nonneg hd l hr
        obtain ⟨-, -, -, -, -, -, -, m0, -⟩ := segB_true (chartB_seg hd (segAt_at hs).1)
        omega
theorem minutes_neg (d : ChartD) (l : List Int) : decide (minutesI d l < 0) = !(chartB d && (minSum d l).isSome) := by
  cases h : chartB d with
  | false => rw [minutesI_bad h]; rfl
  | true =>
    unfold minutesI
    rw [if_pos h]
    cases hs : minSum d l with
    | none => rfl
    | some x =>
      have := minSum_nonneg h l hs
      simp
      omega
theorem last_at {l : List Int} {n : Nat} {x : Int} (hn : l.length = n + 1) (hx : l[n]? = some x) : l.getLast? = some x := by
  rw [List.getLast?_eq_getElem?, hn, Nat.add_sub_cancel]; exact hx
theorem minSum_seg {d : ChartD} : ∀ {l : List Int} {x : Int}, minSum d l = some x → ∀ i ∈ l, ∃ g, segAt d i = some g
  | [], x, h, i, hi => by simp at hi
  | j :: l, x, h, i, hi => by
    unfold minSum at h
    cases hs : segAt d j with
    | none => rw [hs] at h; cases h
    | some g =>
      cases hr : minSum d l with
      | none => rw [hs, hr] at h; cases h
      | some r =>
        rcases List.mem_cons.1 hi with rfl | hi
        · exact ⟨g, hs⟩
        · exact minSum_seg hr i hi
end Go.Proofs.Ytooeikimoheecaa
