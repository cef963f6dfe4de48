
/- What InOrderLaw rests on, part 35: contracts and mathematics. -/
import Derived.Test.YtooeikimoheecaaIo33
import Derived.Test.YtooeikimoheecaaIo16
import Derived.Test.YtooeikimoheecaaIo0
import Derived.Test.YtooeikimoheecaaIo2
import Derived.StillTailTactics
import Derived.Test.YtooeikimoheecaaIo17
import Derived.Test.YtooeikimoheecaaIo25
import Derived.Deep.RegionHeld3
import Derived.Deep.DeepCutAuto
namespace Go.Proofs.Ytooeikimoheecaa
set_option maxRecDepth 100000
/-- The minutes of a ship on the segment that is named, whatever its chart. -/
def onSeg (d : ChartD) (s : ShipD) (i : Int) : Int := match segAt d i with | some g => onMin g s | none => 0
/-- Whether a ship may wait at a point. -/
def waitAt (d : ChartD) (p : Int) : Bool := match d.points[p.toNat]? with | some x => x.wait | none => false
/-- The start on a segment whose windows are L, of a ship that arrives at m at the point p: none, if there is none. -/
def goOn (d : ChartD) (p : Int) (L : List WindowD) (m : Int) : Option Int := if nextI L m < 0 then none else if nextI L m ≠ m ∧ waitAt d p = false then none else some (nextI L m)
/-- The starts on the first k segments of a route. -/
def sailTo (d : ChartD) (s : ShipD) (pts route : List Int) (W : List (List WindowD)) (start : Int) : Nat → Option (List Int)
  | 0 => none
  | 1 => if hasB (W.getD 0 []) start = true then some [start] else none
  | k + 2 => match sailTo d s pts route W start (k + 1) with
    | none => none
    | some out => match goOn d (pts.getD (k + 1) 0) (W.getD (k + 1) []) (out.getD k 0 + onSeg d s (route.getD k 0)) with
      | none => none
      | some n => some (out ++ [n])
theorem sailTo_len {d : ChartD} {s : ShipD} {pts route : List Int} {W : List (List WindowD)} {start : Int} : ∀ k {out : List Int}, sailTo d s pts route W start k = some out → out.length = k
  | 0, out, h => by cases h
  | 1, out, h => by
    unfold sailTo at h
    split at h
    · cases h; rfl
    · cases h
  | k + 2, out, h => by
    unfold sailTo at h
    cases h1 : sailTo d s pts route W start (k + 1) with
    | none => rw [h1] at h; cases h
    | some o =>
      rw [h1] at h
      simp only at h
      have := sailTo_len (k + 1) h1
      split at h
      · cases h
      · cases h; simp [this]
theorem sailTo_stop {d : ChartD} {s : ShipD} {pts route : List Int} {W : List (List WindowD)} {start : Int} {k : Nat} (h : sailTo d s pts route W start (k + 1) = none) : ∀ n, sailTo d s pts route W start (k + 1 + n) = none
  | 0 => h
  | n + 1 => by
    have ih := sailTo_stop h n
    rw [show k + 1 + (n + 1) = (k + n) + 2 by omega]
    rw [show k + 1 + n = (k + n) + 1 by omega] at ih
    unfold sailTo
    rw [ih]
theorem sailTo_none {d : ChartD} {s : ShipD} {pts route : List Int} {W : List (List WindowD)} {start : Int} {k : Nat} (h : sailTo d s pts route W start (k + 1) = none) (n : Nat) (hn : k + 1 ≤ n) : sailTo d s pts route W start n = none := by
  obtain ⟨j, rfl⟩ : ∃ j, n = k + 1 + j := ⟨n - (k + 1), by omega⟩
  exact sailTo_stop h j
theorem sailTo_next {d : ChartD} {s : ShipD} {pts route : List Int} {W : List (List WindowD)} {start : Int} {k : Nat} {out : List Int} {m : Int} {p : Int} {L : List WindowD} {i : Int} {g : SegmentD} (h : sailTo d s pts route W start (k + 1) = some out)
    (hm : out[k]? = some m) (hp : pts[k + 1]? = some p) (hL : W[k + 1]? = some L) (hi : route[k]? = some i) (hg : segAt d i = some g) :
    sailTo d s pts route W start (k + 2) = (match goOn d p L (m + onMin g s) with | none => none | some n => some (out ++ [n])) := by
  show (match sailTo d s pts route W start (k + 1) with
    | none => none
    | some out => match goOn d (pts.getD (k + 1) 0) (W.getD (k + 1) []) (out.getD k 0 + onSeg d s (route.getD k 0)) with
      | none => none
      | some n => some (out ++ [n])) = _
  rw [h]
  simp only [List.getD_eq_getElem?_getD, hm, hp, hL, hi, Option.getD_some, onSeg, hg]
/-- The sure starts on each segment of a route. -/
def winsL (f : ForecastD) (d : ChartD) (s : ShipD) (route : List Int) : List (List WindowD) := route.map (fun k => startsL false f d k s)
/-- What must hold before a route is sailed. -/
def sailPre (f : ForecastD) (d : ChartD) (s : ShipD) (fr : Int) (route : List Int) : Bool := fcB f.mean f.parts f.surges && shipB s && routeB d fr route && !(route.isEmpty)
def sailO (f : ForecastD) (d : ChartD) (s : ShipD) (fr : Int) (route : List Int) (start : Int) : Option (List Int) := if sailPre f d s fr route = true then sailTo d s (rteL d fr route) route (winsL f d s route) start route.length else none
theorem sailO_bad {f : ForecastD} {d : ChartD} {s : ShipD} {fr : Int} {route : List Int} {start : Int} (h : sailPre f d s fr route = false) : sailO f d s fr route start = none := if_neg (by rw [h]; simp)
theorem sailO_ok {f : ForecastD} {d : ChartD} {s : ShipD} {fr : Int} {route : List Int} {start : Int} (h : sailPre f d s fr route = true) : sailO f d s fr route start = sailTo d s (rteL d fr route) route (winsL f d s route) start route.length := if_pos h
theorem sailO_len (f : ForecastD) (d : ChartD) (s : ShipD) (fr : Int) (route : List Int) (start : Int) : ((sailO f d s fr route start).getD []).length ≤ route.length := by
  cases h : sailO f d s fr route start with
  | none => simp
  | some out =>
    unfold sailO at h
    split at h
    · have := sailTo_len _ h
      simp [this]
    · cases h
/-- The first start from m on, among n minutes, at which a route can be sailed. -/
def firstO (f : ForecastD) (d : ChartD) (s : ShipD) (fr : Int) (route : List Int) (m : Int) : Nat → Option (List Int)
  | 0 => none
  | n + 1 => match sailO f d s fr route m with | some out => some out | none => firstO f d s fr route (m + 1) n
def firstSail (f : ForecastD) (d : ChartD) (s : ShipD) (fr : Int) (route : List Int) (ready : Int) : Option (List Int) := firstO f d s fr route (max 0 ready) (2881 - max 0 ready).toNat
theorem firstO_len {f : ForecastD} {d : ChartD} {s : ShipD} {fr : Int} {route : List Int} : ∀ n m, ((firstO f d s fr route m n).getD []).length ≤ route.length
  | 0, m => by simp [firstO]
  | n + 1, m => by
    unfold firstO
    have := sailO_len f d s fr route m
    cases h : sailO f d s fr route m with
    | none => simp only; exact firstO_len n (m + 1)
    | some out => rw [h] at this; exact this
theorem firstO_bad {f : ForecastD} {d : ChartD} {s : ShipD} {fr : Int} {route : List Int} (h : sailPre f d s fr route = false) : ∀ n m, firstO f d s fr route m n = none
  | 0, m => rfl
  | n + 1, m => by unfold firstO; rw [sailO_bad h]; exact firstO_bad h n (m + 1)
theorem firstSail_bad {f : ForecastD} {d : ChartD} {s : ShipD} {fr : Int} {route : List Int} {ready : Int} (h : sailPre f d s fr route = false) : firstSail f d s fr route ready = none := firstO_bad h _ _
/-- The arrival of a ship that begins the segments of a route at these minutes. -/
def arrI (d : ChartD) (s : ShipD) (route starts : List Int) : Int :=
  if chartB d = true ∧ shipB s = true ∧ (minSum d route).isSome = true ∧ route.length = starts.length ∧ route ≠ [] ∧ inB (starts.getLast?.getD 0) 0 2880 = true then starts.getLast?.getD 0 + onSeg d s (route.getLast?.getD 0) else -1
theorem arrI_no {d : ChartD} {s : ShipD} {route starts : List Int} (h : ¬ (chartB d = true ∧ shipB s = true ∧ (minSum d route).isSome = true ∧ route.length = starts.length ∧ route ≠ [] ∧ inB (starts.getLast?.getD 0) 0 2880 = true)) : arrI d s route starts = -1 := if_neg h
theorem arrI_yes {d : ChartD} {s : ShipD} {route starts : List Int} {t i : Int} {g : SegmentD} (h1 : chartB d = true) (h2 : shipB s = true) (h3 : (minSum d route).isSome = true) (h4 : route.length = starts.length) (h5 : route ≠ []) (ht : starts.getLast? = some t) (h6 : inB t 0 2880 = true) (hi : route.getLast? = some i) (hg : segAt d i = some g) :
    arrI d s route starts = t + onMin g s := by
  unfold arrI
  rw [if_pos ⟨h1, h2, h3, h4, h5, by rw [ht]; exact h6⟩, ht, hi]
  simp only [Option.getD_some, onSeg, hg]
end Go.Proofs.Ytooeikimoheecaa
namespace Go.Proofs.Ytooeikimoheecaa
set_option maxRecDepth 100000
theorem starts_wok (hi : Bool) (f : ForecastD) (d : ChartD) (i : Int) (s : ShipD) : WOk (startsL hi f d i s) := by
  by_cases h : fcB f.mean f.parts f.surges = true ∧ sailB d i s = true
  · obtain ⟨h1, h2⟩ := h
    obtain ⟨n0, n1⟩ := minOn_bnd h2
    have e : wetL hi f.mean f.parts f.surges (levForI d i s) = ofMarks (wetF hi f.mean f.parts f.surges (levForI d i s)) 2881 := if_pos h1
    have hw : WOk (wetL hi f.mean f.parts f.surges (levForI d i s)) := by rw [e]; exact (ofMarks_spec _ 2881 (by omega)).1
    rw [startsL_ok h1 h2]
    unfold shrinkL
    rw [if_pos ⟨hw.to, inB_mk (by omega) (by omega)⟩]
    exact shr_ok hw (by omega)
  · rw [show startsL hi f d i s = [] from if_neg h]
    exact WOk.nil
end Go.Proofs.Ytooeikimoheecaa
namespace Go.Proofs.Ytooeikimoheecaa
open Go.RowKit
set_option maxRecDepth 100000
set_option maxHeartbeats 2000000 in
theorem implNeedOf (s : ShipD) (w : World) (hs : s.wf) :
    Calls Try.prog 140 #[s.val] w fun e w' => e = .returned (.int .i64 (needI s)) ∧ Below w.heap.size w w' := by
  have B := Lib.hid (Joins.below_alloc1 w (.cells #[.string s.name, .int .i64 s.length, .int .i64 s.draught, .int .i64 s.line, .int .i64 s.tugs, .bool s.slow] 46))
  have K := Lib.hid (Blk.new w #[.string s.name, .int .i64 s.length, .int .i64 s.draught, .int .i64 s.line, .int .i64 s.tugs, .bool s.slow] 46)
  obtain ⟨t, ht⟩ : ∃ t, shipB s = t := ⟨_, rfl⟩
  have HT := Lib.hid ht
  cases t with
  | false =>
    have E := Lib.hid (needI_bad ht)
    clear ht
    go_enter Try.func140, Try.ntmps140
    go_wp2_with fail
    refine (implShipOk s _ hs).mono ?_
    rw [HT.out]
    rintro e w1 ⟨rfl, hb1⟩
    have B1 := Lib.hid (B.out.trans (hb1.mono B.out.size))
    clear hb1
    go_wp2
    go_ret
    exact ⟨ret_int E.out.symm, B1.out⟩
  | true =>
    have E := Lib.hid (needI_ok ht)
    obtain ⟨-, -, -, d0, d1, -⟩ := shipB_true ht
    obtain ⟨q0, q1⟩ := squat_bnd ht
    obtain ⟨sq, hsq⟩ : ∃ sq, squatI s = sq := ⟨_, rfl⟩
    rw [hsq] at E q0 q1
    have HSQ := Lib.hid hsq
    have w1 : IntKind.i64.wrap (s.draught + sq) = s.draught + sq := by rw [IntKind.wrap_i64]; omega
    have w2 : IntKind.i64.wrap (s.draught + sq + 50) = s.draught + sq + 50 := by rw [IntKind.wrap_i64]; omega
    clear ht hsq
    go_enter Try.func140, Try.ntmps140
    go_wp2_with fail
    refine (implShipOk s _ hs).mono ?_
    rw [HT.out]
    rintro e w3 ⟨rfl, hb1⟩
    have B1 := Lib.hid (B.out.trans (hb1.mono B.out.size))
    have K1 := K.out.below hb1
    have FS0 := Lib.hid (show w3.cell? ⟨w.heap.size, 0, none⟩ = some (.string s.name) from K1.cell 0)
    have FS1 := Lib.hid (show w3.cell? ⟨w.heap.size, 1, none⟩ = some (.int .i64 s.length) from K1.cell 1)
    have FS2 := Lib.hid (show w3.cell? ⟨w.heap.size, 2, none⟩ = some (.int .i64 s.draught) from K1.cell 2)
    have FS3 := Lib.hid (show w3.cell? ⟨w.heap.size, 3, none⟩ = some (.int .i64 s.line) from K1.cell 3)
    have FS4 := Lib.hid (show w3.cell? ⟨w.heap.size, 4, none⟩ = some (.int .i64 s.tugs) from K1.cell 4)
    have FS5 := Lib.hid (show w3.cell? ⟨w.heap.size, 5, none⟩ = some (.bool s.slow) from K1.cell 5)
    clear hb1 K1
    have DD := Lib.hid ((Below.refl w3.heap.size w3).drew)
    have vFS0 := FS0.out
    have vFS1 := FS1.out
    have vFS2 := FS2.out
    have vFS3 := FS3.out
    have vFS4 := FS4.out
    have vFS5 := FS5.out
    go_upto_region 3 with fail
    refine wp_region_held_drew (S := (fun w' => w'.cell? ⟨w.heap.size, 0, none⟩ = some (.string s.name) ∧ w'.cell? ⟨w.heap.size, 1, none⟩ = some (.int .i64 s.length) ∧ w'.cell? ⟨w.heap.size, 2, none⟩ = some (.int .i64 s.draught) ∧ w'.cell? ⟨w.heap.size, 3, none⟩ = some (.int .i64 s.line) ∧ w'.cell? ⟨w.heap.size, 4, none⟩ = some (.int .i64 s.tugs) ∧ w'.cell? ⟨w.heap.size, 5, none⟩ = some (.bool s.slow) ∧ Hid (Below w3.heap.size w3 w'))) (by kernel_rfl) ?_ (fun hHeld => ?_)
    · (try dsimp only); go_keep
    refine wpAnyH_take (i := 0) (v := ?_) (by simp only [List.getElem?_toArray, List.getElem?_cons_zero]; rfl) (by kernel_rfl) (by kernel_rfl) (by kernel_rfl) (by exact fun _ _ _ h => h) (Or.inl ⟨by rfl, ?_⟩) (by assumption) ?_; rotate_left; focus (intro w hSw; (try dsimp only at hSw); first | (go_simp; done) | (go_simp; with_reducible rfl))
    try simp only [Act.put, List.setIfInBounds_toArray, List.set_cons_zero, List.set_cons_succ]
    refine wpAnyH_take (i := 1) (v := ?_) (by simp only [List.getElem?_toArray, List.getElem?_cons_succ, List.getElem?_cons_zero]; rfl) (by kernel_rfl) (by kernel_rfl) (by kernel_rfl) (by exact fun _ _ _ h => h) (Or.inl ⟨by rfl, ?_⟩) (by assumption) ?_; rotate_left; focus (intro w hSw; (try dsimp only at hSw); first | (go_simp; done) | (go_simp; with_reducible rfl))
    try simp only [Act.put, List.setIfInBounds_toArray, List.set_cons_zero, List.set_cons_succ]
    refine wpAnyH_take (i := 2) (v := ?_) (by simp only [List.getElem?_toArray, List.getElem?_cons_succ, List.getElem?_cons_zero]; rfl) (by kernel_rfl) (by kernel_rfl) (by kernel_rfl) (by exact fun _ _ _ h => h) (Or.inl ⟨by rfl, ?_⟩) (by assumption) ?_; rotate_left; focus (intro w hSw; (try dsimp only at hSw); first | (go_simp; done) | (go_simp; with_reducible rfl))
    try simp only [Act.put, List.setIfInBounds_toArray, List.set_cons_zero, List.set_cons_succ]
    refine wpAnyH_ready (rs := [3]) (by kernel_rfl) (by simp) ?_
    refine AllReadyH.cons rfl (fun K hK => ?_) AllReadyH.nil
    rw [if_pos (by rfl)]
    go_simp
    go_at_call 143
    have kB := hHeld.2.2.2.2.2.2
    refine (implSquatOf s _ hs).mono ?_
    rw [HSQ.out]
    rintro e wq ⟨rfl, hbk⟩
    have HBK := kB.out.trans (hbk.mono kB.out.size)
    have QS := Lib.hid (show wq.cell? ⟨w.heap.size, 0, none⟩ = some (.string s.name) ∧ wq.cell? ⟨w.heap.size, 1, none⟩ = some (.int .i64 s.length) ∧ wq.cell? ⟨w.heap.size, 2, none⟩ = some (.int .i64 s.draught) ∧ wq.cell? ⟨w.heap.size, 3, none⟩ = some (.int .i64 s.line) ∧ wq.cell? ⟨w.heap.size, 4, none⟩ = some (.int .i64 s.tugs) ∧ wq.cell? ⟨w.heap.size, 5, none⟩ = some (.bool s.slow) ∧ Hid (Below w3.heap.size w3 wq) from ⟨cell_onV FS0.out HBK, cell_onV FS1.out HBK, cell_onV FS2.out HBK, cell_onV FS3.out HBK, cell_onV FS4.out HBK, cell_onV FS5.out HBK, Lib.hid HBK⟩)
    clear hbk kB hHeld HBK
    go_simp
    refine hK.out _ _ ?_ (fun hHeld => ?_)
    · (try dsimp only); exact QS.out
    clear hK K
    try simp only [Act.put, List.setIfInBounds_toArray, List.set_cons_zero, List.set_cons_succ]
    refine wpAnyH_take (i := 4) (v := ?_) (by simp only [List.getElem?_toArray, List.getElem?_cons_succ, List.getElem?_cons_zero]; rfl) (by kernel_rfl) (by kernel_rfl) (by kernel_rfl) (by exact fun _ _ _ h => h) (Or.inl ⟨by rfl, ?_⟩) (by assumption) ?_; rotate_left; focus (intro w hSw; (try dsimp only at hSw); first | (go_simp; done) | (go_simp; with_reducible rfl))
    try simp only [Act.put, List.setIfInBounds_toArray, List.set_cons_zero, List.set_cons_succ]
    refine wpAnyH_take (i := 5) (v := ?_) (by simp only [List.getElem?_toArray, List.getElem?_cons_succ, List.getElem?_cons_zero]; rfl) (by kernel_rfl) (by kernel_rfl) (by kernel_rfl) (by exact fun _ _ _ h => h) (Or.inl ⟨by rfl, ?_⟩) (by assumption) ?_; rotate_left; focus (intro w hSw; (try dsimp only at hSw); first | (go_simp; done) | (go_simp; with_reducible rfl))
    try simp only [Act.put, List.setIfInBounds_toArray, List.set_cons_zero, List.set_cons_succ]
    refine wpAnyH_take (i := 6) (v := ?_) (by simp only [List.getElem?_toArray, List.getElem?_cons_succ, List.getElem?_cons_zero]; rfl) (by kernel_rfl) (by kernel_rfl) (by kernel_rfl) (by exact fun _ _ _ h => h) (Or.inl ⟨by rfl, ?_⟩) (by assumption) ?_; rotate_left; focus (intro w hSw; (try dsimp only at hSw); first | (go_simp; done) | (go_simp; with_reducible rfl))
    try simp only [Act.put, List.setIfInBounds_toArray, List.set_cons_zero, List.set_cons_succ]
    refine wpAnyH_done (by kernel_rfl) ?_ _
    go_wp2
    go_ret
    exact ⟨ret_int E.out.symm, B1.out.trans (hHeld.2.2.2.2.2.2.out.mono B1.out.size)⟩
set_option maxHeartbeats 4000000 in
theorem implLevelFor (v0 v1 : Value) (d : ChartD) (i : Int) (s : ShipD) (w : World) (h : RdChart w v0 v1 d) (hw : ∀ x ∈ d.points, PointD.wf x) (hs : s.wf) :
    Calls Try.prog 133 #[.agg #[v0, v1], .int .i64 i, s.val] w fun e w' => e = .returned (.int .i64 (levForI d i s)) ∧ Below w.heap.size w w' := by
  have HR := Lib.hid h
  have HWF := Lib.hid hw
  have WS := Lib.hid hs
  obtain ⟨h0, h1⟩ := h
  obtain ⟨A0, c0, rfl⟩ := h0.at
  obtain ⟨A1, c1, rfl⟩ := h1.at
  obtain ⟨W0, hW0⟩ : ∃ W0, W0 = ((w.alloc (.cells #[.slice A0 d.points.length c0, .slice A1 d.segs.length c1] 32)).alloc (.cells #[.string s.name, .int .i64 s.length, .int .i64 s.draught, .int .i64 s.line, .int .i64 s.tugs, .bool s.slow] 46)) := ⟨_, rfl⟩
  have B := Lib.hid (Joins.below_alloc2 w (.cells #[.slice A0 d.points.length c0, .slice A1 d.segs.length c1] 32) (.cells #[.string s.name, .int .i64 s.length, .int .i64 s.draught, .int .i64 s.line, .int .i64 s.tugs, .bool s.slow] 46))
  have BC := Lib.hid ((Blk.new w #[.slice A0 d.points.length c0, .slice A1 d.segs.length c1] 32).below (Joins.below_alloc1 _ (.cells #[.string s.name, .int .i64 s.length, .int .i64 s.draught, .int .i64 s.line, .int .i64 s.tugs, .bool s.slow] 46)))
  have BS := Lib.hid (Blk.new (w.alloc (.cells #[.slice A0 d.points.length c0, .slice A1 d.segs.length c1] 32)) #[.string s.name, .int .i64 s.length, .int .i64 s.draught, .int .i64 s.line, .int .i64 s.tugs, .bool s.slow] 46)
  rw [World.size_alloc] at BS
  have HW0 := Lib.hid hW0
  rw [← hW0] at B BC BS
  have H1 := Lib.hid h1
  have hl1 := h1.1
  clear h0 h1 hw hs hW0
  obtain ⟨t, ht⟩ : ∃ t, sailB d i s = t := ⟨_, rfl⟩
  have HT := Lib.hid ht
  have p0 : W0.cell? ⟨w.heap.size, 0, none⟩ = some (.slice A0 d.points.length c0) := BC.out.cell 0
  have p1 : W0.cell? ⟨w.heap.size, 1, none⟩ = some (.slice A1 d.segs.length c1) := BC.out.cell 1
  have s0 : W0.cell? ⟨w.heap.size + 1, 0, none⟩ = some (.string s.name) := BS.out.cell 0
  have s1 : W0.cell? ⟨w.heap.size + 1, 1, none⟩ = some (.int .i64 s.length) := BS.out.cell 1
  have s2 : W0.cell? ⟨w.heap.size + 1, 2, none⟩ = some (.int .i64 s.draught) := BS.out.cell 2
  have s3 : W0.cell? ⟨w.heap.size + 1, 3, none⟩ = some (.int .i64 s.line) := BS.out.cell 3
  have s4 : W0.cell? ⟨w.heap.size + 1, 4, none⟩ = some (.int .i64 s.tugs) := BS.out.cell 4
  have s5 : W0.cell? ⟨w.heap.size + 1, 5, none⟩ = some (.bool s.slow) := BS.out.cell 5
  cases t with
  | false =>
    have E := Lib.hid (levForI_bad ht)
    clear ht
    go_enter Try.func133, Try.ntmps133
    go_wp2_with fail
    rw [← HW0.out]
    clear p0 p1 s0 s1 s2 s3 s4 s5
    refine (implSail _ _ d i s _ (HR.out.below B.out) HWF.out WS.out).mono ?_
    rw [HT.out]
    rintro e w1 ⟨rfl, hbk⟩
    have B1 := Lib.hid (B.out.trans (hbk.mono B.out.size))
    clear hbk
    go_wp2
    go_ret
    exact ⟨ret_int E.out.symm, B1.out⟩
  | true =>
    obtain ⟨ok1, ok2, g, hg, hx, i0, il, hsb⟩ := sailB_true ht
    have E := Lib.hid (levForI_ok ht hg)
    obtain ⟨lb0, lb1⟩ := levFor_bnd d i s
    rw [levForI_ok ht hg] at lb0 lb1
    obtain ⟨nd, hnd⟩ : ∃ nd, needI s = nd := ⟨_, rfl⟩
    have HND := Lib.hid hnd
    rw [hnd] at lb0 lb1 E
    have hwr : IntKind.i64.wrap (nd - g.depth) = nd - g.depth := by rw [IntKind.wrap_i64]; omega
    obtain ⟨k, rfl⟩ : ∃ n : Nat, i = (n : Int) := ⟨i.toNat, by omega⟩
    simp only [Int.toNat_natCast] at hx il
    obtain ⟨g', o', e', FD0⟩ : ∃ g' o', A1 = some ⟨g', o', none⟩ ∧ w.cell? ⟨g', o' + k * 5 + 2, none⟩ = some (.int .i64 g.depth) := by
      rcases H1.out.2 with ⟨he, _⟩ | ⟨g', o', c', e, _, _, hc⟩
      · rw [he] at hx; simp at hx
      · injection e with hA _ _
        exact ⟨g', o', hA, (SlSegment.cells hc k g hx).2.2.1⟩
    subst e'
    clear ht hnd hg hx hsb ok1 ok2 lb0 lb1 i0
    go_enter Try.func133, Try.ntmps133
    go_wp2_with fail
    rw [← HW0.out]
    clear p0 p1 s0 s1 s2 s3 s4 s5
    refine (implSail _ _ d (k : Int) s _ (HR.out.below B.out) HWF.out WS.out).mono ?_
    rw [HT.out]
    rintro e w1 ⟨rfl, hbk⟩
    have B1 := Lib.hid (B.out.trans (hbk.mono B.out.size))
    have FD := Lib.hid (cell_onV FD0 B1.out)
    have FC0 := Lib.hid (show w1.cell? ⟨w.heap.size, 0, none⟩ = some (.slice A0 d.points.length c0) from (BC.out.below hbk).cell 0)
    have FC1 := Lib.hid (show w1.cell? ⟨w.heap.size, 1, none⟩ = some (.slice (some ⟨g', o', none⟩) d.segs.length c1) from (BC.out.below hbk).cell 1)
    have FS0 := Lib.hid (show w1.cell? ⟨w.heap.size + 1, 0, none⟩ = some (.string s.name) from (BS.out.below hbk).cell 0)
    have FS1 := Lib.hid (show w1.cell? ⟨w.heap.size + 1, 1, none⟩ = some (.int .i64 s.length) from (BS.out.below hbk).cell 1)
    have FS2 := Lib.hid (show w1.cell? ⟨w.heap.size + 1, 2, none⟩ = some (.int .i64 s.draught) from (BS.out.below hbk).cell 2)
    have FS3 := Lib.hid (show w1.cell? ⟨w.heap.size + 1, 3, none⟩ = some (.int .i64 s.line) from (BS.out.below hbk).cell 3)
    have FS4 := Lib.hid (show w1.cell? ⟨w.heap.size + 1, 4, none⟩ = some (.int .i64 s.tugs) from (BS.out.below hbk).cell 4)
    have FS5 := Lib.hid (show w1.cell? ⟨w.heap.size + 1, 5, none⟩ = some (.bool s.slow) from (BS.out.below hbk).cell 5)
    clear hbk FD0
    have DD := Lib.hid ((Below.refl w1.heap.size w1).drew)
    have vFC0 := FC0.out
    have vFC1 := FC1.out
    have vFD := FD.out
    have vFS0 := FS0.out
    have vFS1 := FS1.out
    have vFS2 := FS2.out
    have vFS3 := FS3.out
    have vFS4 := FS4.out
    have vFS5 := FS5.out
    go_upto_region 3 with fail
    refine wp_region_held_drew (S := (fun w' => w'.cell? ⟨w.heap.size, 0, none⟩ = some (.slice A0 d.points.length c0) ∧ w'.cell? ⟨w.heap.size, 1, none⟩ = some (.slice (some ⟨g', o', none⟩) d.segs.length c1) ∧ w'.cell? ⟨g', o' + k * 5 + 2, none⟩ = some (.int .i64 g.depth) ∧ w'.cell? ⟨w.heap.size + 1, 0, none⟩ = some (.string s.name) ∧ w'.cell? ⟨w.heap.size + 1, 1, none⟩ = some (.int .i64 s.length) ∧ w'.cell? ⟨w.heap.size + 1, 2, none⟩ = some (.int .i64 s.draught) ∧ w'.cell? ⟨w.heap.size + 1, 3, none⟩ = some (.int .i64 s.line) ∧ w'.cell? ⟨w.heap.size + 1, 4, none⟩ = some (.int .i64 s.tugs) ∧ w'.cell? ⟨w.heap.size + 1, 5, none⟩ = some (.bool s.slow) ∧ Hid (Below w1.heap.size w1 w'))) (by kernel_rfl) ?_ (fun hHeld => ?_)
    · (try dsimp only); go_keep
    refine wpAnyH_take (i := 0) (v := ?_) (by simp only [List.getElem?_toArray, List.getElem?_cons_zero]; rfl) (by kernel_rfl) (by kernel_rfl) (by kernel_rfl) (by exact fun _ _ _ h => h) (Or.inl ⟨by rfl, ?_⟩) (by assumption) ?_; rotate_left; focus (intro w hSw; (try dsimp only at hSw); first | (go_simp; done) | (go_simp; with_reducible rfl))
    try simp only [Act.put, List.setIfInBounds_toArray, List.set_cons_zero, List.set_cons_succ]
    refine wpAnyH_take (i := 2) (v := ?_) (by simp only [List.getElem?_toArray, List.getElem?_cons_succ, List.getElem?_cons_zero]; rfl) (by kernel_rfl) (by kernel_rfl) (by kernel_rfl) (by exact fun _ _ _ h => h) (Or.inl ⟨by rfl, ?_⟩) (by assumption) ?_; rotate_left; focus (intro w hSw; (try dsimp only at hSw); first | (go_simp; done) | (go_simp; with_reducible rfl))
    try simp only [Act.put, List.setIfInBounds_toArray, List.set_cons_zero, List.set_cons_succ]
    refine wpAnyH_take (i := 3) (v := ?_) (by simp only [List.getElem?_toArray, List.getElem?_cons_succ, List.getElem?_cons_zero]; rfl) (by kernel_rfl) (by kernel_rfl) (by kernel_rfl) (by exact fun _ _ _ h => h) (Or.inl ⟨by rfl, ?_⟩) (by assumption) ?_; rotate_left; focus (intro w hSw; (try dsimp only at hSw); first | (go_simp; done) | (go_simp; with_reducible rfl))
    try simp only [Act.put, List.setIfInBounds_toArray, List.set_cons_zero, List.set_cons_succ]
    refine wpAnyH_take (i := 4) (v := ?_) (by simp only [List.getElem?_toArray, List.getElem?_cons_succ, List.getElem?_cons_zero]; rfl) (by kernel_rfl) (by kernel_rfl) (by kernel_rfl) (by exact fun _ _ _ h => h) (Or.inl ⟨by rfl, ?_⟩) (by assumption) ?_; rotate_left; focus (intro w hSw; (try dsimp only at hSw); first | (go_simp; done) | (go_simp; with_reducible rfl))
    try simp only [Act.put, List.setIfInBounds_toArray, List.set_cons_zero, List.set_cons_succ]
    refine wpAnyH_take (i := 5) (v := ?_) (by simp only [List.getElem?_toArray, List.getElem?_cons_succ, List.getElem?_cons_zero]; rfl) (by kernel_rfl) (by kernel_rfl) (by kernel_rfl) (by exact fun _ _ _ h => h) (Or.inl ⟨by rfl, ?_⟩) (by assumption) ?_; rotate_left; focus (intro w hSw; (try dsimp only at hSw); first | (go_simp; done) | (go_simp; with_reducible rfl))
    try simp only [Act.put, List.setIfInBounds_toArray, List.set_cons_zero, List.set_cons_succ]
    refine wpAnyH_take (i := 6) (v := ?_) (by simp only [List.getElem?_toArray, List.getElem?_cons_succ, List.getElem?_cons_zero]; rfl) (by kernel_rfl) (by kernel_rfl) (by kernel_rfl) (by exact fun _ _ _ h => h) (Or.inl ⟨by rfl, ?_⟩) (by assumption) ?_; rotate_left; focus (intro w hSw; (try dsimp only at hSw); first | (go_simp; done) | (go_simp; with_reducible rfl))
    try simp only [Act.put, List.setIfInBounds_toArray, List.set_cons_zero, List.set_cons_succ]
    refine wpAnyH_take (i := 7) (v := ?_) (by simp only [List.getElem?_toArray, List.getElem?_cons_succ, List.getElem?_cons_zero]; rfl) (by kernel_rfl) (by kernel_rfl) (by kernel_rfl) (by exact fun _ _ _ h => h) (Or.inl ⟨by rfl, ?_⟩) (by assumption) ?_; rotate_left; focus (intro w hSw; (try dsimp only at hSw); first | (go_simp; done) | (go_simp; with_reducible rfl))
    try simp only [Act.put, List.setIfInBounds_toArray, List.set_cons_zero, List.set_cons_succ]
    refine wpAnyH_ready (rs := [1]) (by kernel_rfl) (by simp) ?_
    refine AllReadyH.cons rfl (fun K hK => ?_) AllReadyH.nil
    rw [if_pos (by rfl)]
    go_simp
    go_at_call 140
    have kB := hHeld.2.2.2.2.2.2.2.2.2
    refine (implNeedOf s _ WS.out).mono ?_
    rw [HND.out]
    rintro e wq ⟨rfl, hbk⟩
    have HBK := kB.out.trans (hbk.mono kB.out.size)
    have QS := Lib.hid (show wq.cell? ⟨w.heap.size, 0, none⟩ = some (.slice A0 d.points.length c0) ∧ wq.cell? ⟨w.heap.size, 1, none⟩ = some (.slice (some ⟨g', o', none⟩) d.segs.length c1) ∧ wq.cell? ⟨g', o' + k * 5 + 2, none⟩ = some (.int .i64 g.depth) ∧ wq.cell? ⟨w.heap.size + 1, 0, none⟩ = some (.string s.name) ∧ wq.cell? ⟨w.heap.size + 1, 1, none⟩ = some (.int .i64 s.length) ∧ wq.cell? ⟨w.heap.size + 1, 2, none⟩ = some (.int .i64 s.draught) ∧ wq.cell? ⟨w.heap.size + 1, 3, none⟩ = some (.int .i64 s.line) ∧ wq.cell? ⟨w.heap.size + 1, 4, none⟩ = some (.int .i64 s.tugs) ∧ wq.cell? ⟨w.heap.size + 1, 5, none⟩ = some (.bool s.slow) ∧ Hid (Below w1.heap.size w1 wq) from ⟨cell_onV FC0.out HBK, cell_onV FC1.out HBK, cell_onV FD.out HBK, cell_onV FS0.out HBK, cell_onV FS1.out HBK, cell_onV FS2.out HBK, cell_onV FS3.out HBK, cell_onV FS4.out HBK, cell_onV FS5.out HBK, Lib.hid HBK⟩)
    clear hbk kB hHeld HBK
    go_simp
    refine hK.out _ _ ?_ (fun hHeld => ?_)
    · (try dsimp only); exact QS.out
    clear hK K
    try simp only [Act.put, List.setIfInBounds_toArray, List.set_cons_zero, List.set_cons_succ]
    refine wpAnyH_take (i := 8) (v := ?_) (by simp only [List.getElem?_toArray, List.getElem?_cons_succ, List.getElem?_cons_zero]; rfl) (by kernel_rfl) (by kernel_rfl) (by kernel_rfl) (by exact fun _ _ _ h => h) (Or.inl ⟨by rfl, ?_⟩) (by assumption) ?_; rotate_left; focus (intro w hSw; (try dsimp only at hSw); first | (go_simp; done) | (go_simp; with_reducible rfl))
    try simp only [Act.put, List.setIfInBounds_toArray, List.set_cons_zero, List.set_cons_succ]
    refine wpAnyH_take (i := 9) (v := ?_) (by simp only [List.getElem?_toArray, List.getElem?_cons_succ, List.getElem?_cons_zero]; rfl) (by kernel_rfl) (by kernel_rfl) (by kernel_rfl) (by exact fun _ _ _ h => h) (Or.inl ⟨by rfl, ?_⟩) (by assumption) ?_; rotate_left; focus (intro w hSw; (try dsimp only at hSw); first | (go_simp; done) | (go_simp; with_reducible rfl))
    try simp only [Act.put, List.setIfInBounds_toArray, List.set_cons_zero, List.set_cons_succ]
    refine wpAnyH_done (by kernel_rfl) ?_ _
    go_wp2
    go_ret
    exact ⟨ret_int E.out.symm, B1.out.trans (hHeld.2.2.2.2.2.2.2.2.2.out.mono B1.out.size)⟩
end Go.Proofs.Ytooeikimoheecaa
