
/- spec.RoutesBetween and spec.BestRoute: contracts. -/
import Derived.Test.YtcofldhjbidjjaaWalkSpec
import Derived.Test.YtcofldhjbidjjaaBestImpl
namespace Go.Proofs.Ytcofldhjbidjjaa
open Go.RowKit
set_option maxRecDepth 100000

/-- A new empty list of lists. -/
theorem LLIn.made (w : World) (base : Nat) (hb : base ≤ w.heap.size) : LLIn (w.alloc (.cells #[] 31)) base (w.alloc (.cells #[] 31)).heap.size (.slice (some ⟨w.heap.size, 0, none⟩) 0 0) [] := by
  have h1 := World.ownsRow_lit (base := base) (e := 31) (size := 1) w #[] 0 hb (by unfold maxLen; omega) (by simp)
  refine ⟨[], by simpa [OwnOf] using h1, .nil, List.Pairwise.nil, fun u hu => by simp at hu, fun g hg => ?_, fun u hu => by simp at hu⟩
  simp [Value.ownBlock] at hg
  rw [World.size_alloc]
  omega

set_option maxHeartbeats 4000000 in
theorem specRoutesBetween (v0 v1 : Value) (d : ChartD) (a b : Int) (w : World) (h : RdChart w v0 v1 d) (hw : ∀ x ∈ d.points, PointD.wf x) :
    Calls Try.prog 39 #[.agg #[v0, v1], .int .i64 a, .int .i64 b] w fun e w' => ∃ v, e = .returned v ∧ OwnLL w' w.heap.size v (rtsL d a b) ∧ Below w.heap.size w w' := by
  have HR := Lib.hid h
  have HWF := Lib.hid hw
  obtain ⟨h0, h1⟩ := h
  obtain ⟨A0, c0, rfl⟩ := h0.at
  obtain ⟨A1, c1, rfl⟩ := h1.at
  have B := Lib.hid (Joins.below_alloc1 w (.cells #[.slice A0 d.points.length c0, .slice A1 d.segs.length c1] 26))
  have BB := Lib.hid (Blk.new w #[.slice A0 d.points.length c0, .slice A1 d.segs.length c1] 26)
  clear h0 h1 hw
  cases hok : chartB d with
  | false =>
    have HOK := Lib.hid hok
    have E := Lib.hid (rtsL_bad (a := a) (b := b) hok)
    clear hok
    go_enter Try.func39, Try.ntmps39
    go_wp2_with fail
    refine (specChartOk _ _ d _ (HR.out.below B.out) HWF.out).mono ?_
    rw [HOK.out]
    rintro e w1 ⟨rfl, hb1⟩
    have B1 := Lib.hid (B.out.trans (hb1.mono B.out.size))
    clear hb1
    go_wp2
    go_ret
    exact ⟨_, rfl, by rw [E.out]; exact (LLIn.nil w1 w.heap.size 0).own, B1.out⟩
  | true =>
    have HOK := Lib.hid hok
    have hpn := (chartB_true hok).1
    clear hok
    cases ha : inB a 0 ((d.points.length : Int) - 1) with
    | false =>
      have HA := Lib.hid ha
      have E := Lib.hid (rtsL_offA (b := b) ha)
      clear ha
      go_enter Try.func39, Try.ntmps39
      go_wp2_with fail
      refine (specChartOk _ _ d _ (HR.out.below B.out) HWF.out).mono ?_
      rw [HOK.out]
      rintro e w1 ⟨rfl, hb1⟩
      have B1 := Lib.hid (B.out.trans (hb1.mono B.out.size))
      have z0 := (BB.out.below hb1).cell 0
      simp at z0
      clear hb1
      go_wp2_with fail
      refine (l01In_any _ _ _ _).mono ?_
      rw [HA.out]
      rintro e w2 ⟨rfl, rfl⟩
      go_wp2
      go_ret
      exact ⟨_, rfl, by rw [E.out]; exact (LLIn.nil w1 w.heap.size 0).own, B1.out⟩
    | true =>
      have HA := Lib.hid ha
      clear ha
      cases hb : inB b 0 ((d.points.length : Int) - 1) with
      | false =>
        have HB := Lib.hid hb
        have E := Lib.hid (rtsL_offB (a := a) hb)
        clear hb
        go_enter Try.func39, Try.ntmps39
        go_wp2_with fail
        refine (specChartOk _ _ d _ (HR.out.below B.out) HWF.out).mono ?_
        rw [HOK.out]
        rintro e w1 ⟨rfl, hb1⟩
        have B1 := Lib.hid (B.out.trans (hb1.mono B.out.size))
        have z0 := (BB.out.below hb1).cell 0
        simp at z0
        clear hb1
        go_wp2_with fail
        refine (l01In_any _ _ _ _).mono ?_
        rw [HA.out]
        rintro e w2 ⟨rfl, rfl⟩
        go_wp2_with fail
        refine (l01In_any _ _ _ _).mono ?_
        rw [HB.out]
        rintro e w2 ⟨rfl, rfl⟩
        go_wp2
        go_ret
        exact ⟨_, rfl, by rw [E.out]; exact (LLIn.nil w1 w.heap.size 0).own, B1.out⟩
      | true =>
        have HB := Lib.hid hb
        have E := Lib.hid (rtsL_ok HOK.out HA.out hb)
        clear hb
        go_enter Try.func39, Try.ntmps39
        go_wp2_with fail
        refine (specChartOk _ _ d _ (HR.out.below B.out) HWF.out).mono ?_
        rw [HOK.out]
        rintro e w1 ⟨rfl, hb1⟩
        have B1 := Lib.hid (B.out.trans (hb1.mono B.out.size))
        have z0 := (BB.out.below hb1).cell 0
        have z1 := (BB.out.below hb1).cell 1
        simp at z0 z1
        have hs1 := B1.out.size
        have G0 := Lib.hid (GathO.one (cs := intCells) (t := 3) (k := 1) (x := a) (Below.refl w1.heap.size w1) rfl)
        obtain ⟨w5, hw5⟩ : ∃ w5, w5 = w1.alloc (.cells #[.int .i64 a] 3) := ⟨_, rfl⟩
        have hs5 : w5.heap.size = w1.heap.size + 1 := by rw [hw5]; simp
        have HG5 := Lib.hid (show OwnInt w5 w1.heap.size (.slice (some ⟨w1.heap.size, 0, none⟩) 1 1) [a] by rw [hw5]; exact G0.out.1)
        have HB5 := Lib.hid (show Below w1.heap.size w1 w5 by rw [hw5]; exact Joins.below_alloc1 _ _)
        have HO5 := Lib.hid (LLIn.made w5 w1.heap.size HB5.out.size)
        have HB6 := Lib.hid (Joins.below_alloc1 w5 (.cells #[] 31))
        have HS5 := Lib.hid hs5
        have HW5 := Lib.hid hw5
        clear hs5 hw5 G0
        clear hb1
        go_wp2_with fail
        refine (l01In_any _ _ _ _).mono ?_
        rw [HA.out]
        rintro e w2 ⟨rfl, rfl⟩
        go_wp2_with fail
        refine (l01In_any _ _ _ _).mono ?_
        rw [HB.out]
        rintro e w2 ⟨rfl, rfl⟩
        go_wp2_with (first | rw [← HW5.out] | fail)
        refine (specWalk d HOK.out b 7 [a] [] _ _ (.slice (some ⟨w1.heap.size, 0, none⟩) 1 1) (.slice none 0 0) (.slice (some ⟨w5.heap.size, 0, none⟩) 0 0) [] w1.heap.size w _ HR.out (B1.out.trans ((HB5.out.trans (HB6.out.mono HB5.out.size)).mono hs1)) hs1 (Nat.le_trans HB5.out.size HB6.out.size) HO5.out (SlOf.below (own_sl intLen HG5.out (by simp)) HB6.out) ⟨by simp, .inl ⟨rfl, none, 0, rfl⟩⟩ (fun g hg hg' => by simp [Value.ownBlock] at hg hg'; have := HS5.out; omega) (fun g _ hg' => by cases hg') (GoodP.one HA.out) (by simp; omega) (by simp) (by omega) (by simp)).mono ?_
        rintro e w3 ⟨u, rfl, hll, hk, _⟩
        have HL := Lib.hid (hll.lo hs1).own
        have BZ := Lib.hid (hk.toBelow (B1.out.trans ((HB5.out.trans (HB6.out.mono HB5.out.size)).mono hs1)) (Nat.le_refl _) (fun i hi e => by simp [Value.ownBlock] at e; have := HS5.out; omega))
        obtain ⟨U, cu, hU, _⟩ := hll.form
        subst hU
        clear hll hk z0 z1
        go_wp2
        go_ret
        exact ⟨_, rfl, by rw [E.out]; exact HL.out, BZ.out⟩

def BestAt (g : List Int → Int) (ll : List (List Int)) (fb : Bool) (l : List Int) : Prop := (fb = false ∧ bestF g ll = none) ∨ (fb = true ∧ bestF g ll = some l)

theorem BestAt.no {g : List Int → Int} {ll : List (List Int)} {l : List Int} (h : BestAt g ll false l) : bestF g ll = none := by
  rcases h with ⟨_, h⟩ | ⟨h, _⟩
  · exact h
  · cases h
theorem BestAt.yes {g : List Int → Int} {ll : List (List Int)} {l : List Int} (h : BestAt g ll true l) : bestF g ll = some l := by
  rcases h with ⟨h, _⟩ | ⟨_, h⟩
  · cases h
  · exact h

set_option maxHeartbeats 8000000 in
theorem specBestRoute (v0 v1 : Value) (d : ChartD) (a b : Int) (w : World) (h : RdChart w v0 v1 d) (hw : ∀ x ∈ d.points, PointD.wf x) :
    Calls Try.prog 43 #[.agg #[v0, v1], .int .i64 a, .int .i64 b] w fun e w' => ∃ v, e = .returned (.tuple #[v, .bool (bestO d a b).isSome]) ∧ OwnInt w' w.heap.size v ((bestO d a b).getD []) ∧ Below w.heap.size w w' := by
  have HR := Lib.hid h
  have HWF := Lib.hid hw
  obtain ⟨h0, h1⟩ := h
  obtain ⟨A0, c0, rfl⟩ := h0.at
  obtain ⟨A1, c1, rfl⟩ := h1.at
  have HLEN := Lib.hid (rtsL_len d a b)
  have HE := Lib.hid (show bestO d a b = bestF (minutesI d) (rtsL d a b) from rfl)
  obtain ⟨w1, hw1⟩ : ∃ w1, w1 = w.alloc (.cells #[.slice A0 d.points.length c0, .slice A1 d.segs.length c1] 26) := ⟨_, rfl⟩
  have B := Lib.hid (show Below w.heap.size w w1 by rw [hw1]; exact Joins.below_alloc1 _ _)
  have BB := Lib.hid (show Blk w1 w.heap.size #[.slice A0 d.points.length c0, .slice A1 d.segs.length c1] 26 by rw [hw1]; exact Blk.new _ _ _)
  have B2 := Lib.hid (Joins.below_alloc1 w1 (.cells #[] 3))
  have O2 := Lib.hid (World.ownsRow_lit (base := w.heap.size) (e := 3) (size := 1) w1 #[] 0 B.out.size (by unfold maxLen; omega) (by simp))
  have HW1 := Lib.hid hw1
  clear h0 h1 hw hw1
  obtain ⟨ll, hll⟩ : ∃ ll, rtsL d a b = ll := ⟨_, rfl⟩
  have HLL := Lib.hid hll
  rw [hll] at HLEN HE
  clear hll
  have y0 : (w1.alloc (.cells #[] 3)).cell? ⟨w.heap.size, 0, none⟩ = some (.slice A0 d.points.length c0) := (BB.out.below B2.out).cell 0
  have y1 : (w1.alloc (.cells #[] 3)).cell? ⟨w.heap.size, 1, none⟩ = some (.slice A1 d.segs.length c1) := (BB.out.below B2.out).cell 1
  go_enter Try.func43, Try.ntmps43
  go_wp2_with (first | rw [← HW1.out] | fail)
  refine (specRoutesBetween _ _ d a b _ (HR.out.below (B.out.trans (B2.out.mono B.out.size))) HWF.out).mono ?_
  rw [HLL.out]
  rintro e w2 ⟨v, rfl, ho, hb1⟩
  have B12 := Lib.hid (B2.out.trans (hb1.mono B2.out.size))
  have BW2 := Lib.hid (B.out.trans (B12.out.mono B.out.size))
  have BB2 := Lib.hid (BB.out.below B12.out)
  have OB := Lib.hid (show OwnInt w2 w.heap.size (.slice (some ⟨w1.heap.size, 0, none⟩) 0 0) [] from own_below (by simpa [OwnInt, OwnOf] using O2.out) hb1)
  obtain ⟨vs, hov, hB, _, _⟩ := ho
  obtain ⟨hlen, hat⟩ := forall2_at hB
  have hvl : vs.length ≤ 10000000 := by rw [hlen]; exact HLEN.out.1
  have hs := own_sl headLen hov (by omega)
  have HAT := Lib.hid (show ∀ (i : Nat) (u : Value), vs[i]? = some u → ∃ l, ll[i]? = some l ∧ OwnInt w2 w.heap.size u l ∧ l.length ≤ 1000000000 from fun i u hu => by
    obtain ⟨l, hl, hR⟩ := hat i u hu
    exact ⟨l, hl, own_lo hR (Nat.le_trans B.out.size B2.out.size), by have := sumLen_mem (List.mem_of_getElem? hl); have := HLEN.out.2; omega⟩)
  have HLEN2 := Lib.hid hlen
  obtain ⟨V, cv, rfl⟩ := own_form hov
  have HC := Lib.hid (show ∀ i u, vs[i]? = some u → ∃ g o, (Value.slice V vs.length cv) = .slice (some ⟨g, o, none⟩) vs.length cv ∧ g < w2.heap.size ∧ w2.cell? ⟨g, o + i, none⟩ = some u from fun i u hu => by
    rcases hs.2 with ⟨he, _⟩ | ⟨g, o, c, e, _, _, hc⟩
    · rw [he] at hu; simp at hu
    · injection e with e1 _ e3
      subst e1 e3
      have := hc i u hu 0 u rfl
      simp at this
      exact ⟨g, o, rfl, World.block_lt_of_cell? w2 _ this, this⟩)
  clear hb1 hov hB hlen hat hs y0 y1
  go_wp2
  go_loopw [8, 9, 18] (fun q fb i wr => ∃ (k : Nat) (l : List Int) (f : Bool), k ≤ vs.length ∧ i = .int .i64 k ∧ fb = .bool f ∧ Hid (OwnInt w2 w.heap.size q l ∧ l.length ≤ 1000000000) ∧ Hid (BestAt (minutesI d) (ll.take k) f l) ∧ Hid (Below w2.heap.size w2 wr)) (fun _ _ i _ => vs.length - (intOf i).toNat)
  case atStart => exact ⟨0, [], false, Nat.zero_le _, rfl, rfl, Lib.hid ⟨OB.out, by simp⟩, Lib.hid (.inl ⟨rfl, rfl⟩), Lib.hid (Below.refl _ _)⟩
  case round =>
    obtain ⟨k, l, f, hk, rfl, rfl, hO, hBA, hb⟩ := hrel
    obtain ⟨Aq, cq, hq⟩ := own_form hO.out.1
    subst hq
    have z0 := (BB2.out.below hb.out).cell 0
    have z1 := (BB2.out.below hb.out).cell 1
    simp at z0 z1
    have HBW := Lib.hid (BW2.out.trans (hb.out.mono BW2.out.size))
    by_cases hlt : k < vs.length
    rotate_left
    · obtain rfl : k = vs.length := by omega
      have HT : ll.take vs.length = ll := by rw [HLEN2.out, List.take_length]
      have HBA := Lib.hid (show BestAt (minutesI d) ll f l by have := hBA.out; rw [HT] at this; exact this)
      clear HT
      cases f with
      | false =>
        have E := Lib.hid (show bestO d a b = none by rw [HE.out]; exact HBA.out.no)
        go_wp2
        refine bodyPost_ret (v := .tuple #[.slice none 0 0, .bool false]) (by simp [results, Try.results43, go_sem, *]) rfl ⟨_, by rw [E.out]; rfl, by rw [E.out]; exact (GathO.empty (cs := intCells) (t := 3) (k := 1) HBW.out).1, HBW.out⟩
      | true =>
        have E := Lib.hid (show bestO d a b = some l by rw [HE.out]; exact HBA.out.yes)
        have HQ := Lib.hid (own_below hO.out.1 hb.out)
        go_wp2
        refine bodyPost_ret (v := .tuple #[.slice Aq l.length cq, .bool true]) (by simp [results, Try.results43, go_sem, *]) rfl ⟨_, by rw [E.out]; rfl, by rw [E.out]; exact HQ.out, HBW.out⟩
    · obtain ⟨u, hu⟩ : ∃ u, vs[k]? = some u := ⟨_, List.getElem?_eq_getElem hlt⟩
      obtain ⟨r, hr, hor, hrl⟩ := HAT.out k u hu
      obtain ⟨Ar, cr, hur⟩ := own_form hor
      subst hur
      obtain ⟨g, o, hV, hg, hc⟩ := HC.out k _ hu
      injection hV with hV1
      subst hV1
      have yq := (hb.out.cell (p := ⟨g, o + k, none⟩) hg).trans hc
      have HNX := Lib.hid ((congrArg (bestF (minutesI d)) (take_snoc' ll k r hr)).trans (bestF_snoc (minutesI d) (ll.take k) r))
      have HOR := Lib.hid hor
      have HRL := Lib.hid hrl
      clear hu hr hor hrl hc
      cases f with
      | false =>
        have NX := Lib.hid (show BestAt (minutesI d) (ll.take (k + 1)) true r by
          exact .inr ⟨rfl, by rw [HNX.out, hBA.out.no]⟩)
        have HDR := Lib.hid hb.out.drew
        go_wp2
        refine wp_region_held_drew (S := (fun w' => w'.cell? ⟨w.heap.size, 0, none⟩ = some (.slice A0 d.points.length c0) ∧ w'.cell? ⟨w.heap.size, 1, none⟩ = some (.slice A1 d.segs.length c1) ∧ Hid (Below w2.heap.size w2 w'))) (by kernel_rfl) ?_ (fun hHeld => ?_)
        · (try dsimp only); go_keep
        refine wpAnyH_take (i := 0) (v := ?_) (by simp only [List.getElem?_toArray, List.getElem?_cons_zero]; rfl) (by kernel_rfl) (by kernel_rfl) (by kernel_rfl) (by exact fun _ _ _ h => h) (Or.inl ⟨by rfl, ?_⟩) (by assumption) ?_; rotate_left; focus (intro w hSw; (try dsimp only at hSw); first | (go_simp; done) | (go_simp; with_reducible rfl))
        try simp only [Act.put, List.setIfInBounds_toArray, List.set_cons_zero, List.set_cons_succ]
        refine wpAnyH_take (i := 1) (v := ?_) (by simp only [List.getElem?_toArray, List.getElem?_cons_succ, List.getElem?_cons_zero]; rfl) (by kernel_rfl) (by kernel_rfl) (by kernel_rfl) (by exact fun _ _ _ h => h) (Or.inl ⟨by rfl, ?_⟩) (by assumption) ?_; rotate_left; focus (intro w hSw; (try dsimp only at hSw); first | (go_simp; done) | (go_simp; with_reducible rfl))
        try simp only [Act.put, List.setIfInBounds_toArray, List.set_cons_zero, List.set_cons_succ]
        refine wpAnyH_take (i := 2) (v := ?_) (by simp only [List.getElem?_toArray, List.getElem?_cons_succ, List.getElem?_cons_zero]; rfl) (by kernel_rfl) (by kernel_rfl) (by kernel_rfl) (by exact fun _ _ _ h => h) (Or.inl ⟨by rfl, ?_⟩) (by assumption) ?_; rotate_left; focus (intro w hSw; (try dsimp only at hSw); first | (go_simp; done) | (go_simp; with_reducible rfl))
        try simp only [Act.put, List.setIfInBounds_toArray, List.set_cons_zero, List.set_cons_succ]
        refine wpAnyH_take (i := 3) (v := undef) (by simp only [List.getElem?_toArray, List.getElem?_cons_succ, List.getElem?_cons_zero]; rfl) (by kernel_rfl) (by kernel_rfl) (by kernel_rfl) (by exact fun _ _ _ h => h) (Or.inr ⟨by rfl, rfl⟩) (by assumption) ?_
        try simp only [Act.put, List.setIfInBounds_toArray, List.set_cons_zero, List.set_cons_succ]
        refine wpAnyH_take (i := 4) (v := undef) (by simp only [List.getElem?_toArray, List.getElem?_cons_succ, List.getElem?_cons_zero]; rfl) (by kernel_rfl) (by kernel_rfl) (by kernel_rfl) (by exact fun _ _ _ h => h) (Or.inr ⟨by rfl, rfl⟩) (by assumption) ?_
        try simp only [Act.put, List.setIfInBounds_toArray, List.set_cons_zero, List.set_cons_succ]
        refine wpAnyH_take (i := 5) (v := undef) (by simp only [List.getElem?_toArray, List.getElem?_cons_succ, List.getElem?_cons_zero]; rfl) (by kernel_rfl) (by kernel_rfl) (by kernel_rfl) (by exact fun _ _ _ h => h) (Or.inr ⟨by rfl, rfl⟩) (by assumption) ?_
        try simp only [Act.put, List.setIfInBounds_toArray, List.set_cons_zero, List.set_cons_succ]
        refine wpAnyH_take (i := 6) (v := undef) (by simp only [List.getElem?_toArray, List.getElem?_cons_succ, List.getElem?_cons_zero]; rfl) (by kernel_rfl) (by kernel_rfl) (by kernel_rfl) (by exact fun _ _ _ h => h) (Or.inr ⟨by rfl, rfl⟩) (by assumption) ?_
        try simp only [Act.put, List.setIfInBounds_toArray, List.set_cons_zero, List.set_cons_succ]
        refine wpAnyH_take (i := 7) (v := undef) (by simp only [List.getElem?_toArray, List.getElem?_cons_succ, List.getElem?_cons_zero]; rfl) (by kernel_rfl) (by kernel_rfl) (by kernel_rfl) (by exact fun _ _ _ h => h) (Or.inr ⟨by rfl, rfl⟩) (by assumption) ?_
        try simp only [Act.put, List.setIfInBounds_toArray, List.set_cons_zero, List.set_cons_succ]
        refine wpAnyH_take (i := 8) (v := undef) (by simp only [List.getElem?_toArray, List.getElem?_cons_succ, List.getElem?_cons_zero]; rfl) (by kernel_rfl) (by kernel_rfl) (by kernel_rfl) (by exact fun _ _ _ h => h) (Or.inr ⟨by rfl, rfl⟩) (by assumption) ?_
        try simp only [Act.put, List.setIfInBounds_toArray, List.set_cons_zero, List.set_cons_succ]
        refine wpAnyH_take (i := 9) (v := undef) (by simp only [List.getElem?_toArray, List.getElem?_cons_succ, List.getElem?_cons_zero]; rfl) (by kernel_rfl) (by kernel_rfl) (by kernel_rfl) (by exact fun _ _ _ h => h) (Or.inr ⟨by rfl, rfl⟩) (by assumption) ?_
        try simp only [Act.put, List.setIfInBounds_toArray, List.set_cons_zero, List.set_cons_succ]
        refine wpAnyH_take (i := 10) (v := ?_) (by simp only [List.getElem?_toArray, List.getElem?_cons_succ, List.getElem?_cons_zero]; rfl) (by kernel_rfl) (by kernel_rfl) (by kernel_rfl) (by exact fun _ _ _ h => h) (Or.inl ⟨by rfl, ?_⟩) (by assumption) ?_; rotate_left; focus (intro w hSw; (try dsimp only at hSw); first | (go_simp; done) | (go_simp; with_reducible rfl))
        try simp only [Act.put, List.setIfInBounds_toArray, List.set_cons_zero, List.set_cons_succ]
        refine wpAnyH_done (by kernel_rfl) ?_ _
        have HB1 := Lib.hid hHeld.2.2.out
        clear hHeld
        go_wp2
        go_roundw
        case rel => exact ⟨k + 1, r, true, by omega, by go_num, rfl, Lib.hid ⟨HOR.out, HRL.out⟩, NX, HB1⟩
        case measure => simp [intOf]; omega
      | true =>
        have HBF := Lib.hid hBA.out.yes
        have HDR := Lib.hid hb.out.drew
        obtain ⟨x, hx⟩ : ∃ x, minutesI d r = x := ⟨_, rfl⟩
        obtain ⟨y, hy⟩ : ∃ y, minutesI d l = y := ⟨_, rfl⟩
        have HX := Lib.hid hx
        have HY := Lib.hid hy
        clear hx hy
        by_cases hxy : x < y
        · have NX := Lib.hid (show BestAt (minutesI d) (ll.take (k + 1)) true r from .inr ⟨rfl, by rw [HNX.out, HBF.out]; show (if minutesI d r < minutesI d l then some r else some l) = _; rw [HX.out, HY.out, if_pos hxy]⟩)
          go_wp2
          refine wp_region_held_drew (S := (fun w' => w'.cell? ⟨w.heap.size, 0, none⟩ = some (.slice A0 d.points.length c0) ∧ w'.cell? ⟨w.heap.size, 1, none⟩ = some (.slice A1 d.segs.length c1) ∧ Hid (Below w2.heap.size w2 w'))) (by kernel_rfl) ?_ (fun hHeld => ?_)
          · (try dsimp only); go_keep
          refine wpAnyH_take (i := 0) (v := ?_) (by simp only [List.getElem?_toArray, List.getElem?_cons_zero]; rfl) (by kernel_rfl) (by kernel_rfl) (by kernel_rfl) (by exact fun _ _ _ h => h) (Or.inl ⟨by rfl, ?_⟩) (by assumption) ?_; rotate_left; focus (intro w hSw; (try dsimp only at hSw); first | (go_simp; done) | (go_simp; with_reducible rfl))
          try simp only [Act.put, List.setIfInBounds_toArray, List.set_cons_zero, List.set_cons_succ]
          refine wpAnyH_take (i := 1) (v := ?_) (by simp only [List.getElem?_toArray, List.getElem?_cons_succ, List.getElem?_cons_zero]; rfl) (by kernel_rfl) (by kernel_rfl) (by kernel_rfl) (by exact fun _ _ _ h => h) (Or.inl ⟨by rfl, ?_⟩) (by assumption) ?_; rotate_left; focus (intro w hSw; (try dsimp only at hSw); first | (go_simp; done) | (go_simp; with_reducible rfl))
          try simp only [Act.put, List.setIfInBounds_toArray, List.set_cons_zero, List.set_cons_succ]
          refine wpAnyH_take (i := 2) (v := ?_) (by simp only [List.getElem?_toArray, List.getElem?_cons_succ, List.getElem?_cons_zero]; rfl) (by kernel_rfl) (by kernel_rfl) (by kernel_rfl) (by exact fun _ _ _ h => h) (Or.inl ⟨by rfl, ?_⟩) (by assumption) ?_; rotate_left; focus (intro w hSw; (try dsimp only at hSw); first | (go_simp; done) | (go_simp; with_reducible rfl))
          try simp only [Act.put, List.setIfInBounds_toArray, List.set_cons_zero, List.set_cons_succ]
          refine wpAnyH_take (i := 3) (v := ?_) (by simp only [List.getElem?_toArray, List.getElem?_cons_succ, List.getElem?_cons_zero]; rfl) (by kernel_rfl) (by kernel_rfl) (by kernel_rfl) (by exact fun _ _ _ h => h) (Or.inl ⟨by rfl, ?_⟩) (by assumption) ?_; rotate_left; focus (intro w hSw; (try dsimp only at hSw); first | (go_simp; done) | (go_simp; with_reducible rfl))
          try simp only [Act.put, List.setIfInBounds_toArray, List.set_cons_zero, List.set_cons_succ]
          refine wpAnyH_take (i := 4) (v := ?_) (by simp only [List.getElem?_toArray, List.getElem?_cons_succ, List.getElem?_cons_zero]; rfl) (by kernel_rfl) (by kernel_rfl) (by kernel_rfl) (by exact fun _ _ _ h => h) (Or.inl ⟨by rfl, ?_⟩) (by assumption) ?_; rotate_left; focus (intro w hSw; (try dsimp only at hSw); first | (go_simp; done) | (go_simp; with_reducible rfl))
          try simp only [Act.put, List.setIfInBounds_toArray, List.set_cons_zero, List.set_cons_succ]
          refine wpAnyH_take (i := 6) (v := ?_) (by simp only [List.getElem?_toArray, List.getElem?_cons_succ, List.getElem?_cons_zero]; rfl) (by kernel_rfl) (by kernel_rfl) (by kernel_rfl) (by exact fun _ _ _ h => h) (Or.inl ⟨by rfl, ?_⟩) (by assumption) ?_; rotate_left; focus (intro w hSw; (try dsimp only at hSw); first | (go_simp; done) | (go_simp; with_reducible rfl))
          try simp only [Act.put, List.setIfInBounds_toArray, List.set_cons_zero, List.set_cons_succ]
          refine wpAnyH_take (i := 7) (v := ?_) (by simp only [List.getElem?_toArray, List.getElem?_cons_succ, List.getElem?_cons_zero]; rfl) (by kernel_rfl) (by kernel_rfl) (by kernel_rfl) (by exact fun _ _ _ h => h) (Or.inl ⟨by rfl, ?_⟩) (by assumption) ?_; rotate_left; focus (intro w hSw; (try dsimp only at hSw); first | (go_simp; done) | (go_simp; with_reducible rfl))
          try simp only [Act.put, List.setIfInBounds_toArray, List.set_cons_zero, List.set_cons_succ]
          refine wpAnyH_ready (rs := [5]) (by kernel_rfl) (by simp) ?_
          refine AllReadyH.cons rfl (fun K hK => ?_) AllReadyH.nil
          rw [if_pos (by rfl)]
          go_simp
          go_at_call 38
          refine (specRouteMinutes _ _ d _ r _ (HR.out.below (BW2.out.trans (hHeld.2.2.out.mono BW2.out.size))) (SlOf.below (own_sl intLen (show OwnInt w2 w.heap.size _ r ∧ r.length ≤ 1000000000 from ⟨HOR.out, HRL.out⟩).1 (show OwnInt w2 w.heap.size _ r ∧ r.length ≤ 1000000000 from ⟨HOR.out, HRL.out⟩).2) hHeld.2.2.out) HWF.out).mono ?_
          rw [HX.out]
          rintro e w3 ⟨rfl, hb3⟩
          obtain ⟨k0, k1, kb⟩ := hHeld
          have Q3 := Lib.hid (⟨cell_onV k0 hb3, cell_onV k1 hb3, Lib.hid (kb.out.trans (hb3.mono kb.out.size))⟩ : (fun w' => w'.cell? ⟨w.heap.size, 0, none⟩ = some (.slice A0 d.points.length c0) ∧ w'.cell? ⟨w.heap.size, 1, none⟩ = some (.slice A1 d.segs.length c1) ∧ Hid (Below w2.heap.size w2 w')) w3)
          clear hb3 kb k0 k1
          go_simp
          refine hK.out _ _ ?_ (fun hHeld => ?_)
          · (try dsimp only); exact Q3.out
          clear hK K
          try simp only [Act.put, List.setIfInBounds_toArray, List.set_cons_zero, List.set_cons_succ]
          refine wpAnyH_ready (rs := [8]) (by kernel_rfl) (by simp) ?_
          refine AllReadyH.cons rfl (fun K hK => ?_) AllReadyH.nil
          rw [if_pos (by rfl)]
          go_simp
          go_at_call 38
          refine (specRouteMinutes _ _ d _ l _ (HR.out.below (BW2.out.trans (hHeld.2.2.out.mono BW2.out.size))) (SlOf.below (own_sl intLen hO.out.1 hO.out.2) hHeld.2.2.out) HWF.out).mono ?_
          rw [HY.out]
          rintro e w4 ⟨rfl, hb4⟩
          obtain ⟨k0, k1, kb⟩ := hHeld
          have Q4 := Lib.hid (⟨cell_onV k0 hb4, cell_onV k1 hb4, Lib.hid (kb.out.trans (hb4.mono kb.out.size))⟩ : (fun w' => w'.cell? ⟨w.heap.size, 0, none⟩ = some (.slice A0 d.points.length c0) ∧ w'.cell? ⟨w.heap.size, 1, none⟩ = some (.slice A1 d.segs.length c1) ∧ Hid (Below w2.heap.size w2 w')) w4)
          clear hb4 kb k0 k1
          go_simp
          refine hK.out _ _ ?_ (fun hHeld => ?_)
          · (try dsimp only); exact Q4.out
          clear hK K
          try simp only [Act.put, List.setIfInBounds_toArray, List.set_cons_zero, List.set_cons_succ]
          refine wpAnyH_take (i := 9) (v := ?_) (by simp only [List.getElem?_toArray, List.getElem?_cons_succ, List.getElem?_cons_zero]; rfl) (by kernel_rfl) (by kernel_rfl) (by kernel_rfl) (by exact fun _ _ _ h => h) (Or.inl ⟨by rfl, ?_⟩) (by assumption) ?_; rotate_left; focus (intro w hSw; (try dsimp only at hSw); first | (go_simp; done) | (go_simp; with_reducible rfl))
          try simp only [Act.put, List.setIfInBounds_toArray, List.set_cons_zero, List.set_cons_succ]
          refine wpAnyH_take (i := 10) (v := ?_) (by simp only [List.getElem?_toArray, List.getElem?_cons_succ, List.getElem?_cons_zero]; rfl) (by kernel_rfl) (by kernel_rfl) (by kernel_rfl) (by exact fun _ _ _ h => h) (Or.inl ⟨by rfl, ?_⟩) (by assumption) ?_; rotate_left; focus (intro w hSw; (try dsimp only at hSw); first | (go_simp; done) | (go_simp; with_reducible rfl))
          try simp only [Act.put, List.setIfInBounds_toArray, List.set_cons_zero, List.set_cons_succ]
          refine wpAnyH_done (by kernel_rfl) ?_ _
          have HB1 := Lib.hid hHeld.2.2.out
          clear hHeld
          go_wp2
          go_roundw
          case rel => exact ⟨k + 1, r, true, by omega, by go_num, rfl, Lib.hid ⟨HOR.out, HRL.out⟩, NX, HB1⟩
          case measure => simp [intOf]; omega
        · have NX := Lib.hid (show BestAt (minutesI d) (ll.take (k + 1)) true l from .inr ⟨rfl, by rw [HNX.out, HBF.out]; show (if minutesI d r < minutesI d l then some r else some l) = _; rw [HX.out, HY.out, if_neg hxy]⟩)
          have hxb : decide (x < y) = false := decide_eq_false hxy
          go_wp2
          refine wp_region_held_drew (S := (fun w' => w'.cell? ⟨w.heap.size, 0, none⟩ = some (.slice A0 d.points.length c0) ∧ w'.cell? ⟨w.heap.size, 1, none⟩ = some (.slice A1 d.segs.length c1) ∧ Hid (Below w2.heap.size w2 w'))) (by kernel_rfl) ?_ (fun hHeld => ?_)
          · (try dsimp only); go_keep
          refine wpAnyH_take (i := 0) (v := ?_) (by simp only [List.getElem?_toArray, List.getElem?_cons_zero]; rfl) (by kernel_rfl) (by kernel_rfl) (by kernel_rfl) (by exact fun _ _ _ h => h) (Or.inl ⟨by rfl, ?_⟩) (by assumption) ?_; rotate_left; focus (intro w hSw; (try dsimp only at hSw); first | (go_simp; done) | (go_simp; with_reducible rfl))
          try simp only [Act.put, List.setIfInBounds_toArray, List.set_cons_zero, List.set_cons_succ]
          refine wpAnyH_take (i := 1) (v := ?_) (by simp only [List.getElem?_toArray, List.getElem?_cons_succ, List.getElem?_cons_zero]; rfl) (by kernel_rfl) (by kernel_rfl) (by kernel_rfl) (by exact fun _ _ _ h => h) (Or.inl ⟨by rfl, ?_⟩) (by assumption) ?_; rotate_left; focus (intro w hSw; (try dsimp only at hSw); first | (go_simp; done) | (go_simp; with_reducible rfl))
          try simp only [Act.put, List.setIfInBounds_toArray, List.set_cons_zero, List.set_cons_succ]
          refine wpAnyH_take (i := 2) (v := ?_) (by simp only [List.getElem?_toArray, List.getElem?_cons_succ, List.getElem?_cons_zero]; rfl) (by kernel_rfl) (by kernel_rfl) (by kernel_rfl) (by exact fun _ _ _ h => h) (Or.inl ⟨by rfl, ?_⟩) (by assumption) ?_; rotate_left; focus (intro w hSw; (try dsimp only at hSw); first | (go_simp; done) | (go_simp; with_reducible rfl))
          try simp only [Act.put, List.setIfInBounds_toArray, List.set_cons_zero, List.set_cons_succ]
          refine wpAnyH_take (i := 3) (v := ?_) (by simp only [List.getElem?_toArray, List.getElem?_cons_succ, List.getElem?_cons_zero]; rfl) (by kernel_rfl) (by kernel_rfl) (by kernel_rfl) (by exact fun _ _ _ h => h) (Or.inl ⟨by rfl, ?_⟩) (by assumption) ?_; rotate_left; focus (intro w hSw; (try dsimp only at hSw); first | (go_simp; done) | (go_simp; with_reducible rfl))
          try simp only [Act.put, List.setIfInBounds_toArray, List.set_cons_zero, List.set_cons_succ]
          refine wpAnyH_take (i := 4) (v := ?_) (by simp only [List.getElem?_toArray, List.getElem?_cons_succ, List.getElem?_cons_zero]; rfl) (by kernel_rfl) (by kernel_rfl) (by kernel_rfl) (by exact fun _ _ _ h => h) (Or.inl ⟨by rfl, ?_⟩) (by assumption) ?_; rotate_left; focus (intro w hSw; (try dsimp only at hSw); first | (go_simp; done) | (go_simp; with_reducible rfl))
          try simp only [Act.put, List.setIfInBounds_toArray, List.set_cons_zero, List.set_cons_succ]
          refine wpAnyH_take (i := 6) (v := ?_) (by simp only [List.getElem?_toArray, List.getElem?_cons_succ, List.getElem?_cons_zero]; rfl) (by kernel_rfl) (by kernel_rfl) (by kernel_rfl) (by exact fun _ _ _ h => h) (Or.inl ⟨by rfl, ?_⟩) (by assumption) ?_; rotate_left; focus (intro w hSw; (try dsimp only at hSw); first | (go_simp; done) | (go_simp; with_reducible rfl))
          try simp only [Act.put, List.setIfInBounds_toArray, List.set_cons_zero, List.set_cons_succ]
          refine wpAnyH_take (i := 7) (v := ?_) (by simp only [List.getElem?_toArray, List.getElem?_cons_succ, List.getElem?_cons_zero]; rfl) (by kernel_rfl) (by kernel_rfl) (by kernel_rfl) (by exact fun _ _ _ h => h) (Or.inl ⟨by rfl, ?_⟩) (by assumption) ?_; rotate_left; focus (intro w hSw; (try dsimp only at hSw); first | (go_simp; done) | (go_simp; with_reducible rfl))
          try simp only [Act.put, List.setIfInBounds_toArray, List.set_cons_zero, List.set_cons_succ]
          refine wpAnyH_ready (rs := [5]) (by kernel_rfl) (by simp) ?_
          refine AllReadyH.cons rfl (fun K hK => ?_) AllReadyH.nil
          rw [if_pos (by rfl)]
          go_simp
          go_at_call 38
          refine (specRouteMinutes _ _ d _ r _ (HR.out.below (BW2.out.trans (hHeld.2.2.out.mono BW2.out.size))) (SlOf.below (own_sl intLen (show OwnInt w2 w.heap.size _ r ∧ r.length ≤ 1000000000 from ⟨HOR.out, HRL.out⟩).1 (show OwnInt w2 w.heap.size _ r ∧ r.length ≤ 1000000000 from ⟨HOR.out, HRL.out⟩).2) hHeld.2.2.out) HWF.out).mono ?_
          rw [HX.out]
          rintro e w3 ⟨rfl, hb3⟩
          obtain ⟨k0, k1, kb⟩ := hHeld
          have Q3 := Lib.hid (⟨cell_onV k0 hb3, cell_onV k1 hb3, Lib.hid (kb.out.trans (hb3.mono kb.out.size))⟩ : (fun w' => w'.cell? ⟨w.heap.size, 0, none⟩ = some (.slice A0 d.points.length c0) ∧ w'.cell? ⟨w.heap.size, 1, none⟩ = some (.slice A1 d.segs.length c1) ∧ Hid (Below w2.heap.size w2 w')) w3)
          clear hb3 kb k0 k1
          go_simp
          refine hK.out _ _ ?_ (fun hHeld => ?_)
          · (try dsimp only); exact Q3.out
          clear hK K
          try simp only [Act.put, List.setIfInBounds_toArray, List.set_cons_zero, List.set_cons_succ]
          refine wpAnyH_ready (rs := [8]) (by kernel_rfl) (by simp) ?_
          refine AllReadyH.cons rfl (fun K hK => ?_) AllReadyH.nil
          rw [if_pos (by rfl)]
          go_simp
          go_at_call 38
          refine (specRouteMinutes _ _ d _ l _ (HR.out.below (BW2.out.trans (hHeld.2.2.out.mono BW2.out.size))) (SlOf.below (own_sl intLen hO.out.1 hO.out.2) hHeld.2.2.out) HWF.out).mono ?_
          rw [HY.out]
          rintro e w4 ⟨rfl, hb4⟩
          obtain ⟨k0, k1, kb⟩ := hHeld
          have Q4 := Lib.hid (⟨cell_onV k0 hb4, cell_onV k1 hb4, Lib.hid (kb.out.trans (hb4.mono kb.out.size))⟩ : (fun w' => w'.cell? ⟨w.heap.size, 0, none⟩ = some (.slice A0 d.points.length c0) ∧ w'.cell? ⟨w.heap.size, 1, none⟩ = some (.slice A1 d.segs.length c1) ∧ Hid (Below w2.heap.size w2 w')) w4)
          clear hb4 kb k0 k1
          go_simp
          refine hK.out _ _ ?_ (fun hHeld => ?_)
          · (try dsimp only); exact Q4.out
          clear hK K
          try simp only [Act.put, List.setIfInBounds_toArray, List.set_cons_zero, List.set_cons_succ]
          refine wpAnyH_take (i := 9) (v := ?_) (by simp only [List.getElem?_toArray, List.getElem?_cons_succ, List.getElem?_cons_zero]; rfl) (by kernel_rfl) (by kernel_rfl) (by kernel_rfl) (by exact fun _ _ _ h => h) (Or.inl ⟨by rfl, ?_⟩) (by assumption) ?_; rotate_left; focus (intro w hSw; (try dsimp only at hSw); first | (go_simp; done) | (go_simp; with_reducible rfl))
          try simp only [Act.put, List.setIfInBounds_toArray, List.set_cons_zero, List.set_cons_succ]
          refine wpAnyH_take (i := 10) (v := ?_) (by simp only [List.getElem?_toArray, List.getElem?_cons_succ, List.getElem?_cons_zero]; rfl) (by kernel_rfl) (by kernel_rfl) (by kernel_rfl) (by exact fun _ _ _ h => h) (Or.inl ⟨by rfl, ?_⟩) (by assumption) ?_; rotate_left; focus (intro w hSw; (try dsimp only at hSw); first | (go_simp; done) | (go_simp; with_reducible rfl))
          try simp only [Act.put, List.setIfInBounds_toArray, List.set_cons_zero, List.set_cons_succ]
          refine wpAnyH_done (by kernel_rfl) ?_ _
          have HB1 := Lib.hid hHeld.2.2.out
          clear hHeld
          go_wp2
          go_roundw
          case rel => exact ⟨k + 1, l, true, by omega, by go_num, rfl, hO, NX, HB1⟩
          case measure => simp [intOf]; omega
end Go.Proofs.Ytcofldhjbidjjaa
