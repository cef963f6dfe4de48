
/- What InOrderLaw rests on, part 36: contracts and mathematics. -/
import Derived.Test.YtooeikimoheecaaIo34
import Derived.Deep.RegionHeld3
namespace Go.Proofs.Ytooeikimoheecaa
open Go.RowKit
set_option maxRecDepth 100000
def cmpMin (x y : Int) : Int := if x < y then -1 else if y < x then 1 else 0
theorem isNaN_anyB (x : Int) (w : World) : Calls Try.prog 90 #[.int .i64 x] w fun e w' => e = .returned (.bool false) ∧ w = w' := by
  go_enter Try.func90, Try.ntmps90
  go_wp2
  go_ret
  exact ⟨ret_bool (by simp), rfl⟩
theorem compare_anyB (x y : Int) (w : World) : Calls Try.prog 47 #[.int .i64 x, .int .i64 y] w fun e w' => e = .returned (.int .i64 (cmpMin x y)) ∧ w = w' := by
  have go : ∀ r : Int, r = cmpMin x y → Calls Try.prog 47 #[.int .i64 x, .int .i64 y] w fun e w' => e = .returned (.int .i64 r) ∧ w = w' := by
    intro r hr
    by_cases h1 : x < y
    · have E := Lib.hid (show r = -1 by rw [hr]; exact if_pos h1)
      clear hr
      go_enter Try.func47, Try.ntmps47
      go_wp2_with (first | (go_at_call 90; refine (isNaN_anyB _ _).mono ?_; rintro e w' ⟨rfl, rfl⟩))
      go_ret
      exact ⟨ret_int E.out.symm, rfl⟩
    · have n1 : decide (x < y) = false := decide_eq_false h1
      by_cases h2 : y < x
      · have E := Lib.hid (show r = 1 by rw [hr]; unfold cmpMin; rw [if_neg h1, if_pos h2])
        clear hr h1
        go_enter Try.func47, Try.ntmps47
        go_wp2_with (first | (go_at_call 90; refine (isNaN_anyB _ _).mono ?_; rintro e w' ⟨rfl, rfl⟩))
        go_ret
        exact ⟨ret_int E.out.symm, rfl⟩
      · have E := Lib.hid (show r = 0 by rw [hr]; unfold cmpMin; rw [if_neg h1, if_neg h2])
        have n2 : decide (y < x) = false := decide_eq_false h2
        clear hr h1 h2
        go_enter Try.func47, Try.ntmps47
        go_wp2_with (first | (go_at_call 90; refine (isNaN_anyB _ _).mono ?_; rintro e w' ⟨rfl, rfl⟩))
        go_ret
        exact ⟨ret_int E.out.symm, rfl⟩
  exact go _ rfl
set_option maxHeartbeats 4000000 in
theorem bestCmp (v0 v1 va vb : Value) (d : ChartD) (la lb : List Int) (Bc : Nat) (w : World) (h0 : w.cell? ⟨Bc, 0, none⟩ = some v0) (h1 : w.cell? ⟨Bc, 1, none⟩ = some v1) (h : RdChart w v0 v1 d) (hw : ∀ x ∈ d.points, PointD.wf x) (ha : SlInt w va la) (hb : SlInt w vb lb) :
    Calls Try.prog 46 #[va, vb, .pointer (some ⟨Bc, 0, none⟩)] w fun e w' => e = .returned (.int .i64 (cmpMin (minutesI d la) (minutesI d lb))) ∧ Below w.heap.size w w' := by
  have HR := Lib.hid h
  have HWF := Lib.hid hw
  have HA := Lib.hid ha
  have HB := Lib.hid hb
  obtain ⟨g0, g1⟩ := h
  obtain ⟨A0, c0, rfl⟩ := g0.at
  obtain ⟨A1, c1, rfl⟩ := g1.at
  obtain ⟨A, ca, rfl⟩ := ha.at
  obtain ⟨B, cb, rfl⟩ := hb.at
  have hBc : Bc < w.heap.size := World.block_lt_of_cell? w _ h0
  have BD := Lib.hid (Below.refl w.heap.size w).drew
  clear g0 g1 hw ha hb
  obtain ⟨x, hx⟩ : ∃ x, minutesI d la = x := ⟨_, rfl⟩
  obtain ⟨y, hy⟩ : ∃ y, minutesI d lb = y := ⟨_, rfl⟩
  rw [hx, hy]
  have HX := Lib.hid hx
  have HY := Lib.hid hy
  clear hx hy
  go_enter Try.func46, Try.ntmps46
  go_wp2
  refine wp_region_held_drew (S := (fun w' => w'.cell? ⟨Bc, 0, none⟩ = some (.slice A0 d.points.length c0) ∧ w'.cell? ⟨Bc, 1, none⟩ = some (.slice A1 d.segs.length c1) ∧ Hid (Below w.heap.size w w'))) (by kernel_rfl) ?_ (fun hHeld => ?_)
  · (try dsimp only); go_keep
  refine wpAnyH_take (i := 0) (v := ?_) (by simp only [List.getElem?_toArray, List.getElem?_cons_zero]; rfl) (by kernel_rfl) (by kernel_rfl) (by kernel_rfl) (by exact fun _ _ _ h => h) (Or.inl ⟨by rfl, ?_⟩) (by assumption) ?_; rotate_left; focus (intro w hSw; (try dsimp only at hSw); first | (go_simp; done) | (go_simp; with_reducible rfl))
  try simp only [Act.put, List.setIfInBounds_toArray, List.set_cons_zero, List.set_cons_succ]
  refine wpAnyH_take (i := 1) (v := ?_) (by simp only [List.getElem?_toArray, List.getElem?_cons_succ, List.getElem?_cons_zero]; rfl) (by kernel_rfl) (by kernel_rfl) (by kernel_rfl) (by exact fun _ _ _ h => h) (Or.inl ⟨by rfl, ?_⟩) (by assumption) ?_; rotate_left; focus (intro w hSw; (try dsimp only at hSw); first | (go_simp; done) | (go_simp; with_reducible rfl))
  try simp only [Act.put, List.setIfInBounds_toArray, List.set_cons_zero, List.set_cons_succ]
  refine wpAnyH_take (i := 3) (v := ?_) (by simp only [List.getElem?_toArray, List.getElem?_cons_succ, List.getElem?_cons_zero]; rfl) (by kernel_rfl) (by kernel_rfl) (by kernel_rfl) (by exact fun _ _ _ h => h) (Or.inl ⟨by rfl, ?_⟩) (by assumption) ?_; rotate_left; focus (intro w hSw; (try dsimp only at hSw); first | (go_simp; done) | (go_simp; with_reducible rfl))
  try simp only [Act.put, List.setIfInBounds_toArray, List.set_cons_zero, List.set_cons_succ]
  refine wpAnyH_take (i := 4) (v := ?_) (by simp only [List.getElem?_toArray, List.getElem?_cons_succ, List.getElem?_cons_zero]; rfl) (by kernel_rfl) (by kernel_rfl) (by kernel_rfl) (by exact fun _ _ _ h => h) (Or.inl ⟨by rfl, ?_⟩) (by assumption) ?_; rotate_left; focus (intro w hSw; (try dsimp only at hSw); first | (go_simp; done) | (go_simp; with_reducible rfl))
  try simp only [Act.put, List.setIfInBounds_toArray, List.set_cons_zero, List.set_cons_succ]
  refine wpAnyH_ready (rs := [2]) (by kernel_rfl) (by simp) ?_
  refine AllReadyH.cons rfl (fun K hK => ?_) AllReadyH.nil
  rw [if_pos (by rfl)]
  go_simp
  go_at_call 48
  refine (implRouteMinutes _ _ d _ la _ (HR.out.below hHeld.2.2.out) (HA.out.below hHeld.2.2.out) HWF.out).mono ?_
  rw [HX.out]
  rintro e w3 ⟨rfl, hb3⟩
  obtain ⟨k0, k1, kb⟩ := hHeld
  have Q3 := Lib.hid (⟨cell_onV k0 hb3, cell_onV k1 hb3, Lib.hid (kb.out.trans (hb3.mono kb.out.size))⟩ : (fun w' => w'.cell? ⟨Bc, 0, none⟩ = some (.slice A0 d.points.length c0) ∧ w'.cell? ⟨Bc, 1, none⟩ = some (.slice A1 d.segs.length c1) ∧ Hid (Below w.heap.size w w')) w3)
  clear hb3 kb k0 k1
  go_simp
  refine hK.out _ _ ?_ (fun hHeld => ?_)
  · (try dsimp only); exact Q3.out
  clear hK K
  try simp only [Act.put, List.setIfInBounds_toArray, List.set_cons_zero, List.set_cons_succ]
  refine wpAnyH_ready (rs := [5]) (by kernel_rfl) (by simp) ?_
  refine AllReadyH.cons rfl (fun K hK => ?_) AllReadyH.nil
  rw [if_pos (by rfl)]
  go_simp
  go_at_call 48
  refine (implRouteMinutes _ _ d _ lb _ (HR.out.below hHeld.2.2.out) (HB.out.below hHeld.2.2.out) HWF.out).mono ?_
  rw [HY.out]
  rintro e w4 ⟨rfl, hb4⟩
  obtain ⟨k0, k1, kb⟩ := hHeld
  have Q4 := Lib.hid (⟨cell_onV k0 hb4, cell_onV k1 hb4, Lib.hid (kb.out.trans (hb4.mono kb.out.size))⟩ : (fun w' => w'.cell? ⟨Bc, 0, none⟩ = some (.slice A0 d.points.length c0) ∧ w'.cell? ⟨Bc, 1, none⟩ = some (.slice A1 d.segs.length c1) ∧ Hid (Below w.heap.size w w')) w4)
  clear hb4 kb k0 k1
  go_simp
  refine hK.out _ _ ?_ (fun hHeld => ?_)
  · (try dsimp only); exact Q4.out
  clear hK K
  try simp only [Act.put, List.setIfInBounds_toArray, List.set_cons_zero, List.set_cons_succ]
  refine wpAnyH_ready (rs := [6]) (by kernel_rfl) (by simp) ?_
  refine AllReadyH.cons rfl (fun K hK => ?_) AllReadyH.nil
  rw [if_pos (by rfl)]
  go_simp
  go_at_call 47
  refine (compare_anyB x y _).mono ?_
  rintro e w5 ⟨rfl, rfl⟩
  have Q5 := Lib.hid hHeld
  go_simp
  refine hK.out _ _ ?_ (fun hHeld => ?_)
  · (try dsimp only); exact Q5.out
  clear hK K
  try simp only [Act.put, List.setIfInBounds_toArray, List.set_cons_zero, List.set_cons_succ]
  refine wpAnyH_take (i := 7) (v := ?_) (by simp only [List.getElem?_toArray, List.getElem?_cons_succ, List.getElem?_cons_zero]; rfl) (by kernel_rfl) (by kernel_rfl) (by kernel_rfl) (by exact fun _ _ _ h => h) (Or.inl ⟨by rfl, ?_⟩) (by assumption) ?_; rotate_left; focus (intro w hSw; (try dsimp only at hSw); first | (go_simp; done) | (go_simp; with_reducible rfl))
  try simp only [Act.put, List.setIfInBounds_toArray, List.set_cons_zero, List.set_cons_succ]
  refine wpAnyH_done (by kernel_rfl) ?_ _
  have HB1 := Lib.hid hHeld.2.2.out
  clear hHeld
  go_wp2
  go_ret
  exact ⟨rfl, HB1.out⟩
/-- The first list with the least value. -/
def bestF (g : List Int → Int) (ll : List (List Int)) : Option (List Int) := ll.foldl (fun acc r => match acc with | none => some r | some b => if g r < g b then some r else some b) none
theorem bestF_snoc (g : List Int → Int) (ll : List (List Int)) (r : List Int) : bestF g (ll ++ [r]) = (match bestF g ll with | none => some r | some b => if g r < g b then some r else some b) := by
  unfold bestF; rw [List.foldl_append]; rfl
theorem bestF_none {g : List Int → Int} {ll : List (List Int)} : bestF g ll = none ↔ ll = [] := by
  constructor
  · intro h
    refine snocInd (P := fun ll => bestF g ll = none → ll = []) (fun _ => rfl) (fun xs x _ h => ?_) ll h
    rw [bestF_snoc] at h
    cases hb : bestF g xs with
    | none => rw [hb] at h; cases h
    | some b => rw [hb] at h; simp only at h; split at h <;> cases h
  · rintro rfl; rfl
theorem cmpI_neg (x y : Int) : decide (cmpMin x y < 0) = decide (x < y) := by
  unfold cmpMin
  by_cases h : x < y
  · rw [if_pos h, decide_eq_true h]; rfl
  · rw [if_neg h, decide_eq_false h]
    split <;> rfl
set_option maxHeartbeats 4000000 in
theorem minFunc_any (v0 v1 v : Value) (d : ChartD) (vs : List Value) (ll : List (List Int)) (Bc : Nat) (w : World) (h0 : w.cell? ⟨Bc, 0, none⟩ = some v0) (h1 : w.cell? ⟨Bc, 1, none⟩ = some v1) (h : RdChart w v0 v1 d) (hw : ∀ x ∈ d.points, PointD.wf x) (hl : SlLL w v vs ll) (hne : ll ≠ []) :
    Calls Try.prog 45 #[v, .func (.func 46) #[] #[.pointer (some ⟨Bc, 0, none⟩)]] w fun e w' => ∃ (j : Nat) (u : Value) (l : List Int), vs[j]? = some u ∧ ll[j]? = some l ∧ e = .returned u ∧ bestF (minutesI d) ll = some l ∧ Below w.heap.size w w' := by
  have HR := Lib.hid h
  have HWF := Lib.hid hw
  have H0 := Lib.hid h0
  have H1 := Lib.hid h1
  have hBc : Bc < w.heap.size := World.block_lt_of_cell? w _ h0
  obtain ⟨hs, hB⟩ := hl
  obtain ⟨hlen, hat⟩ := forall2_at hB
  have HAT := Lib.hid hat
  have hvn := hs.1
  have hpos : 0 < vs.length := by
    rw [hlen]
    cases ll with
    | nil => exact absurd rfl hne
    | cons => simp
  rcases hs.2 with ⟨he, _⟩ | ⟨g, o, c, rfl, _, hcap, hc⟩
  · rw [he] at hpos; simp at hpos
  have HC := Lib.hid (show ∀ i u, vs[i]? = some u → w.cell? ⟨g, o + i, none⟩ = some u from fun i u hu => by have := hc i u hu 0 u rfl; simpa using this)
  have HLEN := Lib.hid hlen
  obtain ⟨u0, hu0⟩ : ∃ u, vs[0]? = some u := ⟨_, List.getElem?_eq_getElem hpos⟩
  obtain ⟨l0, hl0, hr0⟩ := hat 0 u0 hu0
  obtain ⟨A0, c0, rfl⟩ := SlInt.at hr0
  have q0 := HC.out 0 _ hu0
  simp at q0
  have START := Lib.hid (show bestF (minutesI d) (ll.take 1) = some l0 by
    rw [show (1 : Nat) = 0 + 1 from rfl, take_snoc' ll 0 l0 hl0, List.take_zero, List.nil_append]; rfl)
  have HU0 := Lib.hid hu0
  have HL0 := Lib.hid hl0
  clear h h0 h1 hw hs hB hat hc hlen hu0 hl0 hr0 hne
  go_enter Try.func45, Try.ntmps45
  go_wp2
  clear q0
  go_loopw [5, 6] (fun m i wr => ∃ (k j : Nat) (l : List Int), 1 ≤ k ∧ k ≤ vs.length ∧ i = .int .i64 k ∧ Hid (vs[j]? = some m) ∧ Hid (ll[j]? = some l) ∧ Hid (bestF (minutesI d) (ll.take k) = some l) ∧ Hid (Below w.heap.size w wr)) (fun _ i _ => vs.length - (intOf i).toNat)
  case atStart => exact ⟨1, 0, l0, Nat.le_refl _, hpos, rfl, HU0, HL0, START, Lib.hid (Below.refl _ _)⟩
  case round =>
    clear START HU0 HL0
    obtain ⟨k, j, l, hk1, hk, rfl, hM, hL, hBF, hb⟩ := hrel
    by_cases hlt : k < vs.length
    rotate_left
    · obtain rfl : k = vs.length := by omega
      have E := Lib.hid (show bestF (minutesI d) ll = some l by have := hBF.out; rw [HLEN.out, List.take_length] at this; exact this)
      obtain ⟨l', hl', hr'⟩ := HAT.out j _ hM.out
      obtain ⟨Am, cm, hm⟩ := SlInt.at hr'
      subst hm
      clear hl' hr'
      go_wp2
      refine bodyPost_ret (v := .slice Am l'.length cm) (by simp [results, Try.results45, go_sem, *]) rfl ⟨j, _, l, hM.out, hL.out, rfl, E.out, hb.out⟩
    · obtain ⟨u, hu⟩ : ∃ u, vs[k]? = some u := ⟨_, List.getElem?_eq_getElem hlt⟩
      obtain ⟨r, hr, hsr⟩ := HAT.out k u hu
      obtain ⟨Ar, cr, rfl⟩ := SlInt.at hsr
      obtain ⟨l', hl', hr'⟩ := HAT.out j _ hM.out
      obtain rfl : l' = l := by have := hL.out; rw [hl'] at this; injection this
      obtain ⟨Am, cm, hm⟩ := SlInt.at hr'
      subst hm
      have q := HC.out k _ hu
      have hg : g < w.heap.size := World.block_lt_of_cell? w ⟨g, o + k, none⟩ q
      have yq := (hb.out.cell (p := ⟨g, o + k, none⟩) hg).trans q
      have HSR := Lib.hid hsr
      have HSL := Lib.hid hr'
      have HU := Lib.hid hu
      have HRr := Lib.hid hr
      have BN := Lib.hid (show bestF (minutesI d) (ll.take (k + 1)) = if minutesI d r < minutesI d l' then some r else some l' by rw [take_snoc' ll k r hr, bestF_snoc, hBF.out])
      clear q hu hr hsr hr' hl'
      obtain ⟨t, ht⟩ : ∃ t, cmpMin (minutesI d r) (minutesI d l') = t := ⟨_, rfl⟩
      have HT := Lib.hid ht
      have HN := Lib.hid (show decide (t < 0) = decide (minutesI d r < minutesI d l') by rw [← ht]; exact cmpI_neg _ _)
      clear ht
      go_wp2_with fail
      refine (bestCmp _ _ _ _ d r l' Bc _ ((hb.out.cell (p := ⟨Bc, 0, none⟩) hBc).trans H0.out) ((hb.out.cell (p := ⟨Bc, 1, none⟩) hBc).trans H1.out) (HR.out.below hb.out) HWF.out (HSR.out.below hb.out) (HSL.out.below hb.out)).mono ?_
      rw [HT.out]
      rintro e w5 ⟨rfl, hb5⟩
      have hb6 := Lib.hid (hb.out.trans (hb5.mono hb.out.size))
      have yq5 := (hb5.cell (p := ⟨g, o + k, none⟩) (Nat.lt_of_lt_of_le hg hb.out.size)).trans yq
      clear hb5 yq
      by_cases hneg : t < 0
      · have E := Lib.hid (show bestF (minutesI d) (ll.take (k + 1)) = some r by
          have h2 := HN.out; rw [decide_eq_true hneg] at h2
          rw [BN.out, if_pos (of_decide_eq_true h2.symm)])
        go_wp2
        go_roundw
        case rel => exact ⟨k + 1, k, r, by omega, by omega, by go_num, HU, HRr, E, hb6⟩
        case measure => simp [intOf]; omega
      · have E := Lib.hid (show bestF (minutesI d) (ll.take (k + 1)) = some l' by
          have h2 := HN.out; rw [decide_eq_false hneg] at h2
          rw [BN.out, if_neg (of_decide_eq_false h2.symm)])
        have hnb : decide (t < 0) = false := decide_eq_false hneg
        go_wp2
        go_roundw
        case rel => exact ⟨k + 1, j, l', by omega, by omega, by go_num, hM, hL, E, hb6⟩
        case measure => simp [intOf]; omega
def bestO (d : ChartD) (a b : Int) : Option (List Int) := bestF (minutesI d) (rtsL d a b)
theorem bestF_mem (g : List Int → Int) (ll : List (List Int)) : ∀ r, bestF g ll = some r → r ∈ ll := by
  refine snocInd (P := fun ll => ∀ r, bestF g ll = some r → r ∈ ll) (fun r h => by cases h) (fun xs x ih r h => ?_) ll
  rw [bestF_snoc] at h
  cases hb : bestF g xs with
  | none => rw [hb] at h; injection h with h; subst h; simp
  | some b =>
    rw [hb] at h
    simp only at h
    split at h
    · injection h with h; subst h; simp
    · injection h with h; subst h; have := ih b hb; simp [this]
theorem bestO_len (d : ChartD) (a b : Int) : ((bestO d a b).getD []).length ≤ 7 := by
  cases h : bestO d a b with
  | none => simp
  | some r =>
    have hm := bestF_mem _ _ r h
    unfold rtsL at hm
    split at hm
    · have := walkF_each b 7 [a] [] r hm
      simpa using this
    · simp at hm
set_option maxHeartbeats 4000000 in
theorem implBestRoute (v0 v1 : Value) (d : ChartD) (a b : Int) (w : World) (h : RdChart w v0 v1 d) (hw : ∀ x ∈ d.points, PointD.wf x) :
    Calls Try.prog 9 #[.agg #[v0, v1], .int .i64 a, .int .i64 b] w fun e w' => ∃ v, e = .returned (.tuple #[v, .bool (bestO d a b).isSome]) ∧ OwnInt w' w.heap.size v ((bestO d a b).getD []) ∧ Below w.heap.size w w' := by
  have HR := Lib.hid h
  have HWF := Lib.hid hw
  obtain ⟨h0, h1⟩ := h
  obtain ⟨A0, c0, rfl⟩ := h0.at
  obtain ⟨A1, c1, rfl⟩ := h1.at
  have B := Lib.hid (Joins.below_alloc1 w (.cells #[.slice A0 d.points.length c0, .slice A1 d.segs.length c1] 32))
  have BB := Lib.hid (Blk.new w #[.slice A0 d.points.length c0, .slice A1 d.segs.length c1] 32)
  have HLEN := Lib.hid (rtsL_len d a b)
  have HE := Lib.hid (show bestO d a b = bestF (minutesI d) (rtsL d a b) from rfl)
  clear h0 h1 hw
  obtain ⟨ll, hll⟩ : ∃ ll, rtsL d a b = ll := ⟨_, rfl⟩
  have HLL := Lib.hid hll
  rw [hll] at HLEN HE
  clear hll
  go_enter Try.func9, Try.ntmps9
  go_wp2_with fail
  refine (implRoutesBetween _ _ d a b _ (HR.out.below B.out) HWF.out).mono ?_
  rw [HLL.out]
  rintro e w1 ⟨v, rfl, ho, hb1⟩
  have B1 := Lib.hid (B.out.trans (hb1.mono B.out.size))
  have BB1 := Lib.hid (BB.out.below hb1)
  have z0 := BB1.out.cell 0
  have z1 := BB1.out.cell 1
  simp at z0 z1
  obtain ⟨vs, hov, hB, _, _⟩ := ho
  have hlen := (forall2_at hB).1
  have hvl : vs.length ≤ 10000000 := by rw [hlen]; exact HLEN.out.1
  have hSL := Lib.hid (show SlLL w1 v vs ll from ⟨own_sl headLen hov (by omega), both_sl hB (fun l hl => by have := sumLen_mem hl; have := HLEN.out.2; omega)⟩)
  obtain ⟨V, cv, rfl⟩ := own_form hov
  have HB := Lib.hid hB
  have hbs := hb1.size
  simp at hbs
  clear hb1 hB hov
  by_cases hz : ll = []
  · have E := Lib.hid (show bestO d a b = none by rw [HE.out]; exact bestF_none.2 hz)
    have hv0 : vs.length = 0 := by rw [hlen, hz]; rfl
    have hvi : ((vs.length : Int) == 0) = true := by rw [hv0]; rfl
    clear hlen hz
    go_wp2
    refine bodyPost_ret (v := .tuple #[.slice none 0 0, .bool false]) (by simp [results, Try.results9, go_sem, *]) rfl ⟨_, by rw [E.out]; rfl, by rw [E.out]; exact (GathO.empty (cs := intCells) (t := 3) (k := 1) B1.out).1, B1.out⟩
  · have hvp : 0 < vs.length := by
      rw [hlen]
      cases ll with
      | nil => exact absurd rfl hz
      | cons => simp
    have hvi : ((vs.length : Int) == 0) = false := beq_false_of_ne (by omega)
    have HZ := Lib.hid hz
    clear hlen hz
    go_wp2_with fail
    refine (minFunc_any _ _ _ d vs ll w.heap.size _ z0 z1 (HR.out.below B1.out) HWF.out hSL.out HZ.out).mono ?_
    rintro e w2 ⟨j, u, l, hu, hl, rfl, hbf, hb2⟩
    have B2 := Lib.hid (B1.out.trans (hb2.mono B1.out.size))
    have hou : OwnInt w1 w.heap.size u l := by
      obtain ⟨y, hy, hR⟩ := (forall2_at HB.out).2 j u hu
      rw [hl] at hy
      injection hy with hy
      subst hy
      exact own_lo hR (by simp)
    have HO := Lib.hid (own_below hou hb2)
    obtain ⟨U, cu, rfl⟩ := own_form hou
    have E := Lib.hid (show bestO d a b = some l by rw [HE.out]; exact hbf)
    clear hu hl hbf hb2 hou z0 z1
    go_wp2
    refine bodyPost_ret (v := .tuple #[.slice U l.length cu, .bool true]) (by simp [results, Try.results9, go_sem, *]) rfl ⟨_, by rw [E.out]; rfl, by rw [E.out]; exact HO.out, B2.out⟩
end Go.Proofs.Ytooeikimoheecaa
