
/- FnRoutes holds for every code: all routes lead to their end, and no route takes less time than the best one. No condition. -/
import Derived.Test.YtgjappjlnkdpnaaRows
import Derived.Test.YtgjappjlnkdpnaaCodeArg
import Derived.Test.YtgjappjlnkdpnaaKit
import Derived.Test.YtgjappjlnkdpnaaRoutesDrawn
import Derived.Deep.RegionHeld3
import Derived.Deep.DeepCutAuto
namespace Go.Proofs.Ytgjappjlnkdpnaa.lawRoutes
open Go.ChangeShapes Go.WideShapes Go.ChangeAt Go.RowKit
set_option maxRecDepth 100000

theorem own : ownKnob Try.prog.godebug = none := by kernel_rfl
theorem laidOut : laidOutB Try.prog = true := by kernel_rfl

/-- What the law asks of a chart, of any two of its points. -/
def PairOK (d : ChartD) (a b : Nat) : Prop :=
  (bestO d (a : Int) (b : Int)).isSome = true ∧ 0 < (rtsL d (a : Int) (b : Int)).length ∧ (rtsL d (b : Int) (a : Int)).length = (rtsL d (a : Int) (b : Int)).length ∧
  minutesI d ((bestO d (b : Int) (a : Int)).getD []) = minutesI d ((bestO d (a : Int) (b : Int)).getD []) ∧ (bestO d (b : Int) (a : Int)).isSome = true ∧
  ∀ rt ∈ rtsL d (a : Int) (b : Int), minutesI d ((bestO d (a : Int) (b : Int)).getD []) ≤ minutesI d rt ∧ routeB d (a : Int) rt = true ∧ ∃ p : List Int, rteL d (a : Int) rt = p ∧ p.length = rt.length + 1 ∧ p[rt.length]? = some (b : Int) ∧
    ∀ i s, rt[i]? = some s → ∃ x y, p[i]? = some x ∧ p[i + 1]? = some y ∧ endI' d s x = y ∧ segI d y x = s
def RoutesOK (d : ChartD) : Prop := chartB d = true ∧ (∀ x ∈ d.points, PointD.wf x) ∧ 4 ≤ d.points.length ∧ d.points.length ≤ 5 ∧ (∀ a b : Nat, a < d.points.length → b < d.points.length → PairOK d a b) ∧ ∀ (a : Nat) (x : PointD), d.points[a]? = some x → namedI d.points x.name = (a : Int)
theorem routes_ok (r : ChartRnd) (hr : r.ok) : RoutesOK r.chart := by
  refine ⟨chart_drawn r hr, names_drawn r, ?_, (chart_len r).1, fun a b ha hb => ?_, fun a x hx => named_at r hr hx⟩
  · rw [npts_drawn]; unfold nPts; split <;> omega
  · obtain ⟨h1, h2, _⟩ := best_some r hr ha hb
    exact ⟨h1, h2, back_len r hr ha hb, back_best r hr ha hb, (best_some r hr hb ha).1, fun rt hrt => ⟨best_le r hr hrt, route_facts r hr ha hb hrt⟩⟩

set_option maxHeartbeats 16000000 in
theorem law (A : Option Addr) (n c : Nat) (w : World) (hcode : n ≤ maxLen ∧ (n ≤ 1048576 → CodeAt w A n)) :
    Calls Try.prog 3 #[.slice A n c] w fun e w' => e = .returned (.bool true) ∧ Below w.heap.size w w' := by
  obtain ⟨hn, hcode⟩ := hcode
  have HC := Lib.hid hcode
  clear hcode
  unfold maxLen at hn
  by_cases hbig : 1048576 < n
  · go_enter Try.func3, Try.ntmps3
    go_wp2
    go_ret
    exact ⟨rfl, Below.refl _ _⟩
  have HC0 := Lib.hid (HC.out (by omega))
  clear HC
  go_enter Try.func3, Try.ntmps3
  go_wp2_with fail
  refine (makeChart_any A n c 1 w HC0.out (by omega)).mono ?_
  rintro e w1 ⟨r, A0, k0, A1, k1, hr, rfl, hv, hb1⟩
  have ro := routes_ok r hr
  obtain ⟨d, hd⟩ : ∃ d, r.chart = d := ⟨_, rfl⟩
  rw [hd] at hv ro ⊢
  obtain ⟨n0, hn0⟩ : ∃ n0, d.points.length = n0 := ⟨_, rfl⟩
  obtain ⟨n1, hn1⟩ : ∃ n1, d.segs.length = n1 := ⟨_, rfl⟩
  have h4 : 4 ≤ n0 := by have := ro.2.2.1; omega
  have h5 : n0 ≤ 5 := by have := ro.2.2.2.1; omega
  have RO := Lib.hid ro
  have HN0 := Lib.hid hn0
  have HN1 := Lib.hid hn1
  rw [hn0, hn1] at hv ⊢
  have hal := Joins.below_alloc1 w1 (.cells #[.slice A0 n0 k0, .slice A1 n1 k1] 26)
  have RD := Lib.hid (hv.below hal)
  have KX := Lib.hid (Blk.new w1 #[.slice A0 n0 k0, .slice A1 n1 k1] 26)
  have B2 := Lib.hid (hb1.trans (hal.mono hb1.size))
  have HC2 := Lib.hid ((HC0.out.below hb1).below hal)
  have hz : (n0 : Int) ≠ 0 := by omega
  have hzp : (0 : Int) < n0 := by omega
  clear hb1 hal hv hr hd hn0 hn1 ro HC0
  go_wp2_with fail
  refine (makeNum_any A n c 60 _ HC2.out (by omega)).mono ?_
  rintro e w3 ⟨x, rfl, x0, x1, hb3⟩
  have B3 := Lib.hid (B2.out.trans (hb3.mono B2.out.size))
  have R3 := Lib.hid (RD.out.below hb3)
  have X3 := Lib.hid (KX.out.below hb3)
  have HC3 := Lib.hid (HC2.out.below hb3)
  clear hb3 B2 RD KX HC2
  obtain ⟨a, ha⟩ : ∃ a : Nat, x % (n0 : Int) = (a : Int) := ⟨(x % (n0 : Int)).toNat, by have := Int.emod_nonneg x hz; omega⟩
  have alt : a < n0 := by have := Int.emod_lt_of_pos x hzp; omega
  go_wp2_with fail
  rw [ha]
  clear x0 x1
  refine (makeNum_any A n c 62 _ HC3.out (by omega)).mono ?_
  rintro e w4 ⟨y, rfl, y0, y1, hb4⟩
  have B4 := Lib.hid (B3.out.trans (hb4.mono B3.out.size))
  have R4 := Lib.hid (R3.out.below hb4)
  have X4 := Lib.hid (X3.out.below hb4)
  clear hb4 B3 R3 X3 
  obtain ⟨b, hb⟩ : ∃ b : Nat, y % (n0 : Int) = (b : Int) := ⟨(y % (n0 : Int)).toNat, by have := Int.emod_nonneg y hz; omega⟩
  have blt : b < n0 := by have := Int.emod_lt_of_pos y hzp; omega
  have cx0 : w4.cell? ⟨w1.heap.size, 0, none⟩ = some (.slice A0 n0 k0) := X4.out.cell 0
  have cx1 : w4.cell? ⟨w1.heap.size, 1, none⟩ = some (.slice A1 n1 k1) := X4.out.cell 1
  go_wp2_with fail
  rw [hb]
  clear y0 y1 cx0 cx1 HC3
  have PAIR := Lib.hid (RO.out.2.2.2.2.1 a b (by rw [HN0.out]; exact alt) (by rw [HN0.out]; exact blt))
  refine (implRoutesBetween _ _ d (a : Int) (b : Int) _ R4.out RO.out.2.1).mono ?_
  rintro e w5 ⟨v, rfl, ho, hb5⟩
  have bd := rtsL_bnd d (a : Int) (b : Int)
  obtain ⟨ll, hll⟩ : ∃ ll, rtsL d (a : Int) (b : Int) = ll := ⟨_, rfl⟩
  rw [hll] at ho bd
  obtain ⟨vs, D, kk, rfl, hvl, hs, -, -, -, -, -, -⟩ := ho.parts bd.1 bd.2.1
  obtain ⟨L, hL⟩ : ∃ L, vs.length = L := ⟨_, rfl⟩
  have hLpos : 0 < L := by have := PAIR.out.2.1; rw [hll] at this; omega
  have HL := Lib.hid hL
  have HLL := Lib.hid hll
  have HVL := Lib.hid (show ll.length = L by omega)
  have HLB := Lib.hid (show L ≤ 10000000 by have := bd.1; omega)
  have LL5 := Lib.hid hs
  have BD := Lib.hid bd.2.2
  rw [hL]
  clear ho bd hs hL hll hvl
  have B5 := Lib.hid (B4.out.trans (hb5.mono B4.out.size))
  have R5 := Lib.hid (R4.out.below hb5)
  have X5 := Lib.hid (X4.out.below hb5)
  clear hb5 B4 R4 X4 
  have cx0 : w5.cell? ⟨w1.heap.size, 0, none⟩ = some (.slice A0 n0 k0) := X5.out.cell 0
  have cx1 : w5.cell? ⟨w1.heap.size, 1, none⟩ = some (.slice A1 n1 k1) := X5.out.cell 1
  go_wp2_with fail
  clear cx0 cx1
  refine (implBestRoute _ _ d (a : Int) (b : Int) _ R5.out RO.out.2.1).mono ?_
  intro e w6 hN
  rw [PAIR.out.1] at hN
  obtain ⟨vb, rfl, hob, hb6⟩ := hN
  have hbl := bestO_len d (a : Int) (b : Int)
  obtain ⟨bt, hbt⟩ : ∃ bt, (bestO d (a : Int) (b : Int)).getD [] = bt := ⟨_, rfl⟩
  rw [hbt] at hob hbl
  have SB6 := Lib.hid (own_sl intLen hob (by omega))
  obtain ⟨A6, k6, rfl⟩ := own_form hob
  obtain ⟨nb, hnb⟩ : ∃ nb, bt.length = nb := ⟨_, rfl⟩
  rw [hnb] at SB6 ⊢
  have HBT := Lib.hid hbt
  have HNB := Lib.hid hnb
  clear hob hbl hbt hnb
  have B6 := Lib.hid (B5.out.trans (hb6.mono B5.out.size))
  have R6 := Lib.hid (R5.out.below hb6)
  have X6 := Lib.hid (X5.out.below hb6)
  have LL6 := Lib.hid (LL5.out.below hb6)
  clear hb6 B5 R5 X5 LL5
  have cx0 : w6.cell? ⟨w1.heap.size, 0, none⟩ = some (.slice A0 n0 k0) := X6.out.cell 0
  have cx1 : w6.cell? ⟨w1.heap.size, 1, none⟩ = some (.slice A1 n1 k1) := X6.out.cell 1
  go_wp2_with fail
  clear cx0 cx1
  refine (implChartOk _ _ d _ R6.out RO.out.2.1).mono ?_
  rw [RO.out.1]
  rintro e w7 ⟨rfl, hb7⟩
  have B7 := Lib.hid (B6.out.trans (hb7.mono B6.out.size))
  have R7 := Lib.hid (R6.out.below hb7)
  have X7 := Lib.hid (X6.out.below hb7)
  have LL7 := Lib.hid (LL6.out.below hb7)
  have SB7 := Lib.hid (SB6.out.below hb7)
  clear hb7 B6 R6 X6 LL6 SB6
  have hLi : (0 : Int) < (L : Int) := by omega
  have hLd : decide ((0 : Int) < (L : Int)) = true := decide_eq_true hLi
  go_wp2
  go_loopw [60] (fun i wr => ∃ k : Nat, k ≤ L ∧ i = .int .i64 k ∧ Hid (Below w7.heap.size w7 wr)) (fun i _ => L - (intOf i).toNat)
  case atStart => exact ⟨0, Nat.zero_le _, rfl, Lib.hid (Below.refl _ _)⟩
  case round =>
    obtain ⟨k, hk, rfl, hB⟩ := hrel
    obtain ⟨wo, rfl⟩ : ∃ W, W = wr := ⟨_, rfl⟩
    have BO := Lib.hid (B7.out.trans (hB.out.mono B7.out.size))
    have RO7 := Lib.hid (R7.out.below hB.out)
    by_cases hlt : k < L
    rotate_left
    · obtain rfl : k = L := by omega
      have FX0 := Lib.hid (show wo.cell? ⟨w1.heap.size, 0, none⟩ = some (.slice A0 n0 k0) from (X7.out.below hB.out).cell 0)
      have FX1 := Lib.hid (show wo.cell? ⟨w1.heap.size, 1, none⟩ = some (.slice A1 n1 k1) from (X7.out.below hB.out).cell 1)
      have cx0 := FX0.out
      have cx1 := FX1.out
      go_wp2_with fail
      clear cx0 cx1 FX0 FX1
      refine (implBestRoute _ _ d (b : Int) (a : Int) _ RO7.out RO.out.2.1).mono ?_
      intro e w8 hN
      rw [PAIR.out.2.2.2.2.1] at hN
      obtain ⟨vc, rfl, hoc, hb8⟩ := hN
      have hcl := bestO_len d (b : Int) (a : Int)
      obtain ⟨ct, hct⟩ : ∃ ct, (bestO d (b : Int) (a : Int)).getD [] = ct := ⟨_, rfl⟩
      rw [hct] at hoc hcl
      have SC8 := Lib.hid (own_sl intLen hoc (by omega))
      obtain ⟨A8, k8, rfl⟩ := own_form hoc
      obtain ⟨nc, hnc⟩ : ∃ nc, ct.length = nc := ⟨_, rfl⟩
      rw [hnc] at SC8 ⊢
      obtain ⟨mB, hmB⟩ : ∃ mB, minutesI d bt = mB := ⟨_, rfl⟩
      have HMB := Lib.hid hmB
      have HMC := Lib.hid (show minutesI d ct = mB by rw [← hct, PAIR.out.2.2.2.1, HBT.out]; exact hmB)
      clear hoc hcl hct hnc hmB
      have BB8 := Lib.hid (hB.out.trans (hb8.mono hB.out.size))
      have BO8 := Lib.hid (B7.out.trans (BB8.out.mono B7.out.size))
      have R8 := Lib.hid (R7.out.below BB8.out)
      have SB8 := Lib.hid (SB7.out.below BB8.out)
      have FX0 := Lib.hid (show w8.cell? ⟨w1.heap.size, 0, none⟩ = some (.slice A0 n0 k0) from (X7.out.below BB8.out).cell 0)
      have FX1 := Lib.hid (show w8.cell? ⟨w1.heap.size, 1, none⟩ = some (.slice A1 n1 k1) from (X7.out.below BB8.out).cell 1)
      clear hb8
      obtain ⟨px, hpx⟩ : ∃ px, d.points[a]? = some px := ⟨_, List.getElem?_eq_getElem (by rw [HN0.out]; exact alt)⟩
      have HPX := Lib.hid hpx
      have HNM := Lib.hid (RO.out.2.2.2.2.2 a px hpx)
      have HPW := Lib.hid (RO.out.2.1 px (List.mem_of_getElem? hpx))
      obtain ⟨gp, op, ep, FN⟩ : ∃ gp op, A0 = some ⟨gp, op, none⟩ ∧ Hid (w8.cell? ⟨gp, op + a * 2, none⟩ = some (.string px.name)) := by
        rcases R8.out.1.2 with ⟨he, _⟩ | ⟨g, o, c', e, hp, hcap, hc⟩
        · rw [he] at hpx; simp at hpx
        · injection e with hA _ _
          exact ⟨g, o, hA, Lib.hid (SlPoint.cells hc a px hpx).1⟩
      subst ep
      clear hpx
      go_wp2_with fail
      have DD := Lib.hid ((Below.refl w8.heap.size w8).drew)
      have vFX0 := FX0.out
      have vFX1 := FX1.out
      have vFN := FN.out
      refine wp_region_held_drew (S := (fun w' => w'.cell? ⟨w1.heap.size, 0, none⟩ = some (.slice (some ⟨gp, op, none⟩) n0 k0) ∧ w'.cell? ⟨w1.heap.size, 1, none⟩ = some (.slice A1 n1 k1) ∧ w'.cell? ⟨gp, op + a * 2, none⟩ = some (.string px.name) ∧ Hid (Below w8.heap.size w8 w'))) (by kernel_rfl) ?_ (fun hHeld => ?_)
      · (try dsimp only); go_keep
      refine wpAnyH_take (i := 0) (v := ?_) (by simp only [List.getElem?_toArray, List.getElem?_cons_zero]; rfl) (by kernel_rfl) (by kernel_rfl) (by kernel_rfl) (by exact fun _ _ _ h => h) (Or.inl ⟨by rfl, ?_⟩) (by assumption) ?_; rotate_left; focus (intro w hSw; (try dsimp only at hSw); first | (go_simp; done) | (go_simp; with_reducible rfl))
      try simp only [Act.put, List.setIfInBounds_toArray, List.set_cons_zero, List.set_cons_succ]
      refine wpAnyH_take (i := 1) (v := ?_) (by simp only [List.getElem?_toArray, List.getElem?_cons_succ, List.getElem?_cons_zero]; rfl) (by kernel_rfl) (by kernel_rfl) (by kernel_rfl) (by exact fun _ _ _ h => h) (Or.inl ⟨by rfl, ?_⟩) (by assumption) ?_; rotate_left; focus (intro w hSw; (try dsimp only at hSw); first | (go_simp; done) | (go_simp; with_reducible rfl))
      try simp only [Act.put, List.setIfInBounds_toArray, List.set_cons_zero, List.set_cons_succ]
      refine wpAnyH_take (i := 2) (v := ?_) (by simp only [List.getElem?_toArray, List.getElem?_cons_succ, List.getElem?_cons_zero]; rfl) (by kernel_rfl) (by kernel_rfl) (by kernel_rfl) (by exact fun _ _ _ h => h) (Or.inl ⟨by rfl, ?_⟩) (by assumption) ?_; rotate_left; focus (intro w hSw; (try dsimp only at hSw); first | (go_simp; done) | (go_simp; with_reducible rfl))
      try simp only [Act.put, List.setIfInBounds_toArray, List.set_cons_zero, List.set_cons_succ]
      refine wpAnyH_take (i := 3) (v := ?_) (by simp only [List.getElem?_toArray, List.getElem?_cons_succ, List.getElem?_cons_zero]; rfl) (by kernel_rfl) (by kernel_rfl) (by kernel_rfl) (by exact fun _ _ _ h => h) (Or.inl ⟨by rfl, ?_⟩) (by assumption) ?_; rotate_left; focus (intro w hSw; (try dsimp only at hSw); first | (go_simp; done) | (go_simp; with_reducible rfl))
      try simp only [Act.put, List.setIfInBounds_toArray, List.set_cons_zero, List.set_cons_succ]
      refine wpAnyH_take (i := 5) (v := ?_) (by simp only [List.getElem?_toArray, List.getElem?_cons_succ, List.getElem?_cons_zero]; rfl) (by kernel_rfl) (by kernel_rfl) (by kernel_rfl) (by exact fun _ _ _ h => h) (Or.inl ⟨by rfl, ?_⟩) (by assumption) ?_; rotate_left; focus (intro w hSw; (try dsimp only at hSw); first | (go_simp; done) | (go_simp; with_reducible rfl))
      try simp only [Act.put, List.setIfInBounds_toArray, List.set_cons_zero, List.set_cons_succ]
      refine wpAnyH_take (i := 6) (v := ?_) (by simp only [List.getElem?_toArray, List.getElem?_cons_succ, List.getElem?_cons_zero]; rfl) (by kernel_rfl) (by kernel_rfl) (by kernel_rfl) (by exact fun _ _ _ h => h) (Or.inl ⟨by rfl, ?_⟩) (by assumption) ?_; rotate_left; focus (intro w hSw; (try dsimp only at hSw); first | (go_simp; done) | (go_simp; with_reducible rfl))
      try simp only [Act.put, List.setIfInBounds_toArray, List.set_cons_zero, List.set_cons_succ]
      refine wpAnyH_ready (rs := [4]) (by kernel_rfl) (by simp) ?_
      refine AllReadyH.cons rfl (fun K hK => ?_) AllReadyH.nil
      rw [if_pos (by rfl)]
      go_simp
      go_at_call 19
      have kB := hHeld.2.2.2
      refine (implRouteMinutes _ _ d _ ct _ (R8.out.below kB.out) (SC8.out.below kB.out) RO.out.2.1).mono ?_
      rw [HMC.out]
      rintro e wq4 ⟨rfl, hbk⟩
      have HBK := kB.out.trans (hbk.mono kB.out.size)
      have QS := Lib.hid (show wq4.cell? ⟨w1.heap.size, 0, none⟩ = some (.slice (some ⟨gp, op, none⟩) n0 k0) ∧ wq4.cell? ⟨w1.heap.size, 1, none⟩ = some (.slice A1 n1 k1) ∧ wq4.cell? ⟨gp, op + a * 2, none⟩ = some (.string px.name) ∧ Hid (Below w8.heap.size w8 wq4) from ⟨cell_onV FX0.out HBK, cell_onV FX1.out HBK, cell_onV FN.out HBK, Lib.hid HBK⟩)
      clear hbk kB hHeld HBK
      go_simp
      refine hK.out _ _ ?_ (fun hHeld => ?_)
      · (try dsimp only); exact QS.out
      clear hK K
      try simp only [Act.put, List.setIfInBounds_toArray, List.set_cons_zero, List.set_cons_succ]
      refine wpAnyH_ready (rs := [7]) (by kernel_rfl) (by simp) ?_
      refine AllReadyH.cons rfl (fun K hK => ?_) AllReadyH.nil
      rw [if_pos (by rfl)]
      go_simp
      go_at_call 19
      have kB := hHeld.2.2.2
      refine (implRouteMinutes _ _ d _ bt _ (R8.out.below kB.out) (SB8.out.below kB.out) RO.out.2.1).mono ?_
      rw [HMB.out]
      rintro e wq7 ⟨rfl, hbk⟩
      have HBK := kB.out.trans (hbk.mono kB.out.size)
      have QS := Lib.hid (show wq7.cell? ⟨w1.heap.size, 0, none⟩ = some (.slice (some ⟨gp, op, none⟩) n0 k0) ∧ wq7.cell? ⟨w1.heap.size, 1, none⟩ = some (.slice A1 n1 k1) ∧ wq7.cell? ⟨gp, op + a * 2, none⟩ = some (.string px.name) ∧ Hid (Below w8.heap.size w8 wq7) from ⟨cell_onV FX0.out HBK, cell_onV FX1.out HBK, cell_onV FN.out HBK, Lib.hid HBK⟩)
      clear hbk kB hHeld HBK
      go_simp
      refine hK.out _ _ ?_ (fun hHeld => ?_)
      · (try dsimp only); exact QS.out
      clear hK K
      try simp only [Act.put, List.setIfInBounds_toArray, List.set_cons_zero, List.set_cons_succ]
      refine wpAnyH_take (i := 8) (v := ?_) (by simp only [List.getElem?_toArray, List.getElem?_cons_succ, List.getElem?_cons_zero]; rfl) (by kernel_rfl) (by kernel_rfl) (by kernel_rfl) (by exact fun _ _ _ h => h) (Or.inl ⟨by rfl, ?_⟩) (by assumption) ?_; rotate_left; focus (intro w hSw; (try dsimp only at hSw); first | (go_simp; done) | (go_simp; with_reducible rfl))
      try simp only [Act.put, List.setIfInBounds_toArray, List.set_cons_zero, List.set_cons_succ]
      refine wpAnyH_take (i := 9) (v := ?_) (by simp only [List.getElem?_toArray, List.getElem?_cons_succ, List.getElem?_cons_zero]; rfl) (by kernel_rfl) (by kernel_rfl) (by kernel_rfl) (by exact fun _ _ _ h => h) (Or.inl ⟨by rfl, ?_⟩) (by assumption) ?_; rotate_left; focus (intro w hSw; (try dsimp only at hSw); first | (go_simp; done) | (go_simp; with_reducible rfl))
      try simp only [Act.put, List.setIfInBounds_toArray, List.set_cons_zero, List.set_cons_succ]
      refine wpAnyH_take (i := 10) (v := ?_) (by simp only [List.getElem?_toArray, List.getElem?_cons_succ, List.getElem?_cons_zero]; rfl) (by kernel_rfl) (by kernel_rfl) (by kernel_rfl) (by exact fun _ _ _ h => h) (Or.inl ⟨by rfl, ?_⟩) (by assumption) ?_; rotate_left; focus (intro w hSw; (try dsimp only at hSw); first | (go_simp; done) | (go_simp; with_reducible rfl))
      try simp only [Act.put, List.setIfInBounds_toArray, List.set_cons_zero, List.set_cons_succ]
      refine wpAnyH_take (i := 11) (v := ?_) (by simp only [List.getElem?_toArray, List.getElem?_cons_succ, List.getElem?_cons_zero]; rfl) (by kernel_rfl) (by kernel_rfl) (by kernel_rfl) (by exact fun _ _ _ h => h) (Or.inl ⟨by rfl, ?_⟩) (by assumption) ?_; rotate_left; focus (intro w hSw; (try dsimp only at hSw); first | (go_simp; done) | (go_simp; with_reducible rfl))
      try simp only [Act.put, List.setIfInBounds_toArray, List.set_cons_zero, List.set_cons_succ]
      refine wpAnyH_take (i := 12) (v := ?_) (by simp only [List.getElem?_toArray, List.getElem?_cons_succ, List.getElem?_cons_zero]; rfl) (by kernel_rfl) (by kernel_rfl) (by kernel_rfl) (by exact fun _ _ _ h => h) (Or.inl ⟨by rfl, ?_⟩) (by assumption) ?_; rotate_left; focus (intro w hSw; (try dsimp only at hSw); first | (go_simp; done) | (go_simp; with_reducible rfl))
      try simp only [Act.put, List.setIfInBounds_toArray, List.set_cons_zero, List.set_cons_succ]
      refine wpAnyH_take (i := 13) (v := ?_) (by simp only [List.getElem?_toArray, List.getElem?_cons_succ, List.getElem?_cons_zero]; rfl) (by kernel_rfl) (by kernel_rfl) (by kernel_rfl) (by exact fun _ _ _ h => h) (Or.inl ⟨by rfl, ?_⟩) (by assumption) ?_; rotate_left; focus (intro w hSw; (try dsimp only at hSw); first | (go_simp; done) | (go_simp; with_reducible rfl))
      try simp only [Act.put, List.setIfInBounds_toArray, List.set_cons_zero, List.set_cons_succ]
      refine wpAnyH_take (i := 14) (v := ?_) (by simp only [List.getElem?_toArray, List.getElem?_cons_succ, List.getElem?_cons_zero]; rfl) (by kernel_rfl) (by kernel_rfl) (by kernel_rfl) (by exact fun _ _ _ h => h) (Or.inl ⟨by rfl, ?_⟩) (by assumption) ?_; rotate_left; focus (intro w hSw; (try dsimp only at hSw); first | (go_simp; done) | (go_simp; with_reducible rfl))
      try simp only [Act.put, List.setIfInBounds_toArray, List.set_cons_zero, List.set_cons_succ]
      refine wpAnyH_take (i := 15) (v := ?_) (by simp only [List.getElem?_toArray, List.getElem?_cons_succ, List.getElem?_cons_zero]; rfl) (by kernel_rfl) (by kernel_rfl) (by kernel_rfl) (by exact fun _ _ _ h => h) (Or.inl ⟨by rfl, ?_⟩) (by assumption) ?_; rotate_left; focus (intro w hSw; (try dsimp only at hSw); first | (go_simp; done) | (go_simp; with_reducible rfl))
      try simp only [Act.put, List.setIfInBounds_toArray, List.set_cons_zero, List.set_cons_succ]
      refine wpAnyH_take (i := 16) (v := ?_) (by simp only [List.getElem?_toArray, List.getElem?_cons_succ, List.getElem?_cons_zero]; rfl) (by kernel_rfl) (by kernel_rfl) (by kernel_rfl) (by exact fun _ _ _ h => h) (Or.inl ⟨by rfl, ?_⟩) (by assumption) ?_; rotate_left; focus (intro w hSw; (try dsimp only at hSw); first | (go_simp; done) | (go_simp; with_reducible rfl))
      try simp only [Act.put, List.setIfInBounds_toArray, List.set_cons_zero, List.set_cons_succ]
      refine wpAnyH_take (i := 17) (v := ?_) (by simp only [List.getElem?_toArray, List.getElem?_cons_succ, List.getElem?_cons_zero]; rfl) (by kernel_rfl) (by kernel_rfl) (by kernel_rfl) (by exact fun _ _ _ h => h) (Or.inl ⟨by rfl, ?_⟩) (by assumption) ?_; rotate_left; focus (intro w hSw; (try dsimp only at hSw); first | (go_simp; done) | (go_simp; with_reducible rfl))
      try simp only [Act.put, List.setIfInBounds_toArray, List.set_cons_zero, List.set_cons_succ]
      refine wpAnyH_take (i := 19) (v := ?_) (by simp only [List.getElem?_toArray, List.getElem?_cons_succ, List.getElem?_cons_zero]; rfl) (by kernel_rfl) (by kernel_rfl) (by kernel_rfl) (by exact fun _ _ _ h => h) (Or.inl ⟨by rfl, ?_⟩) (by assumption) ?_; rotate_left; focus (intro w hSw; (try dsimp only at hSw); first | (go_simp; done) | (go_simp; with_reducible rfl))
      try simp only [Act.put, List.setIfInBounds_toArray, List.set_cons_zero, List.set_cons_succ]
      refine wpAnyH_ready (rs := [18]) (by kernel_rfl) (by simp) ?_
      refine AllReadyH.cons rfl (fun K hK => ?_) AllReadyH.nil
      rw [if_pos (by rfl)]
      go_simp
      go_at_call 22
      have kB := hHeld.2.2.2
      refine (implPointNamed _ _ d px.name _ (R8.out.below kB.out) RO.out.2.1 HPW.out).mono ?_
      rw [HNM.out]
      rintro e wq18 ⟨rfl, hbk⟩
      have HBK := kB.out.trans (hbk.mono kB.out.size)
      have QS := Lib.hid (show wq18.cell? ⟨w1.heap.size, 0, none⟩ = some (.slice (some ⟨gp, op, none⟩) n0 k0) ∧ wq18.cell? ⟨w1.heap.size, 1, none⟩ = some (.slice A1 n1 k1) ∧ wq18.cell? ⟨gp, op + a * 2, none⟩ = some (.string px.name) ∧ Hid (Below w8.heap.size w8 wq18) from ⟨cell_onV FX0.out HBK, cell_onV FX1.out HBK, cell_onV FN.out HBK, Lib.hid HBK⟩)
      clear hbk kB hHeld HBK
      go_simp
      refine hK.out _ _ ?_ (fun hHeld => ?_)
      · (try dsimp only); exact QS.out
      clear hK K
      try simp only [Act.put, List.setIfInBounds_toArray, List.set_cons_zero, List.set_cons_succ]
      refine wpAnyH_take (i := 20) (v := ?_) (by simp only [List.getElem?_toArray, List.getElem?_cons_succ, List.getElem?_cons_zero]; rfl) (by kernel_rfl) (by kernel_rfl) (by kernel_rfl) (by exact fun _ _ _ h => h) (Or.inl ⟨by rfl, ?_⟩) (by assumption) ?_; rotate_left; focus (intro w hSw; (try dsimp only at hSw); first | (go_simp; done) | (go_simp; with_reducible rfl))
      try simp only [Act.put, List.setIfInBounds_toArray, List.set_cons_zero, List.set_cons_succ]
      refine wpAnyH_take (i := 21) (v := ?_) (by simp only [List.getElem?_toArray, List.getElem?_cons_succ, List.getElem?_cons_zero]; rfl) (by kernel_rfl) (by kernel_rfl) (by kernel_rfl) (by exact fun _ _ _ h => h) (Or.inl ⟨by rfl, ?_⟩) (by assumption) ?_; rotate_left; focus (intro w hSw; (try dsimp only at hSw); first | (go_simp; done) | (go_simp; with_reducible rfl))
      try simp only [Act.put, List.setIfInBounds_toArray, List.set_cons_zero, List.set_cons_succ]
      refine wpAnyH_take (i := 22) (v := ?_) (by simp only [List.getElem?_toArray, List.getElem?_cons_succ, List.getElem?_cons_zero]; rfl) (by kernel_rfl) (by kernel_rfl) (by kernel_rfl) (by exact fun _ _ _ h => h) (Or.inl ⟨by rfl, ?_⟩) (by assumption) ?_; rotate_left; focus (intro w hSw; (try dsimp only at hSw); first | (go_simp; done) | (go_simp; with_reducible rfl))
      try simp only [Act.put, List.setIfInBounds_toArray, List.set_cons_zero, List.set_cons_succ]
      refine wpAnyH_take (i := 23) (v := ?_) (by simp only [List.getElem?_toArray, List.getElem?_cons_succ, List.getElem?_cons_zero]; rfl) (by kernel_rfl) (by kernel_rfl) (by kernel_rfl) (by exact fun _ _ _ h => h) (Or.inl ⟨by rfl, ?_⟩) (by assumption) ?_; rotate_left; focus (intro w hSw; (try dsimp only at hSw); first | (go_simp; done) | (go_simp; with_reducible rfl))
      try simp only [Act.put, List.setIfInBounds_toArray, List.set_cons_zero, List.set_cons_succ]
      refine wpAnyH_take (i := 24) (v := ?_) (by simp only [List.getElem?_toArray, List.getElem?_cons_succ, List.getElem?_cons_zero]; rfl) (by kernel_rfl) (by kernel_rfl) (by kernel_rfl) (by exact fun _ _ _ h => h) (Or.inl ⟨by rfl, ?_⟩) (by assumption) ?_; rotate_left; focus (intro w hSw; (try dsimp only at hSw); first | (go_simp; done) | (go_simp; with_reducible rfl))
      try simp only [Act.put, List.setIfInBounds_toArray, List.set_cons_zero, List.set_cons_succ]
      refine wpAnyH_take (i := 25) (v := ?_) (by simp only [List.getElem?_toArray, List.getElem?_cons_succ, List.getElem?_cons_zero]; rfl) (by kernel_rfl) (by kernel_rfl) (by kernel_rfl) (by exact fun _ _ _ h => h) (Or.inl ⟨by rfl, ?_⟩) (by assumption) ?_; rotate_left; focus (intro w hSw; (try dsimp only at hSw); first | (go_simp; done) | (go_simp; with_reducible rfl))
      try simp only [Act.put, List.setIfInBounds_toArray, List.set_cons_zero, List.set_cons_succ]
      refine wpAnyH_take (i := 28) (v := ?_) (by simp only [List.getElem?_toArray, List.getElem?_cons_succ, List.getElem?_cons_zero]; rfl) (by kernel_rfl) (by kernel_rfl) (by kernel_rfl) (by exact fun _ _ _ h => h) (Or.inl ⟨by rfl, ?_⟩) (by assumption) ?_; rotate_left; focus (intro w hSw; (try dsimp only at hSw); first | (go_simp; done) | (go_simp; with_reducible rfl))
      try simp only [Act.put, List.setIfInBounds_toArray, List.set_cons_zero, List.set_cons_succ]
      refine wpAnyH_take (i := 29) (v := ?_) (by simp only [List.getElem?_toArray, List.getElem?_cons_succ, List.getElem?_cons_zero]; rfl) (by kernel_rfl) (by kernel_rfl) (by kernel_rfl) (by exact fun _ _ _ h => h) (Or.inl ⟨by rfl, ?_⟩) (by assumption) ?_; rotate_left; focus (intro w hSw; (try dsimp only at hSw); first | (go_simp; done) | (go_simp; with_reducible rfl))
      try simp only [Act.put, List.setIfInBounds_toArray, List.set_cons_zero, List.set_cons_succ]
      refine wpAnyH_ready (rs := [26]) (by kernel_rfl) (by simp) ?_
      refine AllReadyH.cons rfl (fun K hK => ?_) AllReadyH.nil
      rw [if_pos (by rfl)]
      go_simp
      go_at_call 14
      have kB := hHeld.2.2.2
      refine (implRoutesBetween _ _ d (b : Int) (a : Int) _ (R8.out.below kB.out) RO.out.2.1).mono ?_
      rintro e wq26 ⟨v2, rfl, ho2, hbk⟩
      have bd2 := rtsL_bnd d (b : Int) (a : Int)
      obtain ⟨vs2, D2, kk2, rfl, hvl2, -, -, -, -, -, -, -⟩ := ho2.parts bd2.1 bd2.2.1
      have hv2 : vs2.length = k := by have h1 := PAIR.out.2.2.1; have h2 := HVL.out; rw [HLL.out] at h1; omega
      rw [hv2]
      clear ho2 bd2 hvl2 hv2
      have HBK := kB.out.trans (hbk.mono kB.out.size)
      have QS := Lib.hid (show wq26.cell? ⟨w1.heap.size, 0, none⟩ = some (.slice (some ⟨gp, op, none⟩) n0 k0) ∧ wq26.cell? ⟨w1.heap.size, 1, none⟩ = some (.slice A1 n1 k1) ∧ wq26.cell? ⟨gp, op + a * 2, none⟩ = some (.string px.name) ∧ Hid (Below w8.heap.size w8 wq26) from ⟨cell_onV FX0.out HBK, cell_onV FX1.out HBK, cell_onV FN.out HBK, Lib.hid HBK⟩)
      clear hbk kB hHeld HBK
      go_simp
      refine hK.out _ _ ?_ (fun hHeld => ?_)
      · (try dsimp only); exact QS.out
      clear hK K
      try simp only [Act.put, List.setIfInBounds_toArray, List.set_cons_zero, List.set_cons_succ]
      refine wpAnyH_take (i := 27) (v := ?_) (by simp only [List.getElem?_toArray, List.getElem?_cons_succ, List.getElem?_cons_zero]; rfl) (by kernel_rfl) (by kernel_rfl) (by kernel_rfl) (by exact fun _ _ _ h => h) (Or.inl ⟨by rfl, ?_⟩) (by assumption) ?_; rotate_left; focus (intro w hSw; (try dsimp only at hSw); first | (go_simp; done) | (go_simp; with_reducible rfl))
      try simp only [Act.put, List.setIfInBounds_toArray, List.set_cons_zero, List.set_cons_succ]
      refine wpAnyH_take (i := 30) (v := ?_) (by simp only [List.getElem?_toArray, List.getElem?_cons_succ, List.getElem?_cons_zero]; rfl) (by kernel_rfl) (by kernel_rfl) (by kernel_rfl) (by exact fun _ _ _ h => h) (Or.inl ⟨by rfl, ?_⟩) (by assumption) ?_; rotate_left; focus (intro w hSw; (try dsimp only at hSw); first | (go_simp; done) | (go_simp; with_reducible rfl))
      try simp only [Act.put, List.setIfInBounds_toArray, List.set_cons_zero, List.set_cons_succ]
      refine wpAnyH_take (i := 31) (v := ?_) (by simp only [List.getElem?_toArray, List.getElem?_cons_succ, List.getElem?_cons_zero]; rfl) (by kernel_rfl) (by kernel_rfl) (by kernel_rfl) (by exact fun _ _ _ h => h) (Or.inl ⟨by rfl, ?_⟩) (by assumption) ?_; rotate_left; focus (intro w hSw; (try dsimp only at hSw); first | (go_simp; done) | (go_simp; with_reducible rfl))
      try simp only [Act.put, List.setIfInBounds_toArray, List.set_cons_zero, List.set_cons_succ]
      refine wpAnyH_take (i := 32) (v := ?_) (by simp only [List.getElem?_toArray, List.getElem?_cons_succ, List.getElem?_cons_zero]; rfl) (by kernel_rfl) (by kernel_rfl) (by kernel_rfl) (by exact fun _ _ _ h => h) (Or.inl ⟨by rfl, ?_⟩) (by assumption) ?_; rotate_left; focus (intro w hSw; (try dsimp only at hSw); first | (go_simp; done) | (go_simp; with_reducible rfl))
      try simp only [Act.put, List.setIfInBounds_toArray, List.set_cons_zero, List.set_cons_succ]
      refine wpAnyH_done (by kernel_rfl) ?_ _
      go_wp2
      go_ret
      exact ⟨rfl, BO8.out.trans (hHeld.2.2.2.out.mono BO8.out.size)⟩
    obtain ⟨vk, hvk⟩ : ∃ vk, vs[k]? = some vk := ⟨_, List.getElem?_eq_getElem (by rw [HL.out]; exact hlt)⟩
    obtain ⟨rt, hrt, hsr⟩ := (forall2_at LL7.out.2).2 k vk hvk
    have hmem : rt ∈ rtsL d (a : Int) (b : Int) := by rw [HLL.out]; exact List.mem_of_getElem? hrt
    have hrl := BD.out rt (List.mem_of_getElem? hrt)
    obtain ⟨hmin, hrB, p, hp, hpl, hpe, hst⟩ := PAIR.out.2.2.2.2.2 rt hmem
    obtain ⟨gl, ol, el, cl⟩ : ∃ gl ol, D = some ⟨gl, ol, none⟩ ∧ w7.cell? ⟨gl, ol + k, none⟩ = some vk := by
      rcases LL7.out.1.2 with ⟨he, _⟩ | ⟨g, o, c', e, hp, hcap, hc⟩
      · rw [he] at hvk; simp at hvk
      · injection e with hA _ _
        exact ⟨g, o, hA, by have := hc k vk hvk 0 vk rfl; simpa using this⟩
    subst el
    obtain ⟨Ar, cr, rfl⟩ := hsr.at
    obtain ⟨rl, hrl0⟩ : ∃ rl, rt.length = rl := ⟨_, rfl⟩
    rw [hrl0] at hsr hrl hpl hpe cl
    obtain ⟨pl, hplp⟩ : ∃ pl, rl + 1 = pl := ⟨_, rfl⟩
    have SR := Lib.hid hsr
    have HRT := Lib.hid hrl0
    have HRL := Lib.hid hrl
    have HPL := Lib.hid (hpl.trans hplp)
    have HPP := Lib.hid hplp
    have HPE := Lib.hid hpe
    have HST := Lib.hid hst
    have HRB := Lib.hid hrB
    have HP := Lib.hid hp
    have HMIN := Lib.hid hmin
    have cl2 : wo.cell? ⟨gl, ol + k, none⟩ = some (.slice Ar rl cr) := cell_onV cl hB.out
    clear hvk hrt hsr hmem hpl hpe hst hrB hp hmin hplp hrl0 cl
    have cx0 : wo.cell? ⟨w1.heap.size, 0, none⟩ = some (.slice A0 n0 k0) := (X7.out.below hB.out).cell 0
    have cx1 : wo.cell? ⟨w1.heap.size, 1, none⟩ = some (.slice A1 n1 k1) := (X7.out.below hB.out).cell 1
    go_wp2_with fail
    clear cx0 cx1 cl2
    refine (implRoutePoints _ _ d (a : Int) _ rt _ RO7.out (SR.out.below hB.out) RO.out.2.1).mono ?_
    rintro e w8 ⟨vp, rfl, hop, hb8⟩
    rw [HP.out] at hop
    have hpl := HPL.out
    have SP := Lib.hid (own_sl intLen hop (by have := HPP.out; omega))
    obtain ⟨Ap, cp, rfl⟩ := own_form hop
    rw [hpl] at SP ⊢
    have BB8 := Lib.hid (hB.out.trans (hb8.mono hB.out.size))
    have R8 := Lib.hid (R7.out.below BB8.out)
    have SB8 := Lib.hid (SB7.out.below BB8.out)
    have SR8 := Lib.hid (SR.out.below BB8.out)
    have FX0 := Lib.hid (show w8.cell? ⟨w1.heap.size, 0, none⟩ = some (.slice A0 n0 k0) from (X7.out.below BB8.out).cell 0)
    have FX1 := Lib.hid (show w8.cell? ⟨w1.heap.size, 1, none⟩ = some (.slice A1 n1 k1) from (X7.out.below BB8.out).cell 1)
    obtain ⟨gp, op, ep, FPA⟩ : ∃ gp op, Ap = some ⟨gp, op, none⟩ ∧ Hid (∀ i x, p[i]? = some x → w8.cell? ⟨gp, op + i, none⟩ = some (.int .i64 x)) := by
      rcases SP.out.2 with ⟨he, _⟩ | ⟨g, o, c', e, hp, hcap, hc⟩
      · rw [he] at hpl; simp at hpl; have := HPP.out; omega
      · injection e with hA _ _
        exact ⟨g, o, hA, Lib.hid fun i x hx => SlInt.cells hc i x hx⟩
    subst ep
    have FPE := Lib.hid (FPA.out rl (b : Int) HPE.out)
    clear hb8 hop hpl
    have hw1 : IntKind.i64.wrap ((rl : Int) + 1) = (pl : Int) := by have := HPP.out; have := HRL.out; rw [IntKind.wrap_i64]; omega
    have hw2 : IntKind.i64.wrap ((pl : Int) - 1) = (rl : Int) := by have := HPP.out; have := HRL.out; rw [IntKind.wrap_i64]; omega
    have hrp : rl < pl := by have := HPP.out; omega
    obtain ⟨m1, hm1⟩ : ∃ m1, minutesI d rt = m1 := ⟨_, rfl⟩
    obtain ⟨mB, hmB⟩ : ∃ mB, minutesI d bt = mB := ⟨_, rfl⟩
    have hmle : mB ≤ m1 := by have := HMIN.out; rw [HBT.out, hm1, hmB] at this; exact this
    have hmd : decide (m1 < mB) = false := decide_eq_false (by omega)
    have hmn : ¬ m1 < mB := by omega
    have HM1 := Lib.hid hm1
    have HMB := Lib.hid hmB
    clear hm1 hmB
    go_upto_region 15 with fail
    have DD := Lib.hid ((Below.refl w8.heap.size w8).drew)
    have vFX0 := FX0.out
    have vFX1 := FX1.out
    have vFPE := FPE.out
    go_cut [99] (fun s wx => s = .bool false ∧ Hid (Below w8.heap.size w8 wx))
    case first =>
      refine wp_region_held_drew (S := (fun w' => w'.cell? ⟨w1.heap.size, 0, none⟩ = some (.slice A0 n0 k0) ∧ w'.cell? ⟨w1.heap.size, 1, none⟩ = some (.slice A1 n1 k1) ∧ w'.cell? ⟨gp, op + rl, none⟩ = some (.int .i64 (b : Int)) ∧ Hid (Below w8.heap.size w8 w'))) (by kernel_rfl) ?_ (fun hHeld => ?_)
      · (try dsimp only); go_keep
      refine wpAnyH_take (i := 0) (v := ?_) (by simp only [List.getElem?_toArray, List.getElem?_cons_zero]; rfl) (by kernel_rfl) (by kernel_rfl) (by kernel_rfl) (by exact fun _ _ _ h => h) (Or.inl ⟨by rfl, ?_⟩) (by assumption) ?_; rotate_left; focus (intro w hSw; (try dsimp only at hSw); first | (go_simp; done) | (go_simp; with_reducible rfl))
      try simp only [Act.put, List.setIfInBounds_toArray, List.set_cons_zero, List.set_cons_succ]
      refine wpAnyH_take (i := 1) (v := ?_) (by simp only [List.getElem?_toArray, List.getElem?_cons_succ, List.getElem?_cons_zero]; rfl) (by kernel_rfl) (by kernel_rfl) (by kernel_rfl) (by exact fun _ _ _ h => h) (Or.inl ⟨by rfl, ?_⟩) (by assumption) ?_; rotate_left; focus (intro w hSw; (try dsimp only at hSw); first | (go_simp; done) | (go_simp; with_reducible rfl))
      try simp only [Act.put, List.setIfInBounds_toArray, List.set_cons_zero, List.set_cons_succ]
      refine wpAnyH_take (i := 2) (v := ?_) (by simp only [List.getElem?_toArray, List.getElem?_cons_succ, List.getElem?_cons_zero]; rfl) (by kernel_rfl) (by kernel_rfl) (by kernel_rfl) (by exact fun _ _ _ h => h) (Or.inl ⟨by rfl, ?_⟩) (by assumption) ?_; rotate_left; focus (intro w hSw; (try dsimp only at hSw); first | (go_simp; done) | (go_simp; with_reducible rfl))
      try simp only [Act.put, List.setIfInBounds_toArray, List.set_cons_zero, List.set_cons_succ]
      refine wpAnyH_ready (rs := [3]) (by kernel_rfl) (by simp) ?_
      refine AllReadyH.cons rfl (fun K hK => ?_) AllReadyH.nil
      rw [if_pos (by rfl)]
      go_simp
      go_at_call 18
      have kB := hHeld.2.2.2
      refine (implRouteOk _ _ d (a : Int) _ rt _ (R8.out.below kB.out) (SR8.out.below kB.out) RO.out.2.1).mono ?_
      rw [HRB.out]
      rintro e wq3 ⟨rfl, hbk⟩
      have HBK := kB.out.trans (hbk.mono kB.out.size)
      have QS := Lib.hid (show wq3.cell? ⟨w1.heap.size, 0, none⟩ = some (.slice A0 n0 k0) ∧ wq3.cell? ⟨w1.heap.size, 1, none⟩ = some (.slice A1 n1 k1) ∧ wq3.cell? ⟨gp, op + rl, none⟩ = some (.int .i64 (b : Int)) ∧ Hid (Below w8.heap.size w8 wq3) from ⟨cell_onV FX0.out HBK, cell_onV FX1.out HBK, cell_onV FPE.out HBK, Lib.hid HBK⟩)
      clear hbk kB hHeld HBK
      go_simp
      refine hK.out _ _ ?_ (fun hHeld => ?_)
      · (try dsimp only); exact QS.out
      clear hK K
      try simp only [Act.put, List.setIfInBounds_toArray, List.set_cons_zero, List.set_cons_succ]
      refine wpAnyH_take (i := 4) (v := ?_) (by simp only [List.getElem?_toArray, List.getElem?_cons_succ, List.getElem?_cons_zero]; rfl) (by kernel_rfl) (by kernel_rfl) (by kernel_rfl) (by exact fun _ _ _ h => h) (Or.inl ⟨by rfl, ?_⟩) (by assumption) ?_; rotate_left; focus (intro w hSw; (try dsimp only at hSw); first | (go_simp; done) | (go_simp; with_reducible rfl))
      try simp only [Act.put, List.setIfInBounds_toArray, List.set_cons_zero, List.set_cons_succ]
      refine wpAnyH_take (i := 5) (v := ?_) (by simp only [List.getElem?_toArray, List.getElem?_cons_succ, List.getElem?_cons_zero]; rfl) (by kernel_rfl) (by kernel_rfl) (by kernel_rfl) (by exact fun _ _ _ h => h) (Or.inl ⟨by rfl, ?_⟩) (by assumption) ?_; rotate_left; focus (intro w hSw; (try dsimp only at hSw); first | (go_simp; done) | (go_simp; with_reducible rfl))
      try simp only [Act.put, List.setIfInBounds_toArray, List.set_cons_zero, List.set_cons_succ]
      refine wpAnyH_take (i := 6) (v := ?_) (by simp only [List.getElem?_toArray, List.getElem?_cons_succ, List.getElem?_cons_zero]; rfl) (by kernel_rfl) (by kernel_rfl) (by kernel_rfl) (by exact fun _ _ _ h => h) (Or.inl ⟨by rfl, ?_⟩) (by assumption) ?_; rotate_left; focus (intro w hSw; (try dsimp only at hSw); first | (go_simp; done) | (go_simp; with_reducible rfl))
      try simp only [Act.put, List.setIfInBounds_toArray, List.set_cons_zero, List.set_cons_succ]
      refine wpAnyH_take (i := 7) (v := ?_) (by simp only [List.getElem?_toArray, List.getElem?_cons_succ, List.getElem?_cons_zero]; rfl) (by kernel_rfl) (by kernel_rfl) (by kernel_rfl) (by exact fun _ _ _ h => h) (Or.inl ⟨by rfl, ?_⟩) (by assumption) ?_; rotate_left; focus (intro w hSw; (try dsimp only at hSw); first | (go_simp; done) | (go_simp; with_reducible rfl))
      try simp only [Act.put, List.setIfInBounds_toArray, List.set_cons_zero, List.set_cons_succ]
      refine wpAnyH_take (i := 8) (v := ?_) (by simp only [List.getElem?_toArray, List.getElem?_cons_succ, List.getElem?_cons_zero]; rfl) (by kernel_rfl) (by kernel_rfl) (by kernel_rfl) (by exact fun _ _ _ h => h) (Or.inl ⟨by rfl, ?_⟩) (by assumption) ?_; rotate_left; focus (intro w hSw; (try dsimp only at hSw); first | (go_simp; done) | (go_simp; with_reducible rfl))
      try simp only [Act.put, List.setIfInBounds_toArray, List.set_cons_zero, List.set_cons_succ]
      refine wpAnyH_take (i := 9) (v := ?_) (by simp only [List.getElem?_toArray, List.getElem?_cons_succ, List.getElem?_cons_zero]; rfl) (by kernel_rfl) (by kernel_rfl) (by kernel_rfl) (by exact fun _ _ _ h => h) (Or.inl ⟨by rfl, ?_⟩) (by assumption) ?_; rotate_left; focus (intro w hSw; (try dsimp only at hSw); first | (go_simp; done) | (go_simp; with_reducible rfl))
      try simp only [Act.put, List.setIfInBounds_toArray, List.set_cons_zero, List.set_cons_succ]
      refine wpAnyH_take (i := 10) (v := ?_) (by simp only [List.getElem?_toArray, List.getElem?_cons_succ, List.getElem?_cons_zero]; rfl) (by kernel_rfl) (by kernel_rfl) (by kernel_rfl) (by exact fun _ _ _ h => h) (Or.inl ⟨by rfl, ?_⟩) (by assumption) ?_; rotate_left; focus (intro w hSw; (try dsimp only at hSw); first | (go_simp; done) | (go_simp; with_reducible rfl))
      try simp only [Act.put, List.setIfInBounds_toArray, List.set_cons_zero, List.set_cons_succ]
      refine wpAnyH_take (i := 11) (v := ?_) (by simp only [List.getElem?_toArray, List.getElem?_cons_succ, List.getElem?_cons_zero]; rfl) (by kernel_rfl) (by kernel_rfl) (by kernel_rfl) (by exact fun _ _ _ h => h) (Or.inl ⟨by rfl, ?_⟩) (by assumption) ?_; rotate_left; focus (intro w hSw; (try dsimp only at hSw); first | (go_simp; done) | (go_simp; with_reducible rfl))
      try simp only [Act.put, List.setIfInBounds_toArray, List.set_cons_zero, List.set_cons_succ]
      refine wpAnyH_take (i := 12) (v := ?_) (by simp only [List.getElem?_toArray, List.getElem?_cons_succ, List.getElem?_cons_zero]; rfl) (by kernel_rfl) (by kernel_rfl) (by kernel_rfl) (by exact fun _ _ _ h => h) (Or.inl ⟨by rfl, ?_⟩) (by assumption) ?_; rotate_left; focus (intro w hSw; (try dsimp only at hSw); first | (go_simp; done) | (go_simp; with_reducible rfl))
      try simp only [Act.put, List.setIfInBounds_toArray, List.set_cons_zero, List.set_cons_succ]
      refine wpAnyH_take (i := 13) (v := ?_) (by simp only [List.getElem?_toArray, List.getElem?_cons_succ, List.getElem?_cons_zero]; rfl) (by kernel_rfl) (by kernel_rfl) (by kernel_rfl) (by exact fun _ _ _ h => h) (Or.inl ⟨by rfl, ?_⟩) (by assumption) ?_; rotate_left; focus (intro w hSw; (try dsimp only at hSw); first | (go_simp; done) | (go_simp; with_reducible rfl))
      try simp only [Act.put, List.setIfInBounds_toArray, List.set_cons_zero, List.set_cons_succ]
      refine wpAnyH_take (i := 14) (v := ?_) (by simp only [List.getElem?_toArray, List.getElem?_cons_succ, List.getElem?_cons_zero]; rfl) (by kernel_rfl) (by kernel_rfl) (by kernel_rfl) (by exact fun _ _ _ h => h) (Or.inl ⟨by rfl, ?_⟩) (by assumption) ?_; rotate_left; focus (intro w hSw; (try dsimp only at hSw); first | (go_simp; done) | (go_simp; with_reducible rfl))
      try simp only [Act.put, List.setIfInBounds_toArray, List.set_cons_zero, List.set_cons_succ]
      refine wpAnyH_take (i := 15) (v := ?_) (by simp only [List.getElem?_toArray, List.getElem?_cons_succ, List.getElem?_cons_zero]; rfl) (by kernel_rfl) (by kernel_rfl) (by kernel_rfl) (by exact fun _ _ _ h => h) (Or.inl ⟨by rfl, ?_⟩) (by assumption) ?_; rotate_left; focus (intro w hSw; (try dsimp only at hSw); first | (go_simp; done) | (go_simp; with_reducible rfl))
      try simp only [Act.put, List.setIfInBounds_toArray, List.set_cons_zero, List.set_cons_succ]
      refine wpAnyH_take (i := 16) (v := ?_) (by simp only [List.getElem?_toArray, List.getElem?_cons_succ, List.getElem?_cons_zero]; rfl) (by kernel_rfl) (by kernel_rfl) (by kernel_rfl) (by exact fun _ _ _ h => h) (Or.inl ⟨by rfl, ?_⟩) (by assumption) ?_; rotate_left; focus (intro w hSw; (try dsimp only at hSw); first | (go_simp; done) | (go_simp; with_reducible rfl))
      try simp only [Act.put, List.setIfInBounds_toArray, List.set_cons_zero, List.set_cons_succ]
      refine wpAnyH_take (i := 17) (v := ?_) (by simp only [List.getElem?_toArray, List.getElem?_cons_succ, List.getElem?_cons_zero]; rfl) (by kernel_rfl) (by kernel_rfl) (by kernel_rfl) (by exact fun _ _ _ h => h) (Or.inl ⟨by rfl, ?_⟩) (by assumption) ?_; rotate_left; focus (intro w hSw; (try dsimp only at hSw); first | (go_simp; done) | (go_simp; with_reducible rfl))
      try simp only [Act.put, List.setIfInBounds_toArray, List.set_cons_zero, List.set_cons_succ]
      refine wpAnyH_take (i := 18) (v := ?_) (by simp only [List.getElem?_toArray, List.getElem?_cons_succ, List.getElem?_cons_zero]; rfl) (by kernel_rfl) (by kernel_rfl) (by kernel_rfl) (by exact fun _ _ _ h => h) (Or.inl ⟨by rfl, ?_⟩) (by assumption) ?_; rotate_left; focus (intro w hSw; (try dsimp only at hSw); first | (go_simp; done) | (go_simp; with_reducible rfl))
      try simp only [Act.put, List.setIfInBounds_toArray, List.set_cons_zero, List.set_cons_succ]
      refine wpAnyH_take (i := 19) (v := ?_) (by simp only [List.getElem?_toArray, List.getElem?_cons_succ, List.getElem?_cons_zero]; rfl) (by kernel_rfl) (by kernel_rfl) (by kernel_rfl) (by exact fun _ _ _ h => h) (Or.inl ⟨by rfl, ?_⟩) (by assumption) ?_; rotate_left; focus (intro w hSw; (try dsimp only at hSw); first | (go_simp; done) | (go_simp; with_reducible rfl))
      try simp only [Act.put, List.setIfInBounds_toArray, List.set_cons_zero, List.set_cons_succ]
      refine wpAnyH_take (i := 20) (v := ?_) (by simp only [List.getElem?_toArray, List.getElem?_cons_succ, List.getElem?_cons_zero]; rfl) (by kernel_rfl) (by kernel_rfl) (by kernel_rfl) (by exact fun _ _ _ h => h) (Or.inl ⟨by rfl, ?_⟩) (by assumption) ?_; rotate_left; focus (intro w hSw; (try dsimp only at hSw); first | (go_simp; done) | (go_simp; with_reducible rfl))
      try simp only [Act.put, List.setIfInBounds_toArray, List.set_cons_zero, List.set_cons_succ]
      refine wpAnyH_take (i := 21) (v := ?_) (by simp only [List.getElem?_toArray, List.getElem?_cons_succ, List.getElem?_cons_zero]; rfl) (by kernel_rfl) (by kernel_rfl) (by kernel_rfl) (by exact fun _ _ _ h => h) (Or.inl ⟨by rfl, ?_⟩) (by assumption) ?_; rotate_left; focus (intro w hSw; (try dsimp only at hSw); first | (go_simp; done) | (go_simp; with_reducible rfl))
      try simp only [Act.put, List.setIfInBounds_toArray, List.set_cons_zero, List.set_cons_succ]
      refine wpAnyH_take (i := 22) (v := ?_) (by simp only [List.getElem?_toArray, List.getElem?_cons_succ, List.getElem?_cons_zero]; rfl) (by kernel_rfl) (by kernel_rfl) (by kernel_rfl) (by exact fun _ _ _ h => h) (Or.inl ⟨by rfl, ?_⟩) (by assumption) ?_; rotate_left; focus (intro w hSw; (try dsimp only at hSw); first | (go_simp; done) | (go_simp; with_reducible rfl))
      try simp only [Act.put, List.setIfInBounds_toArray, List.set_cons_zero, List.set_cons_succ]
      refine wpAnyH_take (i := 23) (v := ?_) (by simp only [List.getElem?_toArray, List.getElem?_cons_succ, List.getElem?_cons_zero]; rfl) (by kernel_rfl) (by kernel_rfl) (by kernel_rfl) (by exact fun _ _ _ h => h) (Or.inl ⟨by rfl, ?_⟩) (by assumption) ?_; rotate_left; focus (intro w hSw; (try dsimp only at hSw); first | (go_simp; done) | (go_simp; with_reducible rfl))
      try simp only [Act.put, List.setIfInBounds_toArray, List.set_cons_zero, List.set_cons_succ]
      refine wpAnyH_take (i := 24) (v := ?_) (by simp only [List.getElem?_toArray, List.getElem?_cons_succ, List.getElem?_cons_zero]; rfl) (by kernel_rfl) (by kernel_rfl) (by kernel_rfl) (by exact fun _ _ _ h => h) (Or.inl ⟨by rfl, ?_⟩) (by assumption) ?_; rotate_left; focus (intro w hSw; (try dsimp only at hSw); first | (go_simp; done) | (go_simp; with_reducible rfl))
      try simp only [Act.put, List.setIfInBounds_toArray, List.set_cons_zero, List.set_cons_succ]
      refine wpAnyH_take (i := 25) (v := ?_) (by simp only [List.getElem?_toArray, List.getElem?_cons_succ, List.getElem?_cons_zero]; rfl) (by kernel_rfl) (by kernel_rfl) (by kernel_rfl) (by exact fun _ _ _ h => h) (Or.inl ⟨by rfl, ?_⟩) (by assumption) ?_; rotate_left; focus (intro w hSw; (try dsimp only at hSw); first | (go_simp; done) | (go_simp; with_reducible rfl))
      try simp only [Act.put, List.setIfInBounds_toArray, List.set_cons_zero, List.set_cons_succ]
      refine wpAnyH_take (i := 27) (v := ?_) (by simp only [List.getElem?_toArray, List.getElem?_cons_succ, List.getElem?_cons_zero]; rfl) (by kernel_rfl) (by kernel_rfl) (by kernel_rfl) (by exact fun _ _ _ h => h) (Or.inl ⟨by rfl, ?_⟩) (by assumption) ?_; rotate_left; focus (intro w hSw; (try dsimp only at hSw); first | (go_simp; done) | (go_simp; with_reducible rfl))
      try simp only [Act.put, List.setIfInBounds_toArray, List.set_cons_zero, List.set_cons_succ]
      refine wpAnyH_take (i := 28) (v := ?_) (by simp only [List.getElem?_toArray, List.getElem?_cons_succ, List.getElem?_cons_zero]; rfl) (by kernel_rfl) (by kernel_rfl) (by kernel_rfl) (by exact fun _ _ _ h => h) (Or.inl ⟨by rfl, ?_⟩) (by assumption) ?_; rotate_left; focus (intro w hSw; (try dsimp only at hSw); first | (go_simp; done) | (go_simp; with_reducible rfl))
      try simp only [Act.put, List.setIfInBounds_toArray, List.set_cons_zero, List.set_cons_succ]
      refine wpAnyH_ready (rs := [26]) (by kernel_rfl) (by simp) ?_
      refine AllReadyH.cons rfl (fun K hK => ?_) AllReadyH.nil
      rw [if_pos (by rfl)]
      go_simp
      go_at_call 19
      have kB := hHeld.2.2.2
      refine (implRouteMinutes _ _ d _ rt _ (R8.out.below kB.out) (SR8.out.below kB.out) RO.out.2.1).mono ?_
      rw [HM1.out]
      rintro e wq26 ⟨rfl, hbk⟩
      have HBK := kB.out.trans (hbk.mono kB.out.size)
      have QS := Lib.hid (show wq26.cell? ⟨w1.heap.size, 0, none⟩ = some (.slice A0 n0 k0) ∧ wq26.cell? ⟨w1.heap.size, 1, none⟩ = some (.slice A1 n1 k1) ∧ wq26.cell? ⟨gp, op + rl, none⟩ = some (.int .i64 (b : Int)) ∧ Hid (Below w8.heap.size w8 wq26) from ⟨cell_onV FX0.out HBK, cell_onV FX1.out HBK, cell_onV FPE.out HBK, Lib.hid HBK⟩)
      clear hbk kB hHeld HBK
      go_simp
      refine hK.out _ _ ?_ (fun hHeld => ?_)
      · (try dsimp only); exact QS.out
      clear hK K
      try simp only [Act.put, List.setIfInBounds_toArray, List.set_cons_zero, List.set_cons_succ]
      refine wpAnyH_ready (rs := [29]) (by kernel_rfl) (by simp) ?_
      refine AllReadyH.cons rfl (fun K hK => ?_) AllReadyH.nil
      rw [if_pos (by rfl)]
      go_simp
      go_at_call 19
      have kB := hHeld.2.2.2
      refine (implRouteMinutes _ _ d _ bt _ (R8.out.below kB.out) (SB8.out.below kB.out) RO.out.2.1).mono ?_
      rw [HMB.out]
      rintro e wq29 ⟨rfl, hbk⟩
      have HBK := kB.out.trans (hbk.mono kB.out.size)
      have QS := Lib.hid (show wq29.cell? ⟨w1.heap.size, 0, none⟩ = some (.slice A0 n0 k0) ∧ wq29.cell? ⟨w1.heap.size, 1, none⟩ = some (.slice A1 n1 k1) ∧ wq29.cell? ⟨gp, op + rl, none⟩ = some (.int .i64 (b : Int)) ∧ Hid (Below w8.heap.size w8 wq29) from ⟨cell_onV FX0.out HBK, cell_onV FX1.out HBK, cell_onV FPE.out HBK, Lib.hid HBK⟩)
      clear hbk kB hHeld HBK
      go_simp
      refine hK.out _ _ ?_ (fun hHeld => ?_)
      · (try dsimp only); exact QS.out
      clear hK K
      try simp only [Act.put, List.setIfInBounds_toArray, List.set_cons_zero, List.set_cons_succ]
      refine wpAnyH_take (i := 30) (v := ?_) (by simp only [List.getElem?_toArray, List.getElem?_cons_succ, List.getElem?_cons_zero]; rfl) (by kernel_rfl) (by kernel_rfl) (by kernel_rfl) (by exact fun _ _ _ h => h) (Or.inl ⟨by rfl, ?_⟩) (by assumption) ?_; rotate_left; focus (intro w hSw; (try dsimp only at hSw); first | (go_simp; done) | (go_simp; with_reducible rfl))
      try simp only [Act.put, List.setIfInBounds_toArray, List.set_cons_zero, List.set_cons_succ]
      refine wpAnyH_take (i := 31) (v := ?_) (by simp only [List.getElem?_toArray, List.getElem?_cons_succ, List.getElem?_cons_zero]; rfl) (by kernel_rfl) (by kernel_rfl) (by kernel_rfl) (by exact fun _ _ _ h => h) (Or.inl ⟨by rfl, ?_⟩) (by assumption) ?_; rotate_left; focus (intro w hSw; (try dsimp only at hSw); first | (go_simp; done) | (go_simp; with_reducible rfl))
      try simp only [Act.put, List.setIfInBounds_toArray, List.set_cons_zero, List.set_cons_succ]
      refine wpAnyH_done (by kernel_rfl) ?_ _
      go_wp2_with fail
      go_meet
      exact ⟨rfl, hHeld.2.2.2⟩
    case rest =>
      obtain ⟨rfl, hb9⟩ := hcut
      obtain ⟨w9, rfl⟩ : ∃ W, W = wc := ⟨_, rfl⟩
      clear DD vFX0 vFX1 vFPE hw1 hw2 hmd hmn hmle
      go_wp2_with fail
      go_loopw [102] (fun i wr => ∃ j : Nat, j ≤ rl ∧ i = .int .i64 j ∧ Hid (Below w8.heap.size w8 wr)) (fun i _ => rl - (intOf i).toNat)
      case atStart => exact ⟨0, Nat.zero_le _, rfl, hb9⟩
      case round =>
        obtain ⟨j, hj, rfl, hB9⟩ := hrel
        obtain ⟨wi, rfl⟩ : ∃ W, W = wr := ⟨_, rfl⟩
        by_cases hlj : j < rl
        rotate_left
        · obtain rfl : j = rl := by omega
          have BF := Lib.hid (BB8.out.trans (hB9.out.mono BB8.out.size))
          have hnext : IntKind.i64.wrap ((k : Int) + 1) = ((k + 1 : Nat) : Int) := by have := HLB.out; rw [IntKind.wrap_i64]; omega
          go_wp2
          go_roundw
          case rel => exact ⟨k + 1, by omega, rfl, BF⟩
          case measure => simp [intOf]; omega
        obtain ⟨s, hs⟩ : ∃ s, rt[j]? = some s := ⟨_, List.getElem?_eq_getElem (by rw [HRT.out]; exact hlj)⟩
        obtain ⟨p0, p1, hp0, hp1, hend, hseg⟩ := HST.out j s hs
        obtain ⟨gr, og, er, cr0⟩ : ∃ gr og, Ar = some ⟨gr, og, none⟩ ∧ w8.cell? ⟨gr, og + j, none⟩ = some (.int .i64 s) := by
          rcases SR8.out.2 with ⟨he, _⟩ | ⟨g, o, c', e, hp, hcap, hc⟩
          · rw [he] at hs; simp at hs
          · injection e with hA _ _
            exact ⟨g, o, hA, SlInt.cells hc j s hs⟩
        subst er
        obtain ⟨j1, hj1⟩ : ∃ j1, j + 1 = j1 := ⟨_, rfl⟩
        rw [hj1] at hp1
        have FP0 := Lib.hid (cell_onV (FPA.out j p0 hp0) hB9.out)
        have FP1 := Lib.hid (cell_onV (FPA.out j1 p1 hp1) hB9.out)
        have GX0 := Lib.hid (cell_onV FX0.out hB9.out)
        have GX1 := Lib.hid (cell_onV FX1.out hB9.out)
        have cr1 := cell_onV cr0 hB9.out
        have HEND := Lib.hid hend
        have HSEG := Lib.hid hseg
        have RI := Lib.hid (R8.out.below hB9.out)
        have hw3 : IntKind.i64.wrap ((j : Int) + 1) = (j1 : Int) := by have := HRL.out; rw [IntKind.wrap_i64]; omega
        have hj1p : j1 < pl := by have := HPP.out; omega
        have hjp : j < pl := by omega
        clear hs hp0 hp1 hend hseg cr0
        go_upto_region 20 with fail
        have DD := Lib.hid ((Below.refl wi.heap.size wi).drew)
        have vGX0 := GX0.out
        have vGX1 := GX1.out
        have vFP0 := FP0.out
        have vFP1 := FP1.out
        go_cut [134] (fun s wx => s = .bool false ∧ Hid (Below wi.heap.size wi wx))
        case first =>
          refine wp_region_held_drew (S := (fun w' => w'.cell? ⟨w1.heap.size, 0, none⟩ = some (.slice A0 n0 k0) ∧ w'.cell? ⟨w1.heap.size, 1, none⟩ = some (.slice A1 n1 k1) ∧ w'.cell? ⟨gp, op + j, none⟩ = some (.int .i64 p0) ∧ w'.cell? ⟨gp, op + j1, none⟩ = some (.int .i64 p1) ∧ Hid (Below wi.heap.size wi w'))) (by kernel_rfl) ?_ (fun hHeld => ?_)
          · (try dsimp only); go_keep
          refine wpAnyH_take (i := 0) (v := ?_) (by simp only [List.getElem?_toArray, List.getElem?_cons_zero]; rfl) (by kernel_rfl) (by kernel_rfl) (by kernel_rfl) (by exact fun _ _ _ h => h) (Or.inl ⟨by rfl, ?_⟩) (by assumption) ?_; rotate_left; focus (intro w hSw; (try dsimp only at hSw); first | (go_simp; done) | (go_simp; with_reducible rfl))
          try simp only [Act.put, List.setIfInBounds_toArray, List.set_cons_zero, List.set_cons_succ]
          refine wpAnyH_take (i := 1) (v := ?_) (by simp only [List.getElem?_toArray, List.getElem?_cons_succ, List.getElem?_cons_zero]; rfl) (by kernel_rfl) (by kernel_rfl) (by kernel_rfl) (by exact fun _ _ _ h => h) (Or.inl ⟨by rfl, ?_⟩) (by assumption) ?_; rotate_left; focus (intro w hSw; (try dsimp only at hSw); first | (go_simp; done) | (go_simp; with_reducible rfl))
          try simp only [Act.put, List.setIfInBounds_toArray, List.set_cons_zero, List.set_cons_succ]
          refine wpAnyH_take (i := 2) (v := ?_) (by simp only [List.getElem?_toArray, List.getElem?_cons_succ, List.getElem?_cons_zero]; rfl) (by kernel_rfl) (by kernel_rfl) (by kernel_rfl) (by exact fun _ _ _ h => h) (Or.inl ⟨by rfl, ?_⟩) (by assumption) ?_; rotate_left; focus (intro w hSw; (try dsimp only at hSw); first | (go_simp; done) | (go_simp; with_reducible rfl))
          try simp only [Act.put, List.setIfInBounds_toArray, List.set_cons_zero, List.set_cons_succ]
          refine wpAnyH_take (i := 3) (v := ?_) (by simp only [List.getElem?_toArray, List.getElem?_cons_succ, List.getElem?_cons_zero]; rfl) (by kernel_rfl) (by kernel_rfl) (by kernel_rfl) (by exact fun _ _ _ h => h) (Or.inl ⟨by rfl, ?_⟩) (by assumption) ?_; rotate_left; focus (intro w hSw; (try dsimp only at hSw); first | (go_simp; done) | (go_simp; with_reducible rfl))
          try simp only [Act.put, List.setIfInBounds_toArray, List.set_cons_zero, List.set_cons_succ]
          refine wpAnyH_take (i := 4) (v := ?_) (by simp only [List.getElem?_toArray, List.getElem?_cons_succ, List.getElem?_cons_zero]; rfl) (by kernel_rfl) (by kernel_rfl) (by kernel_rfl) (by exact fun _ _ _ h => h) (Or.inl ⟨by rfl, ?_⟩) (by assumption) ?_; rotate_left; focus (intro w hSw; (try dsimp only at hSw); first | (go_simp; done) | (go_simp; with_reducible rfl))
          try simp only [Act.put, List.setIfInBounds_toArray, List.set_cons_zero, List.set_cons_succ]
          refine wpAnyH_take (i := 5) (v := ?_) (by simp only [List.getElem?_toArray, List.getElem?_cons_succ, List.getElem?_cons_zero]; rfl) (by kernel_rfl) (by kernel_rfl) (by kernel_rfl) (by exact fun _ _ _ h => h) (Or.inl ⟨by rfl, ?_⟩) (by assumption) ?_; rotate_left; focus (intro w hSw; (try dsimp only at hSw); first | (go_simp; done) | (go_simp; with_reducible rfl))
          try simp only [Act.put, List.setIfInBounds_toArray, List.set_cons_zero, List.set_cons_succ]
          refine wpAnyH_take (i := 7) (v := ?_) (by simp only [List.getElem?_toArray, List.getElem?_cons_succ, List.getElem?_cons_zero]; rfl) (by kernel_rfl) (by kernel_rfl) (by kernel_rfl) (by exact fun _ _ _ h => h) (Or.inl ⟨by rfl, ?_⟩) (by assumption) ?_; rotate_left; focus (intro w hSw; (try dsimp only at hSw); first | (go_simp; done) | (go_simp; with_reducible rfl))
          try simp only [Act.put, List.setIfInBounds_toArray, List.set_cons_zero, List.set_cons_succ]
          refine wpAnyH_take (i := 8) (v := ?_) (by simp only [List.getElem?_toArray, List.getElem?_cons_succ, List.getElem?_cons_zero]; rfl) (by kernel_rfl) (by kernel_rfl) (by kernel_rfl) (by exact fun _ _ _ h => h) (Or.inl ⟨by rfl, ?_⟩) (by assumption) ?_; rotate_left; focus (intro w hSw; (try dsimp only at hSw); first | (go_simp; done) | (go_simp; with_reducible rfl))
          try simp only [Act.put, List.setIfInBounds_toArray, List.set_cons_zero, List.set_cons_succ]
          refine wpAnyH_take (i := 9) (v := ?_) (by simp only [List.getElem?_toArray, List.getElem?_cons_succ, List.getElem?_cons_zero]; rfl) (by kernel_rfl) (by kernel_rfl) (by kernel_rfl) (by exact fun _ _ _ h => h) (Or.inl ⟨by rfl, ?_⟩) (by assumption) ?_; rotate_left; focus (intro w hSw; (try dsimp only at hSw); first | (go_simp; done) | (go_simp; with_reducible rfl))
          try simp only [Act.put, List.setIfInBounds_toArray, List.set_cons_zero, List.set_cons_succ]
          refine wpAnyH_take (i := 10) (v := ?_) (by simp only [List.getElem?_toArray, List.getElem?_cons_succ, List.getElem?_cons_zero]; rfl) (by kernel_rfl) (by kernel_rfl) (by kernel_rfl) (by exact fun _ _ _ h => h) (Or.inl ⟨by rfl, ?_⟩) (by assumption) ?_; rotate_left; focus (intro w hSw; (try dsimp only at hSw); first | (go_simp; done) | (go_simp; with_reducible rfl))
          try simp only [Act.put, List.setIfInBounds_toArray, List.set_cons_zero, List.set_cons_succ]
          refine wpAnyH_take (i := 11) (v := ?_) (by simp only [List.getElem?_toArray, List.getElem?_cons_succ, List.getElem?_cons_zero]; rfl) (by kernel_rfl) (by kernel_rfl) (by kernel_rfl) (by exact fun _ _ _ h => h) (Or.inl ⟨by rfl, ?_⟩) (by assumption) ?_; rotate_left; focus (intro w hSw; (try dsimp only at hSw); first | (go_simp; done) | (go_simp; with_reducible rfl))
          try simp only [Act.put, List.setIfInBounds_toArray, List.set_cons_zero, List.set_cons_succ]
          refine wpAnyH_ready (rs := [6]) (by kernel_rfl) (by simp) ?_
          refine AllReadyH.cons rfl (fun K hK => ?_) AllReadyH.nil
          rw [if_pos (by rfl)]
          go_simp
          go_at_call 20
          have kB := hHeld.2.2.2.2
          refine (implOtherEnd _ _ d s p0 _ (RI.out.below kB.out) RO.out.2.1).mono ?_
          rw [HEND.out]
          rintro e wq6 ⟨rfl, hbk⟩
          have HBK := kB.out.trans (hbk.mono kB.out.size)
          have QS := Lib.hid (show wq6.cell? ⟨w1.heap.size, 0, none⟩ = some (.slice A0 n0 k0) ∧ wq6.cell? ⟨w1.heap.size, 1, none⟩ = some (.slice A1 n1 k1) ∧ wq6.cell? ⟨gp, op + j, none⟩ = some (.int .i64 p0) ∧ wq6.cell? ⟨gp, op + j1, none⟩ = some (.int .i64 p1) ∧ Hid (Below wi.heap.size wi wq6) from ⟨cell_onV GX0.out HBK, cell_onV GX1.out HBK, cell_onV FP0.out HBK, cell_onV FP1.out HBK, Lib.hid HBK⟩)
          clear hbk kB hHeld HBK
          go_simp
          refine hK.out _ _ ?_ (fun hHeld => ?_)
          · (try dsimp only); exact QS.out
          clear hK K
          try simp only [Act.put, List.setIfInBounds_toArray, List.set_cons_zero, List.set_cons_succ]
          refine wpAnyH_take (i := 12) (v := ?_) (by simp only [List.getElem?_toArray, List.getElem?_cons_succ, List.getElem?_cons_zero]; rfl) (by kernel_rfl) (by kernel_rfl) (by kernel_rfl) (by exact fun _ _ _ h => h) (Or.inl ⟨by rfl, ?_⟩) (by assumption) ?_; rotate_left; focus (intro w hSw; (try dsimp only at hSw); first | (go_simp; done) | (go_simp; with_reducible rfl))
          try simp only [Act.put, List.setIfInBounds_toArray, List.set_cons_zero, List.set_cons_succ]
          refine wpAnyH_take (i := 13) (v := ?_) (by simp only [List.getElem?_toArray, List.getElem?_cons_succ, List.getElem?_cons_zero]; rfl) (by kernel_rfl) (by kernel_rfl) (by kernel_rfl) (by exact fun _ _ _ h => h) (Or.inl ⟨by rfl, ?_⟩) (by assumption) ?_; rotate_left; focus (intro w hSw; (try dsimp only at hSw); first | (go_simp; done) | (go_simp; with_reducible rfl))
          try simp only [Act.put, List.setIfInBounds_toArray, List.set_cons_zero, List.set_cons_succ]
          refine wpAnyH_take (i := 14) (v := ?_) (by simp only [List.getElem?_toArray, List.getElem?_cons_succ, List.getElem?_cons_zero]; rfl) (by kernel_rfl) (by kernel_rfl) (by kernel_rfl) (by exact fun _ _ _ h => h) (Or.inl ⟨by rfl, ?_⟩) (by assumption) ?_; rotate_left; focus (intro w hSw; (try dsimp only at hSw); first | (go_simp; done) | (go_simp; with_reducible rfl))
          try simp only [Act.put, List.setIfInBounds_toArray, List.set_cons_zero, List.set_cons_succ]
          refine wpAnyH_take (i := 15) (v := ?_) (by simp only [List.getElem?_toArray, List.getElem?_cons_succ, List.getElem?_cons_zero]; rfl) (by kernel_rfl) (by kernel_rfl) (by kernel_rfl) (by exact fun _ _ _ h => h) (Or.inl ⟨by rfl, ?_⟩) (by assumption) ?_; rotate_left; focus (intro w hSw; (try dsimp only at hSw); first | (go_simp; done) | (go_simp; with_reducible rfl))
          try simp only [Act.put, List.setIfInBounds_toArray, List.set_cons_zero, List.set_cons_succ]
          refine wpAnyH_take (i := 16) (v := ?_) (by simp only [List.getElem?_toArray, List.getElem?_cons_succ, List.getElem?_cons_zero]; rfl) (by kernel_rfl) (by kernel_rfl) (by kernel_rfl) (by exact fun _ _ _ h => h) (Or.inl ⟨by rfl, ?_⟩) (by assumption) ?_; rotate_left; focus (intro w hSw; (try dsimp only at hSw); first | (go_simp; done) | (go_simp; with_reducible rfl))
          try simp only [Act.put, List.setIfInBounds_toArray, List.set_cons_zero, List.set_cons_succ]
          refine wpAnyH_take (i := 17) (v := ?_) (by simp only [List.getElem?_toArray, List.getElem?_cons_succ, List.getElem?_cons_zero]; rfl) (by kernel_rfl) (by kernel_rfl) (by kernel_rfl) (by exact fun _ _ _ h => h) (Or.inl ⟨by rfl, ?_⟩) (by assumption) ?_; rotate_left; focus (intro w hSw; (try dsimp only at hSw); first | (go_simp; done) | (go_simp; with_reducible rfl))
          try simp only [Act.put, List.setIfInBounds_toArray, List.set_cons_zero, List.set_cons_succ]
          refine wpAnyH_take (i := 18) (v := ?_) (by simp only [List.getElem?_toArray, List.getElem?_cons_succ, List.getElem?_cons_zero]; rfl) (by kernel_rfl) (by kernel_rfl) (by kernel_rfl) (by exact fun _ _ _ h => h) (Or.inl ⟨by rfl, ?_⟩) (by assumption) ?_; rotate_left; focus (intro w hSw; (try dsimp only at hSw); first | (go_simp; done) | (go_simp; with_reducible rfl))
          try simp only [Act.put, List.setIfInBounds_toArray, List.set_cons_zero, List.set_cons_succ]
          refine wpAnyH_take (i := 19) (v := ?_) (by simp only [List.getElem?_toArray, List.getElem?_cons_succ, List.getElem?_cons_zero]; rfl) (by kernel_rfl) (by kernel_rfl) (by kernel_rfl) (by exact fun _ _ _ h => h) (Or.inl ⟨by rfl, ?_⟩) (by assumption) ?_; rotate_left; focus (intro w hSw; (try dsimp only at hSw); first | (go_simp; done) | (go_simp; with_reducible rfl))
          try simp only [Act.put, List.setIfInBounds_toArray, List.set_cons_zero, List.set_cons_succ]
          refine wpAnyH_take (i := 20) (v := ?_) (by simp only [List.getElem?_toArray, List.getElem?_cons_succ, List.getElem?_cons_zero]; rfl) (by kernel_rfl) (by kernel_rfl) (by kernel_rfl) (by exact fun _ _ _ h => h) (Or.inl ⟨by rfl, ?_⟩) (by assumption) ?_; rotate_left; focus (intro w hSw; (try dsimp only at hSw); first | (go_simp; done) | (go_simp; with_reducible rfl))
          try simp only [Act.put, List.setIfInBounds_toArray, List.set_cons_zero, List.set_cons_succ]
          refine wpAnyH_take (i := 21) (v := ?_) (by simp only [List.getElem?_toArray, List.getElem?_cons_succ, List.getElem?_cons_zero]; rfl) (by kernel_rfl) (by kernel_rfl) (by kernel_rfl) (by exact fun _ _ _ h => h) (Or.inl ⟨by rfl, ?_⟩) (by assumption) ?_; rotate_left; focus (intro w hSw; (try dsimp only at hSw); first | (go_simp; done) | (go_simp; with_reducible rfl))
          try simp only [Act.put, List.setIfInBounds_toArray, List.set_cons_zero, List.set_cons_succ]
          refine wpAnyH_take (i := 22) (v := ?_) (by simp only [List.getElem?_toArray, List.getElem?_cons_succ, List.getElem?_cons_zero]; rfl) (by kernel_rfl) (by kernel_rfl) (by kernel_rfl) (by exact fun _ _ _ h => h) (Or.inl ⟨by rfl, ?_⟩) (by assumption) ?_; rotate_left; focus (intro w hSw; (try dsimp only at hSw); first | (go_simp; done) | (go_simp; with_reducible rfl))
          try simp only [Act.put, List.setIfInBounds_toArray, List.set_cons_zero, List.set_cons_succ]
          refine wpAnyH_take (i := 23) (v := ?_) (by simp only [List.getElem?_toArray, List.getElem?_cons_succ, List.getElem?_cons_zero]; rfl) (by kernel_rfl) (by kernel_rfl) (by kernel_rfl) (by exact fun _ _ _ h => h) (Or.inl ⟨by rfl, ?_⟩) (by assumption) ?_; rotate_left; focus (intro w hSw; (try dsimp only at hSw); first | (go_simp; done) | (go_simp; with_reducible rfl))
          try simp only [Act.put, List.setIfInBounds_toArray, List.set_cons_zero, List.set_cons_succ]
          refine wpAnyH_take (i := 25) (v := ?_) (by simp only [List.getElem?_toArray, List.getElem?_cons_succ, List.getElem?_cons_zero]; rfl) (by kernel_rfl) (by kernel_rfl) (by kernel_rfl) (by exact fun _ _ _ h => h) (Or.inl ⟨by rfl, ?_⟩) (by assumption) ?_; rotate_left; focus (intro w hSw; (try dsimp only at hSw); first | (go_simp; done) | (go_simp; with_reducible rfl))
          try simp only [Act.put, List.setIfInBounds_toArray, List.set_cons_zero, List.set_cons_succ]
          refine wpAnyH_ready (rs := [24]) (by kernel_rfl) (by simp) ?_
          refine AllReadyH.cons rfl (fun K hK => ?_) AllReadyH.nil
          rw [if_pos (by rfl)]
          go_simp
          go_at_call 21
          have kB := hHeld.2.2.2.2
          refine (implSegmentOf _ _ d p1 p0 _ (RI.out.below kB.out) RO.out.2.1).mono ?_
          rw [HSEG.out]
          rintro e wq24 ⟨rfl, hbk⟩
          have HBK := kB.out.trans (hbk.mono kB.out.size)
          have QS := Lib.hid (show wq24.cell? ⟨w1.heap.size, 0, none⟩ = some (.slice A0 n0 k0) ∧ wq24.cell? ⟨w1.heap.size, 1, none⟩ = some (.slice A1 n1 k1) ∧ wq24.cell? ⟨gp, op + j, none⟩ = some (.int .i64 p0) ∧ wq24.cell? ⟨gp, op + j1, none⟩ = some (.int .i64 p1) ∧ Hid (Below wi.heap.size wi wq24) from ⟨cell_onV GX0.out HBK, cell_onV GX1.out HBK, cell_onV FP0.out HBK, cell_onV FP1.out HBK, Lib.hid HBK⟩)
          clear hbk kB hHeld HBK
          go_simp
          refine hK.out _ _ ?_ (fun hHeld => ?_)
          · (try dsimp only); exact QS.out
          clear hK K
          try simp only [Act.put, List.setIfInBounds_toArray, List.set_cons_zero, List.set_cons_succ]
          refine wpAnyH_take (i := 26) (v := ?_) (by simp only [List.getElem?_toArray, List.getElem?_cons_succ, List.getElem?_cons_zero]; rfl) (by kernel_rfl) (by kernel_rfl) (by kernel_rfl) (by exact fun _ _ _ h => h) (Or.inl ⟨by rfl, ?_⟩) (by assumption) ?_; rotate_left; focus (intro w hSw; (try dsimp only at hSw); first | (go_simp; done) | (go_simp; with_reducible rfl))
          try simp only [Act.put, List.setIfInBounds_toArray, List.set_cons_zero, List.set_cons_succ]
          refine wpAnyH_take (i := 27) (v := ?_) (by simp only [List.getElem?_toArray, List.getElem?_cons_succ, List.getElem?_cons_zero]; rfl) (by kernel_rfl) (by kernel_rfl) (by kernel_rfl) (by exact fun _ _ _ h => h) (Or.inl ⟨by rfl, ?_⟩) (by assumption) ?_; rotate_left; focus (intro w hSw; (try dsimp only at hSw); first | (go_simp; done) | (go_simp; with_reducible rfl))
          try simp only [Act.put, List.setIfInBounds_toArray, List.set_cons_zero, List.set_cons_succ]
          refine wpAnyH_done (by kernel_rfl) ?_ _
          go_wp2_with fail
          go_meet
          exact ⟨rfl, hHeld.2.2.2.2⟩
        case rest =>
          obtain ⟨rfl, hb10⟩ := hcut
          have B10 := Lib.hid (hB9.out.trans (hb10.out.mono hB9.out.size))
          clear DD hb10 vGX0 vGX1 vFP0 vFP1
          go_wp2
          go_roundw
          case rel => exact ⟨j1, by omega, rfl, B10⟩
          case measure => simp [intOf]; omega
set_option maxRecDepth 100000 in
theorem lifted (os : Os) (started : os.Started) (H : Type) (enc : TypeId × Value → H) :
    ReturnsInHanded {} Try.checked os 3 .any (Rows.fnRoutesSpec.pre6 enc Try.prog Try.f3 Rows.fnRoutesRow.domain false) (Rows.fnRoutesSpec.post enc Try.prog Try.f3 false true false false) := by
  refine returnsInHanded_of_change (C := Try.checked) own started (by kernel_rfl) Try.func3
    (ChangeSpec.witness6 (enc := enc) (C := Try.checked) false ⟨#[], #[.slice none 0 0], []⟩ 8 (by kernel_rfl) (by kernel_rfl) (by kernel_rfl) (by kernel_rfl)) ?_
  intro W base args ds gs before hval0 hW _ _
  have hval : ∀ (j : Nat) t v, Try.f3.params[j]? = some t → args[j]? = some v → Value.okWide Try.prog W .any base t v := hval0
  have hW' := hW
  obtain ⟨p, q, hA0, hV, rfl, _, _⟩ := hW
  have hA : DataW.TrodAll enc Try.prog W 0 (fun _ => true) true Try.f3.params.toList args.toList ds p := hA0
  rw [Try.params3] at hA hval
  obtain ⟨v0, vs0, d0, ds0, p0, q0, hargs, rfl, rfl, h0, r0⟩ := trodAll_cons hA
  obtain ⟨rfl, rfl, rfl⟩ := trodAll_nil r0
  obtain rfl : args = #[v0] := by cases args; simp_all
  obtain ⟨A0, n0, c0, rfl, g0⟩ := open_code_arg (hval 0 22 v0 rfl rfl) h0
  refine (law A0 n0 c0 W g0).mono fun e W' ⟨he, hb⟩ => ⟨_, he, ?_⟩
  exact law_post laidOut (by kernel_rfl) rfl (by kernel_rfl) Try.underlying4 rfl rfl rfl hW' hb

theorem holds : Rows.FnRoutesSaid :=
  OpenClaim.holds_of_wide 3 Try.f3 rfl rfl rfl rfl rfl rfl rfl ⟨rfl, rfl, rfl, rfl, rfl⟩ rfl rfl rfl rfl rfl (by kernel_rfl) Try.func3 (by kernel_rfl)
    (of_decide_eq_true (by kernel_rfl)) (by unfold Func.isWrapper; first | (rw [if_pos (by decide +kernel)]; kernel_rfl) | (rw [if_neg (by decide +kernel)]; exact ⟨rfl, rfl⟩))
    (fun os started H enc _ => lifted os started H enc)

end Go.Proofs.Ytgjappjlnkdpnaa.lawRoutes

