
/- What LocksLaw rests on, part 8: contracts and mathematics. -/
import Derived.Test.YtlddampjbmklkaaLkTk
import Derived.Test.YtlddampjbmklkaaLk4
import Derived.Test.YtlddampjbmklkaaLk5
import Derived.Test.YtlddampjbmklkaaLk2
import Derived.Test.YtlddampjbmklkaaLk1
import Derived.StillTailTactics
import Derived.Deep.DeepCutAuto
namespace Go.Proofs.Ytlddampjbmklkaa
open Go.RowKit
set_option maxRecDepth 100000
@[reducible] def rowI (us : List Int) : Array Value := (us.map (Value.int .i64)).toArray
theorem rowI_at {us : List Int} {j : Nat} (h : j < us.length) : (rowI us)[j]? = some (.int .i64 (us.getD j 0)) := by simp [rowI, List.getD, h]
theorem rowI_set (us : List Int) (j : Nat) (x : Int) : (rowI us).setIfInBounds j (.int .i64 x) = rowI (us.set j x) := by simp [rowI, List.map_set]
theorem set_back {us : List Int} {j : Nat} (x : Int) (h : j < us.length) : (us.set j x).set j (us.getD j 0) = us := by
  rw [List.set_set]
  have : us.getD j 0 = us[j] := by simp [List.getD, h]
  rw [this, List.set_getElem_self]
/-- A row that holds again what it held: below it all is as it was. -/
theorem below_row {w w1 w2 : World} {g j : Nat} {cs : Array Value} {t : TypeId} {u : Value} (hb : Blk w g cs t) (h2 : Below (w.setCell ⟨g, j, none⟩ u).heap.size (w.setCell ⟨g, j, none⟩ u) w1) (v : Value) (hv : Blk (w1.setCell ⟨g, j, none⟩ v) g cs t) (he : w2 = w1.setCell ⟨g, j, none⟩ v) : Below w.heap.size w w2 := by
  subst he
  have hz : (w.setCell ⟨g, j, none⟩ u).heap.size = w.heap.size := World.size_setCell _ _ _
  have h3 : w.grownBy (w1.setCell ⟨g, j, none⟩ v) (some g) := by
    have a := grown_set1 w g j u
    have b := grown_of_below h2 (some g)
    have c := grown_set1 w1 g j v
    exact grown_trans (grown_trans a b) c
  refine ⟨h3.os, h3.tape, h3.output, h3.size, fun k hk => ?_⟩
  by_cases e : k = g
  · subst e; exact hv.trans hb.symm
  · exact h3.block k hk (by simpa using e)
def resI (k : ChamberD) (l : List Int) (i : Nat) (us : List Int) : Option (List Int) := packR k.length k.lanes.toNat (l.drop i) us
def PackAt (k : ChamberD) (l : List Int) (f : Nat) : Prop :=
  ∀ (i : Nat) (us pre : List Int) (yl yp : Value) (gu base cu : Nat) (w : World), l.length = i + f → us.length = k.lanes.toNat → (∀ j, j < k.lanes.toNat → 0 ≤ us.getD j 0 ∧ us.getD j 0 ≤ k.length) → pre.length = i → SlInt w yl l → (l ≠ [] → yl.ownBlock ≠ some gu) →
    OwnInt w base yp pre → yp.ownBlock ≠ some gu → base ≤ w.heap.size → Blk w gu (rowI us) 3 →
    Calls Try.prog 80 #[k.val, yl, .int .i64 (i : Int), .slice (some ⟨gu, 0, none⟩) k.lanes.toNat cu, yp] w fun e w' => ∃ v, e = .returned (.tuple #[v, .bool (resI k l i us).isSome]) ∧ OwnInt w' base v (((resI k l i us).map (pre ++ ·)).getD []) ∧ Below w.heap.size w w'
theorem resI_end {k : ChamberD} {l : List Int} {i : Nat} {us : List Int} (h : l.length = i) : resI k l i us = some [] := by unfold resI; rw [List.drop_eq_nil_of_le (by omega)]; rfl
theorem resI_go {k : ChamberD} {l : List Int} {i : Nat} {us : List Int} {x : Int} (h : l[i]? = some x) : resI k l i us = laneR k.length x us (packR k.length k.lanes.toNat (l.drop (i + 1))) 0 k.lanes.toNat := by
  obtain ⟨hi, e⟩ := List.getElem?_eq_some_iff.1 h
  unfold resI
  rw [List.drop_eq_getElem_cons hi, e]
  rfl
theorem laneR_over {L n : Int} {us : List Int} {rest : List Int → Option (List Int)} {j m : Nat} (h : ¬ us.getD j 0 + n ≤ L) : laneR L n us rest j (m + 1) = laneR L n us rest (j + 1) m := by
  conv => lhs; unfold laneR
  rw [if_neg h]
theorem laneR_no {L n : Int} {us : List Int} {rest : List Int → Option (List Int)} {j m : Nat} (h : us.getD j 0 + n ≤ L) (hr : rest (us.set j (us.getD j 0 + n)) = none) : laneR L n us rest j (m + 1) = laneR L n us rest (j + 1) m := by
  conv => lhs; unfold laneR
  rw [if_pos h, hr]
theorem laneR_yes {L n : Int} {us : List Int} {rest : List Int → Option (List Int)} {j m : Nat} {out : List Int} (h : us.getD j 0 + n ≤ L) (hr : rest (us.set j (us.getD j 0 + n)) = some out) : laneR L n us rest j (m + 1) = some ((j : Int) :: out) := by
  unfold laneR
  rw [if_pos h, hr]
set_option maxHeartbeats 16000000 in
theorem packStep (k : ChamberD) (hcb : chamB k = true) (l : List Int) (hlb : lensB l = true) (f0 : Nat) (ih0 : ∀ f, f0 = f + 1 → PackAt k l f) : PackAt k l f0 := by
  intro i us pre yl yp gu base cu w hlen husl husb hpl hl hlg hp hpg hbw hbk
  obtain ⟨kl0, kl1, ka0, ka1, -, -⟩ := chamB_true hcb
  have hl8 := lensB_len hlb
  obtain ⟨n, hn⟩ : ∃ n, k.lanes.toNat = n := ⟨_, rfl⟩
  have hkn : k.lanes = (n : Int) := by omega
  have hn3 : n ≤ 3 := by omega
  rw [hn] at husl husb ⊢
  have HIH := Lib.hid ih0
  have HKN := Lib.hid hkn
  have HN := Lib.hid hn
  have HLEN := Lib.hid hlen
  have HUSL := Lib.hid husl
  have HUSB := Lib.hid husb
  have HPL := Lib.hid hpl
  have HLG := Lib.hid hlg
  have HPG := Lib.hid hpg
  have HLB := Lib.hid hlb
  have HCB := Lib.hid hcb
  have hb0 := Joins.below_alloc1 w (.cells #[.int .i64 k.length, .int .i64 k.lanes, .int .i64 k.minutes] 24)
  have K0 := Blk.new w #[.int .i64 k.length, .int .i64 k.lanes, .int .i64 k.minutes] 24
  obtain ⟨W0, hW0⟩ : ∃ W, W = w.alloc (.cells #[.int .i64 k.length, .int .i64 k.lanes, .int .i64 k.minutes] 24) := ⟨_, rfl⟩
  rw [← hW0] at hb0 K0
  have B := Lib.hid hb0
  have KC := Lib.hid K0
  have HW0 := Lib.hid hW0
  have RL := Lib.hid (SlOf.below hl hb0)
  have OP := Lib.hid (own_below hp hb0)
  have KU := Lib.hid (hbk.below hb0)
  have hgl : gu < w.heap.size := hbk.lt
  have hs0 := hb0.size
  obtain ⟨Al, cl, rfl⟩ := SlOf.form hl
  obtain ⟨Ap, cp, rfl⟩ := own_form hp
  have HP0 := Lib.hid hp
  obtain ⟨m, hm⟩ : ∃ m, l.length = m := ⟨_, rfl⟩
  have HM := Lib.hid hm
  obtain ⟨q, hq⟩ : ∃ q, pre.length = q := ⟨_, rfl⟩
  have HQ := Lib.hid hq
  rw [hm, hq]
  have HIM := Lib.hid (show m = i + f0 by omega)
  have hm8 : m ≤ 8 := by omega
  clear hlen husl husb hpl hlg hpg hlb hcb hb0 K0 hW0 hl hp hbk hm hq hkn hn ih0
  by_cases hf : f0 = 0
  · subst hf
    have E := Lib.hid (resI_end (k := k) (us := us) (show l.length = i by have := HM.out; have := HIM.out; omega))
    have him' : m = i := by have := HIM.out; omega
    subst him'
    go_enter Try.func80, Try.ntmps80
    go_wp2
    refine bodyPost_ret (v := .tuple #[.slice Ap q cp, .bool true]) (by simp [results, Try.results80, go_sem]) rfl ⟨.slice Ap q cp, by rw [E.out]; rfl, ?_, by rw [← HW0.out]; exact B.out⟩
    rw [E.out, ← HW0.out, ← HQ.out]
    show OwnInt W0 base _ (pre ++ [])
    rw [List.append_nil]
    exact OP.out
  obtain ⟨f, rfl⟩ : ∃ f, f0 = f + 1 := ⟨f0 - 1, by omega⟩
  have hil : i < m := by have := HIM.out; omega
  have hie : ((i : Int) == (m : Int)) = false := by simp; omega
  obtain ⟨x, hx⟩ : ∃ x, l[i]? = some x := ⟨_, List.getElem?_eq_getElem (by have := HM.out; omega)⟩
  obtain ⟨x1, x2⟩ := lensB_at HLB.out hx
  have E0 := Lib.hid (resI_go (k := k) (us := us) hx)
  have HX := Lib.hid hx
  rcases RL.out.2 with ⟨he, _⟩ | ⟨gl, ol, cl', e, lpos, lcap, lc⟩
  · rw [he] at hx; simp at hx
  injection e with hA' hll hcp'
  subst hA' hcp'
  clear hll
  have ycell := SlInt.cells lc i x hx
  have YL := Lib.hid ycell
  have hgne : gl ≠ gu := fun e => HLG.out (fun h0 => by rw [h0] at hx; simp at hx) (by subst e; rfl)
  clear hx lc ycell lpos lcap
  have rr := E0.out
  obtain ⟨R, hR⟩ : ∃ R, packR k.length k.lanes.toNat (l.drop (i + 1)) = R := ⟨_, rfl⟩
  rw [hR, HN.out] at rr
  have E1 := Lib.hid rr
  have HR := Lib.hid hR
  clear rr hR E0 hf
  go_enter Try.func80, Try.ntmps80
  go_wp2
  rw [← HW0.out]
  go_loopw [12] (fun t wr => ∃ j : Nat, j ≤ n ∧ t = .int .i64 (j : Int) ∧ Hid (resI k l i us = laneR k.length x us R j (n - j)) ∧ Hid (Below W0.heap.size W0 wr)) (fun t _ => n - (intOf t).toNat)
  case atStart => exact ⟨0, Nat.zero_le _, rfl, E1, Lib.hid (Below.refl _ _)⟩
  case round =>
    obtain ⟨j, hj, rfl, hE, hb⟩ := hrel
    have BR := Lib.hid (B.out.trans (hb.out.mono B.out.size))
    have KCr := Lib.hid (KC.out.below hb.out)
    have KUr := Lib.hid (KU.out.below hb.out)
    have YLr := Lib.hid (cell_onV YL.out hb.out)
    have hzr := hb.out.size
    have c0 : wr.cell? ⟨w.heap.size, 0, none⟩ = some (.int .i64 k.length) := KCr.out.cell 0
    have c1 : wr.cell? ⟨w.heap.size, 1, none⟩ = some (.int .i64 (n : Int)) := by rw [← HKN.out]; exact KCr.out.cell 1
    by_cases hjn : j < n
    rotate_left
    · obtain rfl : j = n := by omega
      have E := Lib.hid (show resI k l i us = none by rw [hE.out, Nat.sub_self]; rfl)
      have hjn' : decide ((j : Int) < (j : Int)) = false := decide_eq_false (by omega)
      go_wp2
      refine bodyPost_ret (v := .tuple #[.slice none 0 0, .bool false]) (by simp [results, Try.results80, go_sem]) rfl ⟨.slice none 0 0, by rw [E.out]; rfl, ?_, BR.out⟩
      rw [E.out]
      exact World.ownsRow_nil _ _ _ _
    obtain ⟨u, hu⟩ : ∃ u, us.getD j 0 = u := ⟨_, rfl⟩
    have hub := HUSB.out j hjn
    rw [hu] at hub
    obtain ⟨u0, u1⟩ := hub
    have HU := Lib.hid hu
    have yu : wr.cell? ⟨gu, j, none⟩ = some (.int .i64 u) := by rw [← HU.out]; exact (KUr.out.cell j).trans (rowI_at (by have := HUSL.out; omega))
    have wux : IntKind.i64.wrap (u + x) = u + x := by rw [IntKind.wrap_i64]; omega
    have hjni : (j : Int) < (n : Int) := by omega
    have hu' := hu
    obtain ⟨mj, hmj⟩ : ∃ mj, n - j = mj + 1 := ⟨n - j - 1, by omega⟩
    have hmj' : n - (j + 1) = mj := by omega
    have HMJ := Lib.hid hmj
    have HMJ' := Lib.hid hmj'
    have HJN := Lib.hid hjn
    clear hmj hmj'
    have yl := YLr.out
    have F0 := Lib.hid (show wr.cell? ⟨w.heap.size, 0, none⟩ = some (.int .i64 k.length) from c0)
    have F1 := Lib.hid (show wr.cell? ⟨gu, j, none⟩ = some (.int .i64 u) from yu)
    have F2 := Lib.hid (show wr.cell? ⟨gl, ol + i, none⟩ = some (.int .i64 x) from yl)
    clear hu hu'
    go_upto_region 6 with fail
    have DD := Lib.hid ((Below.refl wr.heap.size wr).drew)
    refine wp_region_held_drew (S := (fun w' => w'.cell? ⟨w.heap.size, 0, none⟩ = some (.int .i64 k.length) ∧ w'.cell? ⟨gu, j, none⟩ = some (.int .i64 u) ∧ w'.cell? ⟨gl, ol + i, none⟩ = some (.int .i64 x) ∧ Hid (Below wr.heap.size wr w'))) (by kernel_rfl) ?_ (fun hHeld => ?_)
    · (try dsimp only); go_keep
    refine tk 0 ?_
    refine tk 1 ?_
    refine tk 2 ?_
    refine tk 3 ?_
    refine tk 4 ?_
    refine tk 5 ?_
    refine tk 6 ?_
    refine tk 7 ?_
    refine tk 8 ?_
    refine tk 9 ?_
    refine tk 10 ?_
    refine tk 11 ?_
    refine wpAnyH_done (by kernel_rfl) ?_ _
    have hb6 := hHeld.2.2.2.out
    clear hHeld DD
    obtain ⟨w2, hw2⟩ : ∃ W, W = wr.drew := ⟨_, rfl⟩
    rw [← hw2] at hb6 ⊢
    have hb2 := Lib.hid (hb.out.trans (hb6.mono hb.out.size))
    have G0 := Lib.hid (cell_onV F0.out hb6)
    have G1 := Lib.hid (cell_onV F1.out hb6)
    have G2 := Lib.hid (cell_onV F2.out hb6)
    have KU2 := Lib.hid (KUr.out.below hb6)
    have KC2 := Lib.hid (KCr.out.below hb6)
    clear hw2 hb6 c0 c1 yu yl F0 F1 F2
    have E6 := Lib.hid (show resI k l i us = laneR k.length x us R j (mj + 1) by rw [hE.out, HMJ.out])
    by_cases hov : u + x ≤ k.length
    rotate_left
    · have t1 : decide (u + x > k.length) = true := decide_eq_true (by omega)
      have t2 : k.length < u + x := by omega
      have EN := Lib.hid (show resI k l i us = laneR k.length x us R (j + 1) (n - (j + 1)) by rw [E6.out, laneR_over (by rw [HU.out]; exact hov), HMJ'.out])
      clear hov
      go_wp2
      go_roundw
      case rel => exact ⟨j + 1, by have := HJN.out; omega, by go_num, EN, hb2⟩
      case measure => have := HJN.out; simp [intOf]; omega
    have t1 : decide (u + x > k.length) = false := decide_eq_false (by omega)
    have t2 : ¬ k.length < u + x := by omega
    have hdrew := Lib.hid (Below.refl w2.heap.size w2).drew
    have y1 : w2.cell? ⟨gu, j, none⟩ = some (.int .i64 u) := G1.out
    have y2 : w2.cell? ⟨gl, ol + i, none⟩ = some (.int .i64 x) := G2.out
    go_upto_region 7 with fail
    go_still_tail 12, (by kernel_rfl)
    change wpList _ _ _ _ _ w2.drew
    have KU3 := KU2.out.drew
    have hb3 := hb2.out.trans (hdrew.out.mono hb2.out.size)
    have G3 := cell_onV G2.out hdrew.out
    obtain ⟨w3, hw3⟩ : ∃ W, W = w2.drew := ⟨_, rfl⟩
    rw [← hw3] at KU3 hb3 G3 ⊢
    clear hw3 hdrew y1 y2 KU2 G0 G1 G2 hb2 KC2
    have y1 : w3.cell? ⟨gu, j, none⟩ = some (.int .i64 u) := by rw [← HU.out]; exact (KU3.cell j).trans (rowI_at (by have := HUSL.out; omega))
    have f1 : w3.frozen? ⟨gu, j, none⟩ = false := KU3.free j
    have KU3 := Lib.hid KU3
    have hb3 := Lib.hid hb3
    have G3 := Lib.hid G3
    go_upto_region 8 with fail
    have KU4 := KU3.out.set j (.int .i64 (u + x))
    rw [rowI_set] at KU4
    have hg4 := grown_set1 w3 gu j (.int .i64 (u + x))
    obtain ⟨w4, hw4⟩ : ∃ W, W = w3.setCell ⟨gu, j, none⟩ (.int .i64 (u + x)) := ⟨_, rfl⟩
    rw [← hw4] at KU4 hg4 ⊢
    have HW4 := Lib.hid hw4
    have B3 := B.out.trans (hb3.out.mono B.out.size)
    have KC4 := (KC.out.below hb3.out).grown hg4 (by simp; omega)
    have OP4 := own_kept (own_below OP.out hb3.out) hg4 (fun b hv e => HPG.out (by rw [hv]; exact e.symm))
    have G4 : w4.cell? ⟨gl, ol + i, none⟩ = some (.int .i64 x) := (hg4.cell_far _ (World.block_lt_of_cell? _ _ G3.out) (fun e => hgne (Option.some.inj e))).trans G3.out
    have RL4 := SlOf.grown (SlOf.below RL.out hb3.out) hg4 (.inr (by simpa [Value.ownBlock] using hgne))
    have hz4 : w4.heap.size = w3.heap.size := by rw [hw4]; exact World.size_setCell _ _ _
    have hgl4 : gu < w4.heap.size := KU4.lt
    have KU4 := Lib.hid KU4
    have KC4 := Lib.hid KC4
    have OP4 := Lib.hid OP4
    have G4 := Lib.hid G4
    have RL4 := Lib.hid RL4
    have B3 := Lib.hid B3
    clear hw4 hg4 y1 f1
    obtain ⟨w5, hw5⟩ : ∃ W, W = w4.drew := ⟨_, rfl⟩
    have hd5 := (Below.refl w4.heap.size w4).drew
    rw [← hw5] at hd5
    have KC5 := Lib.hid (KC4.out.below hd5)
    have L5 := Lib.hid (Liv.nil w5)
    have OP5 := own_below OP4.out hd5
    have PR5 := Lib.hid (own_sl intLen OP5 (by have := HPL.out; omega))
    have RL5 := Lib.hid (SlOf.below RL4.out hd5)
    have KU5 := Lib.hid (KU4.out.below hd5)
    have hz5 : w5.heap.size = w4.heap.size := by rw [hw5]; rfl
    have HD5 := Lib.hid hd5
    have HW5 := Lib.hid hw5
    have wi1 : IntKind.i64.wrap ((i : Int) + 1) = ((i + 1 : Nat) : Int) := by rw [IntKind.wrap_i64]; omega
    have HQ8 := Lib.hid (show pre.length ≤ 8 by have := HPL.out; omega)
    clear hd5 hw5 OP5
    obtain ⟨rs, hrs⟩ : ∃ x_, R (us.set j (u + x)) = x_ := ⟨_, rfl⟩
    have HRS := Lib.hid hrs
    clear hrs
    go_cut [13, 14] (fun sA sB wx => ∃ v, sA = v ∧ sB = .bool rs.isSome ∧ Hid (OwnInt wx w5.heap.size v ((rs.map ((pre ++ [(j : Int)]) ++ ·)).getD [])) ∧ Hid (Below w5.heap.size w5 wx))
    case first =>
      have e0 : w4.cell? ⟨w.heap.size, 0, none⟩ = some (.int .i64 k.length) := KC4.out.cell 0
      have e1 : w4.cell? ⟨w.heap.size, 1, none⟩ = some (.int .i64 k.lanes) := KC4.out.cell 1
      have e2 : w4.cell? ⟨w.heap.size, 2, none⟩ = some (.int .i64 k.minutes) := KC4.out.cell 2
      refine wp_region_held_drew (S := (fun w' => w'.cell? ⟨w.heap.size, 0, none⟩ = some (.int .i64 k.length) ∧ w'.cell? ⟨w.heap.size, 1, none⟩ = some (.int .i64 k.lanes) ∧ w'.cell? ⟨w.heap.size, 2, none⟩ = some (.int .i64 k.minutes))) (by kernel_rfl) ?_ (fun hHeld => ?_)
      · (try dsimp only); go_keep
      rw [← HW5.out] at hHeld ⊢
      clear e0 e1 e2
      refine tk 0 ?_
      (try simp only [Act.put]); (try simp only [List.setIfInBounds_toArray]); (try simp only [List.set_cons_succ]); (try simp only [List.set_cons_zero])
      refine tk 1 ?_
      (try simp only [Act.put]); (try simp only [List.setIfInBounds_toArray]); (try simp only [List.set_cons_succ]); (try simp only [List.set_cons_zero])
      refine tk 2 ?_
      (try simp only [Act.put]); (try simp only [List.setIfInBounds_toArray]); (try simp only [List.set_cons_succ]); (try simp only [List.set_cons_zero])
      refine tk 3 ?_
      (try simp only [Act.put]); (try simp only [List.setIfInBounds_toArray]); (try simp only [List.set_cons_succ]); (try simp only [List.set_cons_zero])
      refine tk 4 ?_
      (try simp only [Act.put]); (try simp only [List.setIfInBounds_toArray]); (try simp only [List.set_cons_succ]); (try simp only [List.set_cons_zero])
      refine tk 6 ?_
      (try simp only [Act.put]); (try simp only [List.setIfInBounds_toArray]); (try simp only [List.set_cons_succ]); (try simp only [List.set_cons_zero])
      refine tk 8 ?_
      (try simp only [Act.put]); (try simp only [List.setIfInBounds_toArray]); (try simp only [List.set_cons_succ]); (try simp only [List.set_cons_zero])
      refine wpAnyH_ready (rs := [5, 9]) (by kernel_rfl) (by simp) ?_
      refine AllReadyH.cons rfl (fun K hK => ?_) (AllReadyH.cons rfl (fun K hK => ?_) (AllReadyH.nil))
      · skip
        refine step_build0 rfl rfl ?_
        obtain ⟨x6, hx_⟩ : ∃ X, X = w5.alloc (.cells #[] 3) := ⟨_, rfl⟩
        have LL := Liv.build L5.out 56 [] (by simp)
        obtain ⟨v56, hv56⟩ : ∃ v, v = Value.slice (some ⟨w5.heap.size, 0, none⟩) 0 0 := ⟨_, rfl⟩
        have LL2 : Liv w5 x6 ([(56, v56, [])]) := by rw [hx_, hv56]; exact LL
        rw [← hx_, ← hv56]
        have L6_ := Lib.hid LL2
        clear LL LL2 hx_ hv56
        refine hK.out _ _ ⟨cell_onV (KC5.out.cell 0) L6_.out.low, cell_onV (KC5.out.cell 1) L6_.out.low, cell_onV (KC5.out.cell 2) L6_.out.low⟩ (fun hHeld => ?_)
        clear hK K
        (try simp only [Act.put]); (try simp only [List.setIfInBounds_toArray]); (try simp only [List.set_cons_succ]); (try simp only [List.set_cons_zero])
        refine wpAnyH_ready (rs := [7, 9]) (by kernel_rfl) (by simp) ?_
        refine AllReadyH.cons rfl (fun K hK => ?_) (AllReadyH.cons rfl (fun K hK => ?_) (AllReadyH.nil))
        · skip
          refine step_liv L6_.out (L' := []) (τ := 56) (v := v56) (u := .slice Ap q cp) (l := []) (m := pre) 58 rfl (.tmp 56) (.tmp 57) rfl rfl rfl (by simp) (by have z := SlOf.below PR5.out L6_.out.low; rw [HQ.out] at z; exact z) (by have := HQ8.out; simp; omega) (by simp) ?_
          intro v58 x7 hL
          have L7_ := Lib.hid hL
          clear hL
          refine hK.out _ _ ⟨cell_onV (KC5.out.cell 0) L7_.out.low, cell_onV (KC5.out.cell 1) L7_.out.low, cell_onV (KC5.out.cell 2) L7_.out.low⟩ (fun hHeld => ?_)
          clear hK K
          (try simp only [Act.put]); (try simp only [List.setIfInBounds_toArray]); (try simp only [List.set_cons_succ]); (try simp only [List.set_cons_zero])
          refine wpAnyH_ready (rs := [9]) (by kernel_rfl) (by simp) ?_
          refine AllReadyH.cons rfl (fun K hK => ?_) (AllReadyH.nil)
          refine step_build1 rfl (.tmp 59) (j : Int) rfl rfl ?_
          obtain ⟨x8, hx_⟩ : ∃ X, X = x7.alloc (.cells #[.int .i64 (j : Int)] 3) := ⟨_, rfl⟩
          have LL := Liv.build L7_.out 60 [(j : Int)] (by simp)
          obtain ⟨v60, hv60⟩ : ∃ v, v = Value.slice (some ⟨x7.heap.size, 0, none⟩) 1 1 := ⟨_, rfl⟩
          have LL2 : Liv w5 x8 ([(60, v60, [(j : Int)]), (58, v58, ([] ++ pre))]) := by rw [hx_, hv60]; exact LL
          rw [← hx_, ← hv60]
          have L8_ := Lib.hid LL2
          clear LL LL2 hx_ hv60
          refine hK.out _ _ ⟨cell_onV (KC5.out.cell 0) L8_.out.low, cell_onV (KC5.out.cell 1) L8_.out.low, cell_onV (KC5.out.cell 2) L8_.out.low⟩ (fun hHeld => ?_)
          clear hK K
          (try simp only [Act.put]); (try simp only [List.setIfInBounds_toArray]); (try simp only [List.set_cons_succ]); (try simp only [List.set_cons_zero])
          refine wpAnyH_ready (rs := [10]) (by kernel_rfl) (by simp) ?_
          refine AllReadyH.cons rfl (fun K hK => ?_) (AllReadyH.nil)
          refine step_liv L8_.out (L' := []) (τ := 58) (v := v58) (u := v60) (l := [] ++ pre) (m := [(j : Int)]) 61 rfl (.tmp 58) (.tmp 60) rfl rfl rfl (by simp) (own_sl intLen (L8_.out.own (60, v60, [(j : Int)]) (by simp)) (by simp)) (by have := HQ8.out; simp; omega) (by simp) ?_
          intro v61 x9 hL
          have L9_ := Lib.hid hL
          clear hL
          refine hK.out _ _ ⟨cell_onV (KC5.out.cell 0) L9_.out.low, cell_onV (KC5.out.cell 1) L9_.out.low, cell_onV (KC5.out.cell 2) L9_.out.low⟩ (fun hHeld => ?_)
          clear hK K
          (try simp only [Act.put]); (try simp only [List.setIfInBounds_toArray]); (try simp only [List.set_cons_succ]); (try simp only [List.set_cons_zero])
          have OV := L9_.out.own (61, v61, ([] ++ pre) ++ [(j : Int)]) (by simp)
          simp only [List.nil_append] at OV
          obtain ⟨Av, cv, hv⟩ := own_form OV
          subst hv
          have hlow := L9_.out.low
          have hlz := hlow.size
          have IH := HIH.out f rfl (i + 1) (us.set j (u + x)) (pre ++ [(j : Int)]) _ _ gu w5.heap.size cu x9 (by have := HM.out; have := HIM.out; omega) (by have := HUSL.out; have := HN.out; simp; omega) (fun jj hjj => by
            by_cases e : j = jj
            · subst e; rw [getD_set_same _ _ _ (by have := HUSL.out; omega)]; exact ⟨by omega, hov⟩
            · rw [getD_set_other _ _ e]; exact HUSB.out jj (by have := HN.out; omega)) (by have := HPL.out; simp; omega) (SlOf.below RL5.out hlow) HLG.out OV (fun e => by have := (own_ge OV e).1; omega) (by omega) (KU5.out.below hlow)
          rw [HN.out, HM.out] at IH
          have e61 : (pre ++ [(j : Int)]).length = q + 1 := by have := HQ.out; simp; omega
          rw [e61] at IH
          have IH := Lib.hid IH
          refine wpAnyH_ready (rs := [11]) (by kernel_rfl) (by simp) ?_
          refine AllReadyH.cons rfl (fun K hK => ?_) AllReadyH.nil
          rw [if_pos (by rfl)]
          go_simp
          go_at_call 80
          refine IH.out.mono ?_
          rintro e wz ⟨v, rfl, ho, hbz⟩
          have er : resI k l (i + 1) (us.set j (u + x)) = rs := by rw [← HRS.out, ← HR.out]; rfl
          rw [er] at ho ⊢
          have HB := Lib.hid (hlow.trans (hbz.mono hlow.size))
          have HO := Lib.hid ho
          clear ho hbz er IH
          go_simp
          refine hK.out _ _ ⟨cell_onV (KC5.out.cell 0) HB.out, cell_onV (KC5.out.cell 1) HB.out, cell_onV (KC5.out.cell 2) HB.out⟩ (fun hHeld => ?_)
          clear hK K
          (try simp only [Act.put]); (try simp only [List.setIfInBounds_toArray]); (try simp only [List.set_cons_succ]); (try simp only [List.set_cons_zero])
          refine tk 12 ?_
          (try simp only [Act.put]); (try simp only [List.setIfInBounds_toArray]); (try simp only [List.set_cons_succ]); (try simp only [List.set_cons_zero])
          refine tk 13 ?_
          (try simp only [Act.put]); (try simp only [List.setIfInBounds_toArray]); (try simp only [List.set_cons_succ]); (try simp only [List.set_cons_zero])
          refine tk 14 ?_
          (try simp only [Act.put]); (try simp only [List.setIfInBounds_toArray]); (try simp only [List.set_cons_succ]); (try simp only [List.set_cons_zero])
          refine tk 15 ?_
          (try simp only [Act.put]); (try simp only [List.setIfInBounds_toArray]); (try simp only [List.set_cons_succ]); (try simp only [List.set_cons_zero])
          refine tk 16 ?_
          (try simp only [Act.put]); (try simp only [List.setIfInBounds_toArray]); (try simp only [List.set_cons_succ]); (try simp only [List.set_cons_zero])
          refine wpAnyH_done (by kernel_rfl) ?_ _
          go_wp2_with fail
          go_meet
          exact ⟨v, rfl, rfl, HO, HB⟩
        · skip
          refine step_build1 rfl (.tmp 59) (j : Int) rfl rfl ?_
          obtain ⟨x7, hx_⟩ : ∃ X, X = x6.alloc (.cells #[.int .i64 (j : Int)] 3) := ⟨_, rfl⟩
          have LL := Liv.build L6_.out 60 [(j : Int)] (by simp)
          obtain ⟨v60, hv60⟩ : ∃ v, v = Value.slice (some ⟨x6.heap.size, 0, none⟩) 1 1 := ⟨_, rfl⟩
          have LL2 : Liv w5 x7 ([(60, v60, [(j : Int)]), (56, v56, [])]) := by rw [hx_, hv60]; exact LL
          rw [← hx_, ← hv60]
          have L7_ := Lib.hid LL2
          clear LL LL2 hx_ hv60
          refine hK.out _ _ ⟨cell_onV (KC5.out.cell 0) L7_.out.low, cell_onV (KC5.out.cell 1) L7_.out.low, cell_onV (KC5.out.cell 2) L7_.out.low⟩ (fun hHeld => ?_)
          clear hK K
          (try simp only [Act.put]); (try simp only [List.setIfInBounds_toArray]); (try simp only [List.set_cons_succ]); (try simp only [List.set_cons_zero])
          refine wpAnyH_ready (rs := [7]) (by kernel_rfl) (by simp) ?_
          refine AllReadyH.cons rfl (fun K hK => ?_) (AllReadyH.nil)
          refine step_liv L7_.out (L' := [(60, v60, [(j : Int)])]) (τ := 56) (v := v56) (u := .slice Ap q cp) (l := []) (m := pre) 58 rfl (.tmp 56) (.tmp 57) rfl rfl rfl (by simp) (by have z := SlOf.below PR5.out L7_.out.low; rw [HQ.out] at z; exact z) (by have := HQ8.out; simp; omega) (by intro q_ h_; simp at h_; subst h_; exact ⟨by simp, by simp⟩) ?_
          intro v58 x8 hL
          have L8_ := Lib.hid hL
          clear hL
          refine hK.out _ _ ⟨cell_onV (KC5.out.cell 0) L8_.out.low, cell_onV (KC5.out.cell 1) L8_.out.low, cell_onV (KC5.out.cell 2) L8_.out.low⟩ (fun hHeld => ?_)
          clear hK K
          (try simp only [Act.put]); (try simp only [List.setIfInBounds_toArray]); (try simp only [List.set_cons_succ]); (try simp only [List.set_cons_zero])
          refine wpAnyH_ready (rs := [10]) (by kernel_rfl) (by simp) ?_
          refine AllReadyH.cons rfl (fun K hK => ?_) (AllReadyH.nil)
          refine step_liv L8_.out (L' := []) (τ := 58) (v := v58) (u := v60) (l := [] ++ pre) (m := [(j : Int)]) 61 rfl (.tmp 58) (.tmp 60) rfl rfl rfl (by simp) (own_sl intLen (L8_.out.own (60, v60, [(j : Int)]) (by simp)) (by simp)) (by have := HQ8.out; simp; omega) (by simp) ?_
          intro v61 x9 hL
          have L9_ := Lib.hid hL
          clear hL
          refine hK.out _ _ ⟨cell_onV (KC5.out.cell 0) L9_.out.low, cell_onV (KC5.out.cell 1) L9_.out.low, cell_onV (KC5.out.cell 2) L9_.out.low⟩ (fun hHeld => ?_)
          clear hK K
          (try simp only [Act.put]); (try simp only [List.setIfInBounds_toArray]); (try simp only [List.set_cons_succ]); (try simp only [List.set_cons_zero])
          have OV := L9_.out.own (61, v61, ([] ++ pre) ++ [(j : Int)]) (by simp)
          simp only [List.nil_append] at OV
          obtain ⟨Av, cv, hv⟩ := own_form OV
          subst hv
          have hlow := L9_.out.low
          have hlz := hlow.size
          have IH := HIH.out f rfl (i + 1) (us.set j (u + x)) (pre ++ [(j : Int)]) _ _ gu w5.heap.size cu x9 (by have := HM.out; have := HIM.out; omega) (by have := HUSL.out; have := HN.out; simp; omega) (fun jj hjj => by
            by_cases e : j = jj
            · subst e; rw [getD_set_same _ _ _ (by have := HUSL.out; omega)]; exact ⟨by omega, hov⟩
            · rw [getD_set_other _ _ e]; exact HUSB.out jj (by have := HN.out; omega)) (by have := HPL.out; simp; omega) (SlOf.below RL5.out hlow) HLG.out OV (fun e => by have := (own_ge OV e).1; omega) (by omega) (KU5.out.below hlow)
          rw [HN.out, HM.out] at IH
          have e61 : (pre ++ [(j : Int)]).length = q + 1 := by have := HQ.out; simp; omega
          rw [e61] at IH
          have IH := Lib.hid IH
          refine wpAnyH_ready (rs := [11]) (by kernel_rfl) (by simp) ?_
          refine AllReadyH.cons rfl (fun K hK => ?_) AllReadyH.nil
          rw [if_pos (by rfl)]
          go_simp
          go_at_call 80
          refine IH.out.mono ?_
          rintro e wz ⟨v, rfl, ho, hbz⟩
          have er : resI k l (i + 1) (us.set j (u + x)) = rs := by rw [← HRS.out, ← HR.out]; rfl
          rw [er] at ho ⊢
          have HB := Lib.hid (hlow.trans (hbz.mono hlow.size))
          have HO := Lib.hid ho
          clear ho hbz er IH
          go_simp
          refine hK.out _ _ ⟨cell_onV (KC5.out.cell 0) HB.out, cell_onV (KC5.out.cell 1) HB.out, cell_onV (KC5.out.cell 2) HB.out⟩ (fun hHeld => ?_)
          clear hK K
          (try simp only [Act.put]); (try simp only [List.setIfInBounds_toArray]); (try simp only [List.set_cons_succ]); (try simp only [List.set_cons_zero])
          refine tk 12 ?_
          (try simp only [Act.put]); (try simp only [List.setIfInBounds_toArray]); (try simp only [List.set_cons_succ]); (try simp only [List.set_cons_zero])
          refine tk 13 ?_
          (try simp only [Act.put]); (try simp only [List.setIfInBounds_toArray]); (try simp only [List.set_cons_succ]); (try simp only [List.set_cons_zero])
          refine tk 14 ?_
          (try simp only [Act.put]); (try simp only [List.setIfInBounds_toArray]); (try simp only [List.set_cons_succ]); (try simp only [List.set_cons_zero])
          refine tk 15 ?_
          (try simp only [Act.put]); (try simp only [List.setIfInBounds_toArray]); (try simp only [List.set_cons_succ]); (try simp only [List.set_cons_zero])
          refine tk 16 ?_
          (try simp only [Act.put]); (try simp only [List.setIfInBounds_toArray]); (try simp only [List.set_cons_succ]); (try simp only [List.set_cons_zero])
          refine wpAnyH_done (by kernel_rfl) ?_ _
          go_wp2_with fail
          go_meet
          exact ⟨v, rfl, rfl, HO, HB⟩
      · skip
        refine step_build1 rfl (.tmp 59) (j : Int) rfl rfl ?_
        obtain ⟨x6, hx_⟩ : ∃ X, X = w5.alloc (.cells #[.int .i64 (j : Int)] 3) := ⟨_, rfl⟩
        have LL := Liv.build L5.out 60 [(j : Int)] (by simp)
        obtain ⟨v60, hv60⟩ : ∃ v, v = Value.slice (some ⟨w5.heap.size, 0, none⟩) 1 1 := ⟨_, rfl⟩
        have LL2 : Liv w5 x6 ([(60, v60, [(j : Int)])]) := by rw [hx_, hv60]; exact LL
        rw [← hx_, ← hv60]
        have L6_ := Lib.hid LL2
        clear LL LL2 hx_ hv60
        refine hK.out _ _ ⟨cell_onV (KC5.out.cell 0) L6_.out.low, cell_onV (KC5.out.cell 1) L6_.out.low, cell_onV (KC5.out.cell 2) L6_.out.low⟩ (fun hHeld => ?_)
        clear hK K
        (try simp only [Act.put]); (try simp only [List.setIfInBounds_toArray]); (try simp only [List.set_cons_succ]); (try simp only [List.set_cons_zero])
        refine wpAnyH_ready (rs := [5]) (by kernel_rfl) (by simp) ?_
        refine AllReadyH.cons rfl (fun K hK => ?_) (AllReadyH.nil)
        refine step_build0 rfl rfl ?_
        obtain ⟨x7, hx_⟩ : ∃ X, X = x6.alloc (.cells #[] 3) := ⟨_, rfl⟩
        have LL := Liv.build L6_.out 56 [] (by simp)
        obtain ⟨v56, hv56⟩ : ∃ v, v = Value.slice (some ⟨x6.heap.size, 0, none⟩) 0 0 := ⟨_, rfl⟩
        have LL2 : Liv w5 x7 ([(56, v56, []), (60, v60, [(j : Int)])]) := by rw [hx_, hv56]; exact LL
        rw [← hx_, ← hv56]
        have L7_ := Lib.hid LL2
        clear LL LL2 hx_ hv56
        refine hK.out _ _ ⟨cell_onV (KC5.out.cell 0) L7_.out.low, cell_onV (KC5.out.cell 1) L7_.out.low, cell_onV (KC5.out.cell 2) L7_.out.low⟩ (fun hHeld => ?_)
        clear hK K
        (try simp only [Act.put]); (try simp only [List.setIfInBounds_toArray]); (try simp only [List.set_cons_succ]); (try simp only [List.set_cons_zero])
        refine wpAnyH_ready (rs := [7]) (by kernel_rfl) (by simp) ?_
        refine AllReadyH.cons rfl (fun K hK => ?_) (AllReadyH.nil)
        refine step_liv L7_.out (L' := [(60, v60, [(j : Int)])]) (τ := 56) (v := v56) (u := .slice Ap q cp) (l := []) (m := pre) 58 rfl (.tmp 56) (.tmp 57) rfl rfl rfl (by simp) (by have z := SlOf.below PR5.out L7_.out.low; rw [HQ.out] at z; exact z) (by have := HQ8.out; simp; omega) (by intro q_ h_; simp at h_; subst h_; exact ⟨by simp, by simp⟩) ?_
        intro v58 x8 hL
        have L8_ := Lib.hid hL
        clear hL
        refine hK.out _ _ ⟨cell_onV (KC5.out.cell 0) L8_.out.low, cell_onV (KC5.out.cell 1) L8_.out.low, cell_onV (KC5.out.cell 2) L8_.out.low⟩ (fun hHeld => ?_)
        clear hK K
        (try simp only [Act.put]); (try simp only [List.setIfInBounds_toArray]); (try simp only [List.set_cons_succ]); (try simp only [List.set_cons_zero])
        refine wpAnyH_ready (rs := [10]) (by kernel_rfl) (by simp) ?_
        refine AllReadyH.cons rfl (fun K hK => ?_) (AllReadyH.nil)
        refine step_liv L8_.out (L' := []) (τ := 58) (v := v58) (u := v60) (l := [] ++ pre) (m := [(j : Int)]) 61 rfl (.tmp 58) (.tmp 60) rfl rfl rfl (by simp) (own_sl intLen (L8_.out.own (60, v60, [(j : Int)]) (by simp)) (by simp)) (by have := HQ8.out; simp; omega) (by simp) ?_
        intro v61 x9 hL
        have L9_ := Lib.hid hL
        clear hL
        refine hK.out _ _ ⟨cell_onV (KC5.out.cell 0) L9_.out.low, cell_onV (KC5.out.cell 1) L9_.out.low, cell_onV (KC5.out.cell 2) L9_.out.low⟩ (fun hHeld => ?_)
        clear hK K
        (try simp only [Act.put]); (try simp only [List.setIfInBounds_toArray]); (try simp only [List.set_cons_succ]); (try simp only [List.set_cons_zero])
        have OV := L9_.out.own (61, v61, ([] ++ pre) ++ [(j : Int)]) (by simp)
        simp only [List.nil_append] at OV
        obtain ⟨Av, cv, hv⟩ := own_form OV
        subst hv
        have hlow := L9_.out.low
        have hlz := hlow.size
        have IH := HIH.out f rfl (i + 1) (us.set j (u + x)) (pre ++ [(j : Int)]) _ _ gu w5.heap.size cu x9 (by have := HM.out; have := HIM.out; omega) (by have := HUSL.out; have := HN.out; simp; omega) (fun jj hjj => by
          by_cases e : j = jj
          · subst e; rw [getD_set_same _ _ _ (by have := HUSL.out; omega)]; exact ⟨by omega, hov⟩
          · rw [getD_set_other _ _ e]; exact HUSB.out jj (by have := HN.out; omega)) (by have := HPL.out; simp; omega) (SlOf.below RL5.out hlow) HLG.out OV (fun e => by have := (own_ge OV e).1; omega) (by omega) (KU5.out.below hlow)
        rw [HN.out, HM.out] at IH
        have e61 : (pre ++ [(j : Int)]).length = q + 1 := by have := HQ.out; simp; omega
        rw [e61] at IH
        have IH := Lib.hid IH
        refine wpAnyH_ready (rs := [11]) (by kernel_rfl) (by simp) ?_
        refine AllReadyH.cons rfl (fun K hK => ?_) AllReadyH.nil
        rw [if_pos (by rfl)]
        go_simp
        go_at_call 80
        refine IH.out.mono ?_
        rintro e wz ⟨v, rfl, ho, hbz⟩
        have er : resI k l (i + 1) (us.set j (u + x)) = rs := by rw [← HRS.out, ← HR.out]; rfl
        rw [er] at ho ⊢
        have HB := Lib.hid (hlow.trans (hbz.mono hlow.size))
        have HO := Lib.hid ho
        clear ho hbz er IH
        go_simp
        refine hK.out _ _ ⟨cell_onV (KC5.out.cell 0) HB.out, cell_onV (KC5.out.cell 1) HB.out, cell_onV (KC5.out.cell 2) HB.out⟩ (fun hHeld => ?_)
        clear hK K
        (try simp only [Act.put]); (try simp only [List.setIfInBounds_toArray]); (try simp only [List.set_cons_succ]); (try simp only [List.set_cons_zero])
        refine tk 12 ?_
        (try simp only [Act.put]); (try simp only [List.setIfInBounds_toArray]); (try simp only [List.set_cons_succ]); (try simp only [List.set_cons_zero])
        refine tk 13 ?_
        (try simp only [Act.put]); (try simp only [List.setIfInBounds_toArray]); (try simp only [List.set_cons_succ]); (try simp only [List.set_cons_zero])
        refine tk 14 ?_
        (try simp only [Act.put]); (try simp only [List.setIfInBounds_toArray]); (try simp only [List.set_cons_succ]); (try simp only [List.set_cons_zero])
        refine tk 15 ?_
        (try simp only [Act.put]); (try simp only [List.setIfInBounds_toArray]); (try simp only [List.set_cons_succ]); (try simp only [List.set_cons_zero])
        refine tk 16 ?_
        (try simp only [Act.put]); (try simp only [List.setIfInBounds_toArray]); (try simp only [List.set_cons_succ]); (try simp only [List.set_cons_zero])
        refine wpAnyH_done (by kernel_rfl) ?_ _
        go_wp2_with fail
        go_meet
        exact ⟨v, rfl, rfl, HO, HB⟩
    case rest =>
      obtain ⟨v, h13, rfl, hO, hB5⟩ := hcut
      have h13' := h13.symm
      clear h13
      subst h13'
      obtain ⟨w6, rfl⟩ : ∃ X, X = wc := ⟨_, rfl⟩
      have K6 := KU5.out.below hB5.out
      have y1 : w6.cell? ⟨gu, j, none⟩ = some (.int .i64 (u + x)) := (K6.cell j).trans ((rowI_at (by have := HUSL.out; simp; omega)).trans (by rw [getD_set_same _ _ _ (by have := HUSL.out; omega)]))
      have G5 := cell_onV G4.out HD5.out
      have y2 := cell_onV G5 hB5.out
      have wdf : IntKind.i64.wrap (u + x - x) = u := by rw [IntKind.wrap_i64]; omega
      have hz6 := hB5.out.size
      have hd6 := (Below.refl w6.heap.size w6).drew
      have HK6 := Lib.hid K6
      clear K6 G5
      go_upto_region 9 with fail
      go_still_tail 12, (by kernel_rfl)
      change wpList _ _ _ _ _ w6.drew
      have KU7 := HK6.out.drew
      have HB7 := Lib.hid (hB5.out.trans (hd6.mono hB5.out.size))
      have HO7 := Lib.hid (own_below hO.out hd6)
      obtain ⟨w7, hw7⟩ : ∃ W, W = w6.drew := ⟨_, rfl⟩
      rw [← hw7] at KU7 HB7 HO7 ⊢
      clear hw7 hd6 y1 y2
      have y1 : w7.cell? ⟨gu, j, none⟩ = some (.int .i64 (u + x)) := (KU7.cell j).trans ((rowI_at (by have := HUSL.out; simp; omega)).trans (by rw [getD_set_same _ _ _ (by have := HUSL.out; omega)]))
      have f1 : w7.frozen? ⟨gu, j, none⟩ = false := KU7.free j
      have KU7 := Lib.hid KU7
      go_upto_region 10 with fail
      have KU8 := KU7.out.set j (.int .i64 u)
      rw [rowI_set] at KU8
      have hsb : (us.set j (u + x)).set j u = us := by rw [← HU.out]; exact set_back _ (by have := HUSL.out; omega)
      rw [hsb] at KU8
      have HB8 : Below w3.heap.size w3 (w7.setCell ⟨gu, j, none⟩ (.int .i64 u)) := below_row (u := .int .i64 (u + x)) (w1 := w7) KU3.out (by rw [← HW4.out]; exact HD5.out.trans (HB7.out.mono (by omega))) (.int .i64 u) KU8 rfl
      have HO8 := own_kept HO7.out (grown_set1 w7 gu j (.int .i64 u)) (fun b hv e => by have h1 := (own_ge HO7.out hv).1; have h2 := Option.some.inj e; omega)
      obtain ⟨w8, hw8⟩ : ∃ W, W = w7.setCell ⟨gu, j, none⟩ (.int .i64 u) := ⟨_, rfl⟩
      rw [← hw8] at HB8 HO8 KU8 ⊢
      have B8 := Lib.hid (B3.out.trans (HB8.mono B3.out.size))
      have hb8 := Lib.hid (hb3.out.trans (HB8.mono hb3.out.size))
      have hz3 := hb3.out.size
      have HO8 := Lib.hid (own_lo (base' := base) HO8 (by omega))
      clear hw8 y1 f1 HB8 KU8 hsb
      cases hrs : rs with
      | none =>
        have EN := Lib.hid (show resI k l i us = laneR k.length x us R (j + 1) (n - (j + 1)) by rw [E6.out, laneR_no (by rw [HU.out]; exact hov) (by rw [HU.out, HRS.out, hrs]), HMJ'.out])
        clear hrs
        go_wp2
        go_roundw
        case rel => exact ⟨j + 1, by have := HJN.out; omega, by go_num, EN, hb8⟩
        case measure => have := HJN.out; simp [intOf]; omega
      | some out =>
        have E := Lib.hid (show resI k l i us = some ((j : Int) :: out) by rw [E6.out, laneR_yes (by rw [HU.out]; exact hov) (by rw [HU.out, HRS.out, hrs])])
        have HV := Lib.hid (show OwnInt w8 base v (pre ++ (j : Int) :: out) by have z := HO8.out; rw [hrs] at z; rw [show pre ++ (j : Int) :: out = (pre ++ [(j : Int)]) ++ out by simp]; exact z)
        clear hrs
        go_wp2
        refine bodyPost_ret (v := .tuple #[v, .bool true]) (by simp [results, Try.results80, go_sem]) rfl ⟨v, by rw [E.out]; rfl, by rw [E.out]; exact HV.out, B8.out⟩
theorem packAll (k : ChamberD) (hcb : chamB k = true) (l : List Int) (hlb : lensB l = true) : ∀ f, PackAt k l f := by
  intro f
  induction f with
  | zero => exact packStep k hcb l hlb 0 (fun f e => by cases e)
  | succ f ih => exact packStep k hcb l hlb (f + 1) (fun f' e => by cases e; exact ih)
end Go.Proofs.Ytlddampjbmklkaa
