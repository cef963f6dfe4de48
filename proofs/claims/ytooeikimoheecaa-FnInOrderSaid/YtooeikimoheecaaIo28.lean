
/- What InOrderLaw rests on, part 28: contracts and mathematics. -/
import Derived.Test.YtooeikimoheecaaIo23
import Derived.Test.YtooeikimoheecaaIo26
import Derived.Test.YtooeikimoheecaaIo17
import Derived.Test.YtooeikimoheecaaIo14
import Derived.Test.YtooeikimoheecaaIo19
import Derived.Test.YtooeikimoheecaaIo8
import Derived.Test.YtooeikimoheecaaIo21
import Derived.Test.YtooeikimoheecaaIo18
import Derived.BigRegionIn
import Derived.Sort.CutIn
import Derived.Test.YtooeikimoheecaaIo2
import Derived.Test.YtooeikimoheecaaIo27
import Derived.Test.YtooeikimoheecaaIo4
namespace Go.Proofs.Ytooeikimoheecaa
open Go.RowKit
set_option maxRecDepth 100000
theorem harb_ship_ok {j : Nat} {s : ShipD} (hj : j < 3) (h : shipGood j s) : shipB s = true := by
  obtain ⟨n1, n2, n3, n4, n5, n6, n7, n8, n9⟩ := h
  unfold shipB
  rw [n1, names_digit j (by omega), inB_mk (by omega) (by omega), inB_mk (by omega) (by omega), inB_mk (by omega) (by omega), inB_mk (by omega) (by omega)]
  rfl
theorem harb_ship_wf {j : Nat} {s : ShipD} (h : shipGood j s) : s.wf := by
  obtain ⟨n1, n2, n3, n4, n5, n6, n7, n8, n9⟩ := h
  have hz : (shipName j).size = 2 := by unfold shipName; rw [ByteArray.size_append, strOfNums_size]; rfl
  refine ⟨by rw [n1, hz]; unfold maxLen; omega, ?_, ?_, ?_, ?_⟩ <;> exact WalkArith.wf_i64 (by omega)
theorem harb_ship {h : HarbD} (hok : HarbOk h) {j : Nat} {x : ShipD} (hx : h.fl[j]? = some x) : shipGood j x ∧ j < 3 := by
  refine ⟨(hok.2.2.2.2.1 j x hx).1, ?_⟩
  have h3 := hok.2.2.2.1.2
  have := (List.getElem?_eq_some_iff.1 hx).1
  omega
theorem harb_wf {h : HarbD} (hok : HarbOk h) : ∀ x ∈ h.fl, ShipD.wf x := by
  intro x hx
  obtain ⟨j, hj⟩ := List.getElem?_of_mem hx
  exact harb_ship_wf (harb_ship hok hj).1
theorem harb_fleet {h : HarbD} (hok : HarbOk h) : fleetB h.fl = true := by
  obtain ⟨h1, h3⟩ := hok.2.2.2.1
  refine fleetB_mk (by omega) (fun j hj => ?_)
  have hx : h.fl[j]? = some h.fl[j] := List.getElem?_eq_getElem hj
  obtain ⟨hg, hj3⟩ := harb_ship hok hx
  have hi : shipI h.fl h.fl[j].name = (j : Int) := by
    refine firstI_at (k := j) (x := h.fl[j]) (fun i hi y hy => ?_) hx (by simp [shipNm])
    have hiy := (harb_ship hok hy).1.1
    show (y.name.toList == h.fl[j].name.toList) = false
    rw [hiy, hg.1]
    exact names_apart i j (by omega) (by omega) (by omega)
  rw [flAt_at hx, harb_ship_ok (by omega) hg, hi]
  simp
/-- The forecast of a drawn harbour. -/
def HarbD.fc (h : HarbD) : ForecastD := ⟨h.m, h.l, h.s⟩
theorem harb_fc {h : HarbD} (hok : HarbOk h) : h.l.length ≤ 4 ∧ h.s.length ≤ 3 := by
  obtain ⟨h0, -⟩ := fcB_true hok.1
  exact ⟨(tideB_true h0).2.2.1, hok.2.1⟩
theorem harb_pts {h : HarbD} (_ : HarbOk h) : 4 ≤ h.ch.chart.points.length ∧ h.ch.chart.points.length ≤ 5 ∧ h.ch.chart.segs.length ≤ 5 := by
  refine ⟨?_, (chart_len h.ch).1, (chart_len h.ch).2⟩
  rw [npts_drawn]; unfold nPts; split <;> omega
theorem harb_rd {W : World} {base : Nat} {A0 A1 A2 A3 A4 A5 : Option Addr} {c0 c1 c2 c3 c4 c5 : Nat} {h : HarbD} (ho : HarbOwn W base A0 c0 A1 c1 A2 c2 A3 c3 A4 c4 A5 c5 h) (hok : HarbOk h) :
    RdForecast W (.slice A0 h.l.length c0) (.slice A1 h.s.length c1) h.fc ∧ RdChart W (.slice A2 h.ch.chart.points.length c2) (.slice A3 h.ch.chart.segs.length c3) h.ch.chart ∧ SlShip W (.slice A4 h.fl.length c4) h.fl := by
  obtain ⟨⟨h0, h1, h2, h3, h5⟩, h4⟩ := ho
  obtain ⟨l0, l1⟩ := harb_fc hok
  obtain ⟨-, l2, l3⟩ := harb_pts hok
  have l4 := hok.2.2.2.1.2
  exact ⟨⟨own_sl partLen h0 (by show h.l.length ≤ _; omega), own_sl surgeLen h1 (by show h.s.length ≤ _; omega)⟩, ⟨own_sl pointLen h2 (by omega), own_sl segmentLen h3 (by omega)⟩, own_sl shipLen h4 (by omega)⟩
end Go.Proofs.Ytooeikimoheecaa
namespace Go.Proofs.Ytooeikimoheecaa
open Go.RowKit Go.Shelf
set_option maxRecDepth 100000
attribute [local go_sem] Oper.semAt_some
/-- The marked minutes, a window each. -/
def minP (f : Nat → Bool) (k : Nat) : List WindowD := (List.range k).flatMap fun j => if f j = true then [⟨j, j⟩] else []
theorem minP_next (f : Nat → Bool) (k : Nat) : minP f (k + 1) = minP f k ++ (if f k = true then [⟨k, k⟩] else []) := by
  unfold minP; rw [List.range_succ, List.flatMap_append]; simp
theorem minP_yes {f : Nat → Bool} {k : Nat} (h : f k = true) : minP f (k + 1) = minP f k ++ [⟨k, k⟩] := by rw [minP_next, if_pos h]
theorem minP_no {f : Nat → Bool} {k : Nat} (h : f k = false) : minP f (k + 1) = minP f k := by rw [minP_next, if_neg (by rw [h]; simp), List.append_nil]
theorem minP_len (f : Nat → Bool) (k : Nat) : (minP f k).length ≤ k := by
  induction k with
  | zero => simp [minP]
  | succ k ih =>
    cases h : f k with
    | true => rw [minP_yes h]; simp; omega
    | false => rw [minP_no h]; omega
theorem minP_mem (f : Nat → Bool) : ∀ k x, x ∈ minP f k ↔ ∃ j : Nat, j < k ∧ f j = true ∧ x = ⟨j, j⟩ := by
  intro k
  induction k with
  | zero => intro x; simp [minP]
  | succ k ih =>
    intro x
    cases h : f k with
    | true =>
      rw [minP_yes h, List.mem_append, ih, List.mem_singleton]
      constructor
      · rintro (⟨j, h1, h2, h3⟩ | h1)
        · exact ⟨j, by omega, h2, h3⟩
        · exact ⟨k, by omega, h, h1⟩
      · rintro ⟨j, h1, h2, h3⟩
        by_cases e : j = k
        · subst e; exact .inr h3
        · exact .inl ⟨j, by omega, h2, h3⟩
    | false =>
      rw [minP_no h, ih]
      constructor
      · rintro ⟨j, h1, h2, h3⟩; exact ⟨j, by omega, h2, h3⟩
      · rintro ⟨j, h1, h2, h3⟩
        by_cases e : j = k
        · subst e; rw [h] at h2; cases h2
        · exact ⟨j, by omega, h2, h3⟩
theorem minP_sorted (f : Nat → Bool) : ∀ k, (minP f k).Pairwise (fun x y => x.fr ≤ y.fr) := by
  intro k
  induction k with
  | zero => simp [minP]
  | succ k ih =>
    cases h : f k with
    | true =>
      rw [minP_yes h, List.pairwise_append]
      refine ⟨ih, List.pairwise_singleton _ _, fun a ha b hb => ?_⟩
      obtain ⟨j, h1, _, h3⟩ := (minP_mem f k a).1 ha
      rw [List.mem_singleton.1 hb, h3]
      simp only
      omega
    | false => rw [minP_no h]; exact ih
theorem minP_merge (f : Nat → Bool) : mergeF (minP f 2881) = ofMarks f 2881 := by
  refine merge_eq_marks (minP_sorted f 2881) (fun x hx => ?_) (fun j hj => ?_)
  · obtain ⟨j, h1, _, h3⟩ := (minP_mem f 2881 x).1 hx
    rw [h3]; simp only; omega
  · constructor
    · intro h
      exact ⟨⟨j, j⟩, (minP_mem f 2881 _).2 ⟨j, hj, h, rfl⟩, by simp, by simp⟩
    · rintro ⟨x, hx, h1, h2⟩
      obtain ⟨i, _, hi, e⟩ := (minP_mem f 2881 x).1 hx
      rw [e] at h1 h2
      simp only at h1 h2
      obtain rfl : i = j := by omega
      exact hi
theorem below_grown {w w' : World} (h : Below w.heap.size w w') : w.grownBy w' none := ⟨h.os, h.tape, h.output, h.size, fun k hk _ => h.block k hk⟩
/-- The minutes at which an end of the band reaches a level. -/
def wetF (hi : Bool) (m : Int) (l : List PartD) (s : List SurgeD) (level : Int) (j : Nat) : Bool := decide (level ≤ endI hi m l s (j : Int))
def wetL (hi : Bool) (m : Int) (l : List PartD) (s : List SurgeD) (level : Int) : List WindowD := if fcB m l s = true then ofMarks (wetF hi m l s level) 2881 else []
theorem wetL_ok {hi : Bool} {m : Int} {l : List PartD} {s : List SurgeD} {level : Int} (h : fcB m l s = true) : wetL hi m l s level = ofMarks (wetF hi m l s level) 2881 := if_pos h
theorem wetL_bad {hi : Bool} {m : Int} {l : List PartD} {s : List SurgeD} {level : Int} (h : fcB m l s = false) : wetL hi m l s level = [] := if_neg (by rw [h]; simp)
theorem wetL_len (hi : Bool) (m : Int) (l : List PartD) (s : List SurgeD) (level : Int) : (wetL hi m l s level).length ≤ 2881 := by
  unfold wetL; split
  · exact ofMarks_len _ _
  · simp
/-- What the program's levelAtEnd answers at one of the ends. -/
def EndAt (hi : Bool) (e0 : Int) : Prop := ∀ (m : Int) (v u : Value) (l : List PartD) (s : List SurgeD) (t : Int) (w : World), SlP w v l → SlSurge w u s →
    Calls Try.prog 150 #[.agg #[.int .i64 m, v, u], .int .i64 t, .int .i64 e0] w fun e w' => e = .returned (.int .i64 (endI hi m l s t)) ∧ Below w.heap.size w w'
theorem endLo : EndAt false 0 := levelAtEndLo
set_option maxHeartbeats 8000000 in
theorem minutes1 (hi : Bool) (e0 : Int) (hEnd : EndAt hi e0) (m : Int) (A A' : Option Addr) (c c' : Nat) (l : List PartD) (s : List SurgeD) (level : Int) (Bf Be Bl : Nat) (w : World) (hF : FBox w Bf m (.slice A l.length c) (.slice A' s.length c') l s)
    (he : w.cell? ⟨Be, 0, none⟩ = some (.int .i64 e0)) (hlv : w.cell? ⟨Bl, 0, none⟩ = some (.int .i64 level)) :
    SeqW 149 #[.pointer (some ⟨Bf, 0, none⟩), .pointer (some ⟨Be, 0, none⟩), .pointer (some ⟨Bl, 0, none⟩)] (Below w.heap.size) 2881 (minP (wetF hi m l s level) 2881) w := by
  intro n hn lp J Jx W hW hJ hJx hY h0
  have HS := Lib.hid (fun (W' : World) (hb : Below w.heap.size w W') => show (fun w' => w'.cell? ⟨Bf, 0, none⟩ = some (.int .i64 m) ∧ w'.cell? ⟨Bf, 1, none⟩ = some (.slice A l.length c) ∧ w'.cell? ⟨Bf, 2, none⟩ = some (.slice A' s.length c') ∧ w'.cell? ⟨Be, 0, none⟩ = some (.int .i64 e0) ∧ w'.cell? ⟨Bl, 0, none⟩ = some (.int .i64 level) ∧ Hid (Below w.heap.size w w')) W' from ⟨cell_on hF.1 hb, cell_on hF.2.1 hb, cell_on hF.2.2.1 hb, cell_on he hb, cell_on hlv hb, Lib.hid hb⟩)
  have HP := Lib.hid hF.2.2.2.1
  have HU := Lib.hid hF.2.2.2.2
  have HJ := Lib.hid hJ
  have HY := Lib.hid hY
  have H0 := Lib.hid h0
  have HW := Lib.hid hW
  have HEND := Lib.hid hEnd
  clear hJ hJx hY h0 hW hF he hlv hEnd
  change CallsIn Fence.wide n Try.prog 149 #[.func (.yield lp) #[] #[], .pointer (some ⟨Bf, 0, none⟩), .pointer (some ⟨Be, 0, none⟩), .pointer (some ⟨Bl, 0, none⟩)] W _
  refine callsIn_of_wp Try.func149 rfl trivial ?_ rfl
  simp only [Try.ntmps149, List.size_toArray, List.length_cons, List.length_nil, Nat.reduceAdd, Nat.reduceSub, Array.replicate_succ, Array.replicate_zero, List.push_toArray, List.append_toArray, List.nil_append, List.cons_append]
  gi_wp2
  gi_loopw [6] (fun i wr => ∃ (k : Nat) (acc : List WindowD), k ≤ 2881 ∧ i = .int .i64 k ∧ Hid (minP (wetF hi m l s level) k = acc) ∧ Hid (J acc wr) ∧ Hid (Below w.heap.size w wr) ∧ w.heap.size ≤ wr.heap.size) (fun i _ => 2881 - (intOf i).toNat)
  case atStart => exact ⟨0, [], Nat.zero_le _, rfl, Lib.hid rfl, H0, HW, HW.out.size⟩
  case round =>
    obtain ⟨k, acc, hk, rfl, hE, hJs, hb, hsz⟩ := hrel
    have hgl := minP_len (wetF hi m l s level) k
    rw [hE.out] at hgl
    by_cases hlt : k < 2881
    rotate_left
    · obtain rfl : k = 2881 := by omega
      gi_wp2
      go_end0
      first
        | exact ⟨⟨_, rfl⟩, .inl ⟨_, hE.out.symm, hJs.out⟩⟩
        | exact ⟨⟨_, rfl⟩, .inl (by rw [hE.out]; exact hJs.out)⟩
    · gi_upto_region 3 with fail
      gi_cut [22] from 7 (fun b wd => ∃ b' : Bool, b = .bool b' ∧ Hid (b' = true → ∃ pre, Jx pre wd) ∧ Hid (b' = false → ∃ acc', minP (wetF hi m l s level) (k + 1) = acc' ∧ J acc' wd ∧ Below w.heap.size w wd))
      case first =>
        rename_i Jc Kc hJc hKc
        by_cases hwet : level ≤ endI hi m l s (k : Int)
        · have EF := Lib.hid (minP_yes (f := wetF hi m l s level) (k := k) (decide_eq_true hwet))
          rw [hE.out] at EF
          refine wpIn_region_headIn (S := fun w' => w'.cell? ⟨Bf, 0, none⟩ = some (.int .i64 m) ∧ w'.cell? ⟨Bf, 1, none⟩ = some (.slice A l.length c) ∧ w'.cell? ⟨Bf, 2, none⟩ = some (.slice A' s.length c') ∧ w'.cell? ⟨Be, 0, none⟩ = some (.int .i64 e0) ∧ w'.cell? ⟨Bl, 0, none⟩ = some (.int .i64 level) ∧ Hid (Below w.heap.size w w')) 5 9 rfl (by kernel_rfl) (by kernel_rfl) ?_ (fun hHeld => ?_)
          · exact HS.out _ hb.out.drew
          refine heldTo_take (lets_wide _ _) (by kernel_rfl) 5 (i := 0) (v := ?_) (by kernel_rfl) (by simp only [List.getElem?_toArray, List.getElem?_cons_zero]; rfl) (by kernel_rfl) (by kernel_rfl) (by kernel_rfl) (by exact fun _ _ _ h => h) (Or.inl ⟨by rfl, ?_⟩) (by assumption) ?_
          rotate_left
          focus (intro w' hSw; (try dsimp only at hSw); first | (go_simp; done) | (go_simp; with_reducible rfl))
          try simp only [Act.put, List.setIfInBounds_toArray, List.set_cons_zero, List.set_cons_succ]
          refine heldTo_take (lets_wide _ _) (by kernel_rfl) 5 (i := 1) (v := ?_) (by kernel_rfl) (by simp only [List.getElem?_toArray, List.getElem?_cons_succ, List.getElem?_cons_zero]; rfl) (by kernel_rfl) (by kernel_rfl) (by kernel_rfl) (by exact fun _ _ _ h => h) (Or.inl ⟨by rfl, ?_⟩) (by assumption) ?_
          rotate_left
          focus (intro w' hSw; (try dsimp only at hSw); first | (go_simp; done) | (go_simp; with_reducible rfl))
          try simp only [Act.put, List.setIfInBounds_toArray, List.set_cons_zero, List.set_cons_succ]
          refine heldTo_take (lets_wide _ _) (by kernel_rfl) 5 (i := 2) (v := ?_) (by kernel_rfl) (by simp only [List.getElem?_toArray, List.getElem?_cons_succ, List.getElem?_cons_zero]; rfl) (by kernel_rfl) (by kernel_rfl) (by kernel_rfl) (by exact fun _ _ _ h => h) (Or.inl ⟨by rfl, ?_⟩) (by assumption) ?_
          rotate_left
          focus (intro w' hSw; (try dsimp only at hSw); first | (go_simp; done) | (go_simp; with_reducible rfl))
          try simp only [Act.put, List.setIfInBounds_toArray, List.set_cons_zero, List.set_cons_succ]
          refine heldTo_take (lets_wide _ _) (by kernel_rfl) 5 (i := 4) (v := ?_) (by kernel_rfl) (by simp only [List.getElem?_toArray, List.getElem?_cons_succ, List.getElem?_cons_zero]; rfl) (by kernel_rfl) (by kernel_rfl) (by kernel_rfl) (by exact fun _ _ _ h => h) (Or.inl ⟨by rfl, ?_⟩) (by assumption) ?_
          rotate_left
          focus (intro w' hSw; (try dsimp only at hSw); first | (go_simp; done) | (go_simp; with_reducible rfl))
          try simp only [Act.put, List.setIfInBounds_toArray, List.set_cons_zero, List.set_cons_succ]
          refine heldTo_one (i := 3) (by kernel_rfl) (by simp only [List.getElem?_toArray, List.getElem?_cons_succ, List.getElem?_cons_zero]; rfl) (by rfl) (fun K hK => ?_)
          unfold Oper.wpIn
          refine ⟨fun _ _ => trivial, ?_⟩
          rw [Oper.semAt_eq _ _ _ (fun c h => by cases h)]
          go_simp
          have kB := Lib.hid hHeld.2.2.2.2.2.out
          refine callsIn_wide.2 ((HEND.out m _ _ l s (k : Int) _ (HP.out.below kB.out) (HU.out.below kB.out)).mono ?_)
          rintro e w1 ⟨rfl, hbk⟩
          have B1 := Lib.hid (kB.out.trans (hbk.mono kB.out.size))
          have J1 := Lib.hid (HJ.out _ _ w1 none hJs.out (below_grown (((Below.refl wr.heap.size wr).drew).trans hbk)) (fun r e => by cases e))
          clear hbk kB hHeld
          try dsimp only
          refine hK.out _ _ ?_ (fun hHeld => ?_)
          · exact HS.out _ B1.out
          clear hK K
          try simp only [Act.put, List.setIfInBounds_toArray, List.set_cons_zero, List.set_cons_succ]
          refine heldTo_end ?_
          try dsimp only
          clear hHeld
          obtain ⟨fn, tmps, assign, body, hy, hR⟩ := HY.out _ ⟨k, k⟩ w1 J1.out (by omega)
          have HR := Lib.hid hR
          clear hR
          dsimp only at hy
          refine wpAnyIn_take (i := 5) (v := ?_) rfl (by simp only [List.getElem?_toArray, List.getElem?_cons_succ, List.getElem?_cons_zero]; rfl) (by kernel_rfl) (by kernel_rfl) (by kernel_rfl) (by exact fun _ _ _ h => h) ⟨Or.inl ⟨by rfl, ?_⟩, fun _ => rfl⟩ ?_
          rotate_left
          focus (intro w'; first | (go_simp; done) | (go_simp; with_reducible rfl))
          try simp only [Act.put, List.setIfInBounds_toArray, List.set_cons_zero, List.set_cons_succ]
          refine wpAnyIn_take (i := 6) (v := ?_) rfl (by simp only [List.getElem?_toArray, List.getElem?_cons_succ, List.getElem?_cons_zero]; rfl) (by kernel_rfl) (by kernel_rfl) (by kernel_rfl) (by exact fun _ _ _ h => h) ⟨Or.inl ⟨by rfl, ?_⟩, fun _ => rfl⟩ ?_
          rotate_left
          focus (intro w'; first | (go_simp; done) | (go_simp; with_reducible rfl))
          try simp only [Act.put, List.setIfInBounds_toArray, List.set_cons_zero, List.set_cons_succ]
          refine wpAnyIn_take (i := 7) (v := ?_) rfl (by simp only [List.getElem?_toArray, List.getElem?_cons_succ, List.getElem?_cons_zero]; rfl) (by kernel_rfl) (by kernel_rfl) (by kernel_rfl) (by exact fun _ _ _ h => h) ⟨Or.inl ⟨by rfl, ?_⟩, fun _ => rfl⟩ ?_
          rotate_left
          focus (intro w'; first | (go_simp; done) | (go_simp; with_reducible rfl))
          try simp only [Act.put, List.setIfInBounds_toArray, List.set_cons_zero, List.set_cons_succ]
          refine wpAnyIn_take (i := 8) (v := ?_) rfl (by simp only [List.getElem?_toArray, List.getElem?_cons_succ, List.getElem?_cons_zero]; rfl) (by kernel_rfl) (by kernel_rfl) (by kernel_rfl) (by exact fun _ _ _ h => h) ⟨Or.inl ⟨by rfl, ?_⟩, fun _ => rfl⟩ ?_
          rotate_left
          focus (intro w'; first | (go_simp; done) | (go_simp; with_reducible rfl))
          try simp only [Act.put, List.setIfInBounds_toArray, List.set_cons_zero, List.set_cons_succ]
          refine wpAnyIn_take (i := 9) (v := ?_) rfl (by simp only [List.getElem?_toArray, List.getElem?_cons_succ, List.getElem?_cons_zero]; rfl) (by kernel_rfl) (by kernel_rfl) (by kernel_rfl) (by exact fun _ _ _ h => h) ⟨Or.inl ⟨by rfl, ?_⟩, fun _ => rfl⟩ ?_
          rotate_left
          focus (intro w'; first | (go_simp; done) | (go_simp; with_reducible rfl))
          try simp only [Act.put, List.setIfInBounds_toArray, List.set_cons_zero, List.set_cons_succ]
          refine wpAnyIn_take (i := 10) (v := ?_) rfl (by simp only [List.getElem?_toArray, List.getElem?_cons_succ, List.getElem?_cons_zero]; rfl) (by kernel_rfl) (by kernel_rfl) (by kernel_rfl) (by exact fun _ _ _ h => h) ⟨Or.inl ⟨by rfl, ?_⟩, fun _ => rfl⟩ ?_
          rotate_left
          focus (intro w'; first | (go_simp; done) | (go_simp; with_reducible rfl))
          try simp only [Act.put, List.setIfInBounds_toArray, List.set_cons_zero, List.set_cons_succ]
          refine anyIn_one (i := 11) (by kernel_rfl) (by simp only [List.getElem?_toArray, List.getElem?_cons_succ, List.getElem?_cons_zero]; rfl) (by rfl) (fun K hK => ?_)
          unfold Oper.wpIn
          refine ⟨fun _ _ => trivial, ?_⟩
          rw [Oper.semAt_eq _ _ _ (fun c h => by cases h)]
          go_simp
          refine HR.out.mono ?_
          rintro e W3 (⟨rfl, hJ3, hk3⟩ | ⟨rfl, hJx3⟩)
          · skip
            have H3 := Lib.hid hJ3
            have HB3 := Lib.hid (B1.out.trans hk3)
            clear hJ3 hk3 hy
            try dsimp only
            refine hK.out _ _ ?_
            clear hK K
            try simp only [Act.put, List.setIfInBounds_toArray, List.set_cons_zero, List.set_cons_succ]
            refine wpAnyIn_take (i := 12) (v := ?_) rfl (by simp only [List.getElem?_toArray, List.getElem?_cons_succ, List.getElem?_cons_zero]; rfl) (by kernel_rfl) (by kernel_rfl) (by kernel_rfl) (by exact fun _ _ _ h => h) ⟨Or.inl ⟨by rfl, ?_⟩, fun _ => rfl⟩ ?_
            rotate_left
            focus (intro w'; first | (go_simp; done) | (go_simp; with_reducible rfl))
            try simp only [Act.put, List.setIfInBounds_toArray, List.set_cons_zero, List.set_cons_succ]
            refine wpAnyIn_take (i := 13) (v := ?_) rfl (by simp only [List.getElem?_toArray, List.getElem?_cons_succ, List.getElem?_cons_zero]; rfl) (by kernel_rfl) (by kernel_rfl) (by kernel_rfl) (by exact fun _ _ _ h => h) ⟨Or.inl ⟨by rfl, ?_⟩, fun _ => rfl⟩ ?_
            rotate_left
            focus (intro w'; first | (go_simp; done) | (go_simp; with_reducible rfl))
            try simp only [Act.put, List.setIfInBounds_toArray, List.set_cons_zero, List.set_cons_succ]
            refine wpAnyIn_done (by kernel_rfl) ?_ _
            dsimp only [onlyN]
            refine hKc _ _ (Met.intro (hJc _ _ ?_))
            repeat apply Exists.intro
            refine ⟨?rel, rfl⟩
            case rel => exact ⟨false, rfl, Lib.hid (fun h => by cases h), Lib.hid (fun _ => ⟨_, EF.out, H3.out, HB3.out⟩)⟩
          · skip
            have H3 := Lib.hid hJx3
            clear hJx3 hy
            try dsimp only
            refine hK.out _ _ ?_
            clear hK K
            try simp only [Act.put, List.setIfInBounds_toArray, List.set_cons_zero, List.set_cons_succ]
            refine wpAnyIn_take (i := 12) (v := ?_) rfl (by simp only [List.getElem?_toArray, List.getElem?_cons_succ, List.getElem?_cons_zero]; rfl) (by kernel_rfl) (by kernel_rfl) (by kernel_rfl) (by exact fun _ _ _ h => h) ⟨Or.inl ⟨by rfl, ?_⟩, fun _ => rfl⟩ ?_
            rotate_left
            focus (intro w'; first | (go_simp; done) | (go_simp; with_reducible rfl))
            try simp only [Act.put, List.setIfInBounds_toArray, List.set_cons_zero, List.set_cons_succ]
            refine wpAnyIn_take (i := 13) (v := ?_) rfl (by simp only [List.getElem?_toArray, List.getElem?_cons_succ, List.getElem?_cons_zero]; rfl) (by kernel_rfl) (by kernel_rfl) (by kernel_rfl) (by exact fun _ _ _ h => h) ⟨Or.inl ⟨by rfl, ?_⟩, fun _ => rfl⟩ ?_
            rotate_left
            focus (intro w'; first | (go_simp; done) | (go_simp; with_reducible rfl))
            try simp only [Act.put, List.setIfInBounds_toArray, List.set_cons_zero, List.set_cons_succ]
            refine wpAnyIn_done (by kernel_rfl) ?_ _
            dsimp only [onlyN]
            refine hKc _ _ (Met.intro (hJc _ _ ?_))
            repeat apply Exists.intro
            refine ⟨?rel, rfl⟩
            case rel => exact ⟨true, rfl, Lib.hid (fun _ => ⟨_, H3.out⟩), Lib.hid (fun h => by cases h)⟩
        · have EF := Lib.hid (minP_no (f := wetF hi m l s level) (k := k) (decide_eq_false hwet))
          rw [hE.out] at EF
          refine wpIn_region_headIn (S := fun w' => w'.cell? ⟨Bf, 0, none⟩ = some (.int .i64 m) ∧ w'.cell? ⟨Bf, 1, none⟩ = some (.slice A l.length c) ∧ w'.cell? ⟨Bf, 2, none⟩ = some (.slice A' s.length c') ∧ w'.cell? ⟨Be, 0, none⟩ = some (.int .i64 e0) ∧ w'.cell? ⟨Bl, 0, none⟩ = some (.int .i64 level) ∧ Hid (Below w.heap.size w w')) 5 9 rfl (by kernel_rfl) (by kernel_rfl) ?_ (fun hHeld => ?_)
          · exact HS.out _ hb.out.drew
          refine heldTo_take (lets_wide _ _) (by kernel_rfl) 5 (i := 0) (v := ?_) (by kernel_rfl) (by simp only [List.getElem?_toArray, List.getElem?_cons_zero]; rfl) (by kernel_rfl) (by kernel_rfl) (by kernel_rfl) (by exact fun _ _ _ h => h) (Or.inl ⟨by rfl, ?_⟩) (by assumption) ?_
          rotate_left
          focus (intro w' hSw; (try dsimp only at hSw); first | (go_simp; done) | (go_simp; with_reducible rfl))
          try simp only [Act.put, List.setIfInBounds_toArray, List.set_cons_zero, List.set_cons_succ]
          refine heldTo_take (lets_wide _ _) (by kernel_rfl) 5 (i := 1) (v := ?_) (by kernel_rfl) (by simp only [List.getElem?_toArray, List.getElem?_cons_succ, List.getElem?_cons_zero]; rfl) (by kernel_rfl) (by kernel_rfl) (by kernel_rfl) (by exact fun _ _ _ h => h) (Or.inl ⟨by rfl, ?_⟩) (by assumption) ?_
          rotate_left
          focus (intro w' hSw; (try dsimp only at hSw); first | (go_simp; done) | (go_simp; with_reducible rfl))
          try simp only [Act.put, List.setIfInBounds_toArray, List.set_cons_zero, List.set_cons_succ]
          refine heldTo_take (lets_wide _ _) (by kernel_rfl) 5 (i := 2) (v := ?_) (by kernel_rfl) (by simp only [List.getElem?_toArray, List.getElem?_cons_succ, List.getElem?_cons_zero]; rfl) (by kernel_rfl) (by kernel_rfl) (by kernel_rfl) (by exact fun _ _ _ h => h) (Or.inl ⟨by rfl, ?_⟩) (by assumption) ?_
          rotate_left
          focus (intro w' hSw; (try dsimp only at hSw); first | (go_simp; done) | (go_simp; with_reducible rfl))
          try simp only [Act.put, List.setIfInBounds_toArray, List.set_cons_zero, List.set_cons_succ]
          refine heldTo_take (lets_wide _ _) (by kernel_rfl) 5 (i := 4) (v := ?_) (by kernel_rfl) (by simp only [List.getElem?_toArray, List.getElem?_cons_succ, List.getElem?_cons_zero]; rfl) (by kernel_rfl) (by kernel_rfl) (by kernel_rfl) (by exact fun _ _ _ h => h) (Or.inl ⟨by rfl, ?_⟩) (by assumption) ?_
          rotate_left
          focus (intro w' hSw; (try dsimp only at hSw); first | (go_simp; done) | (go_simp; with_reducible rfl))
          try simp only [Act.put, List.setIfInBounds_toArray, List.set_cons_zero, List.set_cons_succ]
          refine heldTo_one (i := 3) (by kernel_rfl) (by simp only [List.getElem?_toArray, List.getElem?_cons_succ, List.getElem?_cons_zero]; rfl) (by rfl) (fun K hK => ?_)
          unfold Oper.wpIn
          refine ⟨fun _ _ => trivial, ?_⟩
          rw [Oper.semAt_eq _ _ _ (fun c h => by cases h)]
          go_simp
          have kB := Lib.hid hHeld.2.2.2.2.2.out
          refine callsIn_wide.2 ((HEND.out m _ _ l s (k : Int) _ (HP.out.below kB.out) (HU.out.below kB.out)).mono ?_)
          rintro e w1 ⟨rfl, hbk⟩
          have B1 := Lib.hid (kB.out.trans (hbk.mono kB.out.size))
          have J1 := Lib.hid (HJ.out _ _ w1 none hJs.out (below_grown (((Below.refl wr.heap.size wr).drew).trans hbk)) (fun r e => by cases e))
          clear hbk kB hHeld
          try dsimp only
          refine hK.out _ _ ?_ (fun hHeld => ?_)
          · exact HS.out _ B1.out
          clear hK K
          try simp only [Act.put, List.setIfInBounds_toArray, List.set_cons_zero, List.set_cons_succ]
          refine heldTo_end ?_
          try dsimp only
          clear hHeld
          refine wpAnyIn_take (i := 5) (v := ?_) rfl (by simp only [List.getElem?_toArray, List.getElem?_cons_succ, List.getElem?_cons_zero]; rfl) (by kernel_rfl) (by kernel_rfl) (by kernel_rfl) (by exact fun _ _ _ h => h) ⟨Or.inl ⟨by rfl, ?_⟩, fun _ => rfl⟩ ?_
          rotate_left
          focus (intro w'; first | (go_simp; done) | (go_simp; with_reducible rfl))
          try simp only [Act.put, List.setIfInBounds_toArray, List.set_cons_zero, List.set_cons_succ]
          refine wpAnyIn_take (i := 6) (v := ?_) rfl (by simp only [List.getElem?_toArray, List.getElem?_cons_succ, List.getElem?_cons_zero]; rfl) (by kernel_rfl) (by kernel_rfl) (by kernel_rfl) (by exact fun _ _ _ h => h) ⟨Or.inl ⟨by rfl, ?_⟩, fun _ => rfl⟩ ?_
          rotate_left
          focus (intro w'; first | (go_simp; done) | (go_simp; with_reducible rfl))
          try simp only [Act.put, List.setIfInBounds_toArray, List.set_cons_zero, List.set_cons_succ]
          refine wpAnyIn_take (i := 7) (v := undef) rfl (by simp only [List.getElem?_toArray, List.getElem?_cons_succ, List.getElem?_cons_zero]; rfl) (by kernel_rfl) (by kernel_rfl) (by kernel_rfl) (by exact fun _ _ _ h => h) ⟨Or.inr ⟨by rfl, rfl⟩, fun _ => rfl⟩ ?_
          try simp only [Act.put, List.setIfInBounds_toArray, List.set_cons_zero, List.set_cons_succ]
          refine wpAnyIn_take (i := 8) (v := undef) rfl (by simp only [List.getElem?_toArray, List.getElem?_cons_succ, List.getElem?_cons_zero]; rfl) (by kernel_rfl) (by kernel_rfl) (by kernel_rfl) (by exact fun _ _ _ h => h) ⟨Or.inr ⟨by rfl, rfl⟩, fun _ => rfl⟩ ?_
          try simp only [Act.put, List.setIfInBounds_toArray, List.set_cons_zero, List.set_cons_succ]
          refine wpAnyIn_take (i := 9) (v := undef) rfl (by simp only [List.getElem?_toArray, List.getElem?_cons_succ, List.getElem?_cons_zero]; rfl) (by kernel_rfl) (by kernel_rfl) (by kernel_rfl) (by exact fun _ _ _ h => h) ⟨Or.inr ⟨by rfl, rfl⟩, fun _ => rfl⟩ ?_
          try simp only [Act.put, List.setIfInBounds_toArray, List.set_cons_zero, List.set_cons_succ]
          refine wpAnyIn_take (i := 10) (v := undef) rfl (by simp only [List.getElem?_toArray, List.getElem?_cons_succ, List.getElem?_cons_zero]; rfl) (by kernel_rfl) (by kernel_rfl) (by kernel_rfl) (by exact fun _ _ _ h => h) ⟨Or.inr ⟨by rfl, rfl⟩, fun _ => rfl⟩ ?_
          try simp only [Act.put, List.setIfInBounds_toArray, List.set_cons_zero, List.set_cons_succ]
          refine wpAnyIn_take (i := 11) (v := undef) rfl (by simp only [List.getElem?_toArray, List.getElem?_cons_succ, List.getElem?_cons_zero]; rfl) (by kernel_rfl) (by kernel_rfl) (by kernel_rfl) (by exact fun _ _ _ h => h) ⟨Or.inr ⟨by rfl, rfl⟩, fun _ => rfl⟩ ?_
          try simp only [Act.put, List.setIfInBounds_toArray, List.set_cons_zero, List.set_cons_succ]
          refine wpAnyIn_take (i := 12) (v := undef) rfl (by simp only [List.getElem?_toArray, List.getElem?_cons_succ, List.getElem?_cons_zero]; rfl) (by kernel_rfl) (by kernel_rfl) (by kernel_rfl) (by exact fun _ _ _ h => h) ⟨Or.inr ⟨by rfl, rfl⟩, fun _ => rfl⟩ ?_
          try simp only [Act.put, List.setIfInBounds_toArray, List.set_cons_zero, List.set_cons_succ]
          refine wpAnyIn_take (i := 13) (v := ?_) rfl (by simp only [List.getElem?_toArray, List.getElem?_cons_succ, List.getElem?_cons_zero]; rfl) (by kernel_rfl) (by kernel_rfl) (by kernel_rfl) (by exact fun _ _ _ h => h) ⟨Or.inl ⟨by rfl, ?_⟩, fun _ => rfl⟩ ?_
          rotate_left
          focus (intro w'; first | (go_simp; done) | (go_simp; with_reducible rfl))
          try simp only [Act.put, List.setIfInBounds_toArray, List.set_cons_zero, List.set_cons_succ]
          refine wpAnyIn_done (by kernel_rfl) ?_ _
          dsimp only [onlyN]
          refine hKc _ _ (Met.intro (hJc _ _ ?_))
          repeat apply Exists.intro
          refine ⟨?rel, rfl⟩
          case rel => exact ⟨false, rfl, Lib.hid (fun h => by cases h), Lib.hid (fun _ => ⟨_, EF.out, J1.out, B1.out⟩)⟩
      case rest =>
        obtain ⟨b, rfl, hbt, hbf⟩ := hcut
        cases b with
        | true =>
          obtain ⟨pre, hpre⟩ := hbt.out rfl
          have H3 := Lib.hid hpre
          clear hpre hbt hbf
          gi_wp2
          refine bodyPost_ret (results_none rfl _ _ _) rfl ?_
          exact ⟨⟨_, rfl⟩, .inr ⟨_, trivial, H3.out⟩⟩
        | false =>
          obtain ⟨acc', e1, hj, hbb⟩ := hbf.out rfl
          have E3 := Lib.hid e1
          have H3 := Lib.hid hj
          have HB3 := Lib.hid hbb
          have hs3 := hbb.size
          clear e1 hj hbb hbt hbf
          gi_wp2
          go_roundw
          case rel => exact ⟨k + 1, acc', by omega, by go_num, E3, H3, HB3, hs3⟩
          case measure => simp [intOf]; omega
end Go.Proofs.Ytooeikimoheecaa
