
/- What InOrderLaw rests on, part 23: contracts and mathematics. -/
import Derived.Test.YtooeikimoheecaaIo17
import Derived.Test.YtooeikimoheecaaIo18
import Derived.Test.YtooeikimoheecaaIo11
import Derived.Test.YtooeikimoheecaaIo19
import Derived.Test.YtooeikimoheecaaIo13
namespace Go.Proofs.Ytooeikimoheecaa
open Go.RowKit
set_option maxRecDepth 100000
/-- The closure of ShipNamed. -/
theorem named1 (x : ShipD) (s : ByteArray) (Ba : Nat) (w : World) (ha : w.cell? ⟨Ba, 0, none⟩ = some (.string s)) :
    Calls Try.prog 96 #[x.val, .pointer (some ⟨Ba, 0, none⟩)] w fun e w' => e = .returned (.bool (shipNm s x)) ∧ Below w.heap.size w w' := by
  obtain ⟨na, le, dr, li, tu, sl⟩ := x
  have B := Lib.hid (Joins.below_alloc1 w (.cells #[.string na, .int .i64 le, .int .i64 dr, .int .i64 li, .int .i64 tu, .bool sl] 46))
  have ya := (B.out.cell (p := ⟨Ba, 0, none⟩) (World.block_lt_of_cell? w _ ha)).trans ha
  clear ha
  cases h1 : (na.toList == s.toList)
  all_goals
    have E := Lib.hid (show shipNm s ⟨na, le, dr, li, tu, sl⟩ = _ from h1)
    go_enter Try.func96, Try.ntmps96
    go_wp2
    go_ret
    exact ⟨ret_bool E.out.symm, B.out⟩
set_option maxHeartbeats 2000000 in
/-- slices.IndexFunc over ships, with any closure whose answers are p. -/
theorem shipIndex_any (fv : Value) (p : ShipD → Bool) (v : Value) (l : List ShipD) (s : ByteArray) (Ba : Nat) (w : World) (h : SlShip w v l) (ha : w.cell? ⟨Ba, 0, none⟩ = some (.string s)) (hp : p = shipNm s) (hfv : fv = .func (.func 96) #[] #[.pointer (some ⟨Ba, 0, none⟩)]) :
    Calls Try.prog 95 #[v, fv] w fun e w' => e = .returned (.int .i64 (firstI p l)) ∧ Below w.heap.size w w' := by
  subst hp hfv
  have HS := Lib.hid h
  have hl := h.1
  obtain ⟨A1, c1, rfl⟩ := h.at
  have hla : Ba < w.heap.size := World.block_lt_of_cell? w _ ha
  have HA := Lib.hid ha
  clear h ha
  go_enter Try.func95, Try.ntmps95
  go_wp2
  go_loopw [8] (fun i wr => ∃ k : Nat, k ≤ l.length ∧ i = .int .i64 k ∧ Hid (NoOne (shipNm s) l k) ∧ Hid (Below w.heap.size w wr)) (fun i _ => l.length - (intOf i).toNat)
  case atStart => exact ⟨0, Nat.zero_le _, rfl, Lib.hid (NoOne.zero _ _), Lib.hid (Below.refl _ _)⟩
  case round =>
    obtain ⟨k, hk, rfl, hN, hb⟩ := hrel
    by_cases hlt : k < l.length
    · obtain ⟨x, hx⟩ : ∃ x, l[k]? = some x := ⟨_, List.getElem?_eq_getElem hlt⟩
      rcases HS.out.2 with ⟨he, _⟩ | ⟨g, o, c, e, hpos, hcap, hc⟩
      · rw [he] at hlt; simp at hlt
      · injection e with hA _ hcp
        subst hA hcp
        obtain ⟨q0, q1, q2, q3, q4, q5⟩ := SlShip.cells hc k x hx
        have hg : g < w.heap.size := World.block_lt_of_cell? w ⟨g, o + k * 6, none⟩ q0
        have y0 := (hb.out.cell (p := ⟨g, o + k * 6, none⟩) hg).trans q0
        have y1 := (hb.out.cell (p := ⟨g, o + k * 6 + 1, none⟩) hg).trans q1
        have y2 := (hb.out.cell (p := ⟨g, o + k * 6 + 2, none⟩) hg).trans q2
        have y3 := (hb.out.cell (p := ⟨g, o + k * 6 + 3, none⟩) hg).trans q3
        have y4 := (hb.out.cell (p := ⟨g, o + k * 6 + 4, none⟩) hg).trans q4
        have y5 := (hb.out.cell (p := ⟨g, o + k * 6 + 5, none⟩) hg).trans q5
        have YA := Lib.hid ((hb.out.cell (p := ⟨Ba, 0, none⟩) hla).trans HA.out)
        have HX := Lib.hid hx
        clear q0 q1 q2 q3 q4 q5 hx hc
        obtain ⟨t, ht⟩ : ∃ t, shipNm s x = t := ⟨_, rfl⟩
        have HT := Lib.hid ht
        clear ht
        go_wp2_with fail
        refine (named1 x s Ba _ YA.out).mono ?_
        rw [HT.out]
        rintro e w5 ⟨rfl, hb5⟩
        have hb6 := Lib.hid (hb.out.trans (hb5.mono hb.out.size))
        clear hb5 y0 y1 y2 y3 y4 y5
        cases t with
        | true =>
          have E := Lib.hid (firstI_at hN.out HX.out HT.out)
          go_wp2
          go_ret
          exact ⟨ret_int E.out.symm, hb6.out⟩
        | false =>
          have N2 := Lib.hid (hN.out.next HX.out HT.out)
          go_wp2
          go_roundw
          case rel => exact ⟨k + 1, by omega, by go_num, N2, hb6⟩
          case measure => simp [intOf]; omega
    · obtain rfl : k = l.length := by omega
      have E := Lib.hid (firstI_none hN.out)
      go_wp2
      go_ret
      exact ⟨ret_int E.out.symm, hb.out⟩
theorem implShipNamed (v : Value) (l : List ShipD) (s : ByteArray) (w : World) (h : SlShip w v l) (_ : ∀ x ∈ l, ShipD.wf x) (_ : s.size ≤ maxLen) :
    Calls Try.prog 55 #[v, .string s] w fun e w' => e = .returned (.int .i64 (shipI l s)) ∧ Below w.heap.size w w' := by
  have B := Lib.hid (Joins.below_alloc1 w (.cells #[.string s] 9))
  have HS := Lib.hid (SlShip.below h B.out)
  obtain ⟨A1, c1, rfl⟩ := h.at
  have C0 := Lib.hid (show (w.alloc (.cells #[.string s] 9)).cell? ⟨w.heap.size, 0, none⟩ = some (.string s) from (Blk.new w #[.string s] 9).cell 0)
  clear h
  go_enter Try.func55, Try.ntmps55
  go_wp2_with fail
  refine (shipIndex_any _ (shipNm s) _ l s _ _ HS.out C0.out rfl rfl).mono ?_
  rintro e w1 ⟨rfl, hb1⟩
  have B1 := Lib.hid (B.out.trans (hb1.mono B.out.size))
  clear hb1
  go_wp2
  go_ret
  exact ⟨rfl, B1.out⟩
set_option maxHeartbeats 8000000 in
theorem implFleetOk (v : Value) (l : List ShipD) (w : World) (h : SlShip w v l) (hw : ∀ x ∈ l, ShipD.wf x) :
    Calls Try.prog 13 #[v] w fun e w' => e = .returned (.bool (fleetB l)) ∧ Below w.heap.size w w' := by
  have HS := Lib.hid h
  have HWF := Lib.hid hw
  have hl := h.1
  obtain ⟨A1, c1, rfl⟩ := h.at
  clear h hw
  by_cases hlen : 6 < l.length
  · have E := Lib.hid (fleetB_long hlen)
    go_enter Try.func13, Try.ntmps13
    go_wp2
    go_ret
    exact ⟨ret_bool E.out.symm, Below.refl _ _⟩
  go_enter Try.func13, Try.ntmps13
  go_wp2
  go_loopw [10] (fun i wr => ∃ k : Nat, k ≤ l.length ∧ i = .int .i64 k ∧ Hid (FirstF l k) ∧ Hid (Below w.heap.size w wr)) (fun i _ => l.length - (intOf i).toNat)
  case atStart => exact ⟨0, Nat.zero_le _, rfl, Lib.hid (FirstF.zero _), Lib.hid (Below.refl _ _)⟩
  case round =>
    obtain ⟨k, hk, rfl, hF, hb⟩ := hrel
    have hzs := hb.out.size
    by_cases hlt : k < l.length
    · obtain ⟨x, hx⟩ : ∃ x, l[k]? = some x := ⟨_, List.getElem?_eq_getElem hlt⟩
      rcases HS.out.2 with ⟨he, _⟩ | ⟨g, o, c, e, hpos, hcap, hc⟩
      · rw [he] at hlt; simp at hlt
      · injection e with hA _ hcp
        subst hA hcp
        obtain ⟨q0, q1, q2, q3, q4, q5⟩ := SlShip.cells hc k x hx
        have hg : g < w.heap.size := World.block_lt_of_cell? w ⟨g, o + k * 6, none⟩ q0
        have y0 := (hb.out.cell (p := ⟨g, o + k * 6, none⟩) hg).trans q0
        have y1 := (hb.out.cell (p := ⟨g, o + k * 6 + 1, none⟩) hg).trans q1
        have y2 := (hb.out.cell (p := ⟨g, o + k * 6 + 2, none⟩) hg).trans q2
        have y3 := (hb.out.cell (p := ⟨g, o + k * 6 + 3, none⟩) hg).trans q3
        have y4 := (hb.out.cell (p := ⟨g, o + k * 6 + 4, none⟩) hg).trans q4
        have y5 := (hb.out.cell (p := ⟨g, o + k * 6 + 5, none⟩) hg).trans q5
        have HX := Lib.hid hx
        have XW := Lib.hid (HWF.out x (List.mem_of_getElem? hx))
        clear q0 q1 q2 q3 q4 q5 hx hc
        have hal := Joins.below_alloc1 wr (.cells #[.string x.name, .int .i64 x.length, .int .i64 x.draught, .int .i64 x.line, .int .i64 x.tugs, .bool x.slow] 46)
        have hb2 := Lib.hid (hb.out.trans (hal.mono hzs))
        have SB := Lib.hid (Blk.new wr #[.string x.name, .int .i64 x.length, .int .i64 x.draught, .int .i64 x.line, .int .i64 x.tugs, .bool x.slow] 46)
        clear hal
        obtain ⟨t, ht⟩ : ∃ t, shipB x = t := ⟨_, rfl⟩
        have HT := Lib.hid ht
        clear ht
        go_wp2_with fail
        refine (implShipOk x _ XW.out).mono ?_
        rw [HT.out]
        rintro e w2 ⟨rfl, hb3⟩
        have z0 := (SB.out.below hb3).cell 0
        simp at z0
        have hb4 := Lib.hid (hb2.out.trans (hb3.mono hb2.out.size))
        clear hb3 y0 y1 y2 y3 y4 y5
        cases t with
        | false =>
          have E := Lib.hid (fleetB_no hlt (by rw [flAt_at HX.out, HT.out]; rfl))
          go_wp2
          go_ret
          exact ⟨ret_bool E.out.symm, hb4.out⟩
        | true =>
          obtain ⟨nI, hnI⟩ : ∃ n, shipI l x.name = n := ⟨_, rfl⟩
          have HNI := Lib.hid hnI
          clear hnI
          go_wp2_with fail
          refine (implShipNamed _ l x.name _ (HS.out.below hb4.out) HWF.out XW.out.1).mono ?_
          rw [HNI.out]
          rintro e w3 ⟨rfl, hb5⟩
          have hb6 := Lib.hid (hb4.out.trans (hb5.mono hb4.out.size))
          clear hb5 z0
          cases he : (nI == (k : Int)) with
          | false =>
            have E := Lib.hid (fleetB_no hlt (by rw [flAt_at HX.out, HT.out, HNI.out, he]; rfl))
            have he' : nI ≠ (k : Int) := by simpa using he
            go_wp2
            go_ret
            exact ⟨ret_bool E.out.symm, hb6.out⟩
          | true =>
            have F2 := Lib.hid (hF.out.next (by rw [flAt_at HX.out, HT.out, HNI.out, he]; rfl))
            have he' : nI = (k : Int) := by simpa using he
            subst he'
            go_wp2
            go_roundw
            case rel => exact ⟨k + 1, by omega, by go_num, F2, hb6⟩
            case measure => simp [intOf]; omega
    · obtain rfl : k = l.length := by omega
      have E := Lib.hid (fleetB_mk (by omega) hF.out)
      go_wp2
      go_ret
      exact ⟨ret_bool E.out.symm, hb.out⟩
end Go.Proofs.Ytooeikimoheecaa
namespace Go.Proofs.Ytooeikimoheecaa
open Go.RowKit
set_option maxRecDepth 100000
structure HarbD where
  m : Int
  l : List PartD
  s : List SurgeD
  ch : ChartRnd
  fl : List ShipD
  gap : Int
  nm : Bool
  tu : Int
  pi : Int
  re : Int
  mv : List Int
def HarbOk (h : HarbD) : Prop := fcB (h.m - 150) h.l h.s = true ∧ h.s.length ≤ 3 ∧ h.ch.ok ∧ (1 ≤ h.fl.length ∧ h.fl.length ≤ 3) ∧ (∀ (j : Nat) x, h.fl[j]? = some x → shipGood j x ∧ x.tugs ≤ 1) ∧ (0 ≤ h.gap ∧ h.gap < 30) ∧ (1 ≤ h.tu ∧ h.tu ≤ 4) ∧ (1 ≤ h.pi ∧ h.pi ≤ 3) ∧ (0 ≤ h.re ∧ h.re < 60) ∧ h.mv.length = 64 ∧ (∀ x ∈ h.mv, 0 ≤ x ∧ x ≤ 20)
/-- The lists but the fleet. -/
def Own5 (W : World) (base : Nat) (v0 v1 v2 v3 v5 : Value) (l : List PartD) (s : List SurgeD) (pts : List PointD) (segs : List SegmentD) (mv : List Int) : Prop := OwnP W base v0 l ∧ OwnSurge W base v1 s ∧ OwnPoint W base v2 pts ∧ OwnSegment W base v3 segs ∧ OwnInt W base v5 mv
section
variable {W W' : World} {base : Nat} {v0 v1 v2 v3 v5 : Value} {l : List PartD} {s : List SurgeD} {pts : List PointD} {segs : List SegmentD} {mv : List Int}
theorem Own5.kept {row : Option Nat} (h : Own5 W base v0 v1 v2 v3 v5 l s pts segs mv) (hg : W.grownBy W' row) (hne : ∀ b, row = some b → b < base) : Own5 W' base v0 v1 v2 v3 v5 l s pts segs mv := by
  obtain ⟨h0, h1, h2, h3, h5⟩ := h
  have k : ∀ b, base ≤ b → row ≠ some b := fun b hb e => by have := hne b e; omega
  exact ⟨own_kept h0 hg (fun b hv => k b (own_ge h0 hv).1), own_kept h1 hg (fun b hv => k b (own_ge h1 hv).1), own_kept h2 hg (fun b hv => k b (own_ge h2 hv).1), own_kept h3 hg (fun b hv => k b (own_ge h3 hv).1), own_kept h5 hg (fun b hv => k b (own_ge h5 hv).1)⟩
theorem Own5.below (h : Own5 W base v0 v1 v2 v3 v5 l s pts segs mv) (hb : Below W.heap.size W W') : Own5 W' base v0 v1 v2 v3 v5 l s pts segs mv := by
  obtain ⟨h0, h1, h2, h3, h5⟩ := h
  exact ⟨own_below h0 hb, own_below h1 hb, own_below h2 hb, own_below h3 hb, own_below h5 hb⟩
theorem Own5.lo {b' : Nat} (h : Own5 W base v0 v1 v2 v3 v5 l s pts segs mv) (hb : b' ≤ base) : Own5 W b' v0 v1 v2 v3 v5 l s pts segs mv := by
  obtain ⟨h0, h1, h2, h3, h5⟩ := h
  exact ⟨own_lo h0 hb, own_lo h1 hb, own_lo h2 hb, own_lo h3 hb, own_lo h5 hb⟩
/-- None of the lists lies in block b. -/
def Far5 (b : Nat) (v0 v1 v2 v3 v5 : Value) : Prop := v0.ownBlock ≠ some b ∧ v1.ownBlock ≠ some b ∧ v2.ownBlock ≠ some b ∧ v3.ownBlock ≠ some b ∧ v5.ownBlock ≠ some b
theorem Own5.set (h : Own5 W base v0 v1 v2 v3 v5 l s pts segs mv) {b : Nat} (hf : Far5 b v0 v1 v2 v3 v5) (j : Nat) (u : Value) : Own5 (W.setCell ⟨b, j, none⟩ u) base v0 v1 v2 v3 v5 l s pts segs mv := by
  obtain ⟨h0, h1, h2, h3, h5⟩ := h
  obtain ⟨f0, f1, f2, f3, f5⟩ := hf
  exact ⟨own_setO h0 f0 j u, own_setO h1 f1 j u, own_setO h2 f2 j u, own_setO h3 f3 j u, own_setO h5 f5 j u⟩
theorem Own5.far {b : Nat} (h : Own5 W base v0 v1 v2 v3 v5 l s pts segs mv) (hb : b < base ∨ W.heap.size ≤ b) : Far5 b v0 v1 v2 v3 v5 := by
  obtain ⟨h0, h1, h2, h3, h5⟩ := h
  exact ⟨fun e => by have := own_ge h0 e; omega, fun e => by have := own_ge h1 e; omega, fun e => by have := own_ge h2 e; omega, fun e => by have := own_ge h3 e; omega, fun e => by have := own_ge h5 e; omega⟩
end
theorem ships_tugs (l : List ShipD) : ∀ (k : Nat) (x : ShipD) (u : Int), l[k]? = some x → (l.flatMap ShipD.cells).set (k * 6 + 4) (.int .i64 u) = (l.set k { x with tugs := u }).flatMap ShipD.cells := by
  induction l with
  | nil => intro k x u h; simp at h
  | cons y l ih =>
    intro k x u h
    cases k with
    | zero => simp at h; subst h; simp [ShipD.cells]
    | succ k =>
      have h' : l[k]? = some x := by simpa using h
      rw [List.flatMap_cons, List.set_append_right _ _ (by simp; omega)]
      rw [show (k + 1) * 6 + 4 - (ShipD.cells y).length = k * 6 + 4 by simp; omega, ih k x u h']
      simp
/-- A ship's tugs are stored. -/
theorem fleet_put {W : World} {base g c : Nat} {l : List ShipD} (h : OwnShip W base (.slice (some ⟨g, 0, none⟩) l.length c) l) (hl : l.length ≤ 1000) {k : Nat} {x : ShipD} (hx : l[k]? = some x) (u : Int) :
    W.cell? ⟨g, k * 6 + 4, none⟩ = some (.int .i64 x.tugs) ∧ W.frozen? ⟨g, k * 6 + 4, none⟩ = false ∧ OwnShip (W.setCell ⟨g, k * 6 + 4, none⟩ (.int .i64 u)) base (.slice (some ⟨g, 0, none⟩) l.length c) (l.set k { x with tugs := u }) := by
  have hk := (List.getElem?_eq_some_iff.1 hx).1
  have h' := h
  unfold OwnShip OwnOf at h'
  have hsl := own_sl shipLen (k := 6) (cs := ShipD.cells) h (by omega)
  refine ⟨?_, World.ownsRow.frozenAt h' _, ?_⟩
  · rcases hsl.2 with ⟨e, _⟩ | ⟨g', o', c', e, _, _, hc⟩
    · rw [e] at hk; simp at hk
    · injection e with e1 _ _
      injection e1 with e1
      injection e1 with e1 e2
      subst e1 e2
      have := (SlShip.cells hc k x hx).2.2.2.2.1
      simpa using this
  · have hs := (World.ownsRow.stored h' (k * 6 + 4) (.int .i64 u)).1
    rw [ships_tugs l k x u hx] at hs
    unfold OwnShip OwnOf
    rw [List.length_set]
    exact hs
end Go.Proofs.Ytooeikimoheecaa
