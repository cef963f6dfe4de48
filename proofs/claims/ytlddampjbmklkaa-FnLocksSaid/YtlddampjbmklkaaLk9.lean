
/- What LocksLaw rests on, part 9: contracts and mathematics. -/
import Derived.Test.YtlddampjbmklkaaLk6
import Derived.Test.YtlddampjbmklkaaLk3
import Derived.Test.YtlddampjbmklkaaLk1
import Derived.Test.YtlddampjbmklkaaLk5
import Derived.Test.YtlddampjbmklkaaLk2
import Derived.Deep.AppendLies
import Derived.Deep.Upon
import Derived.Lib.SliceRun
import Derived.Deep.RegionHeld3
import Derived.Deep.DeepCutAuto
namespace Go.Proofs.Ytlddampjbmklkaa
open Go.RowKit
set_option maxRecDepth 100000
set_option maxHeartbeats 4000000 in
theorem specShipNamed (v : Value) (l : List ShipD) (s : ByteArray) (w : World) (h : SlShip w v l) (_ : ∀ x ∈ l, ShipD.wf x) :
    Calls Try.prog 78 #[v, .string s] w fun e w' => e = .returned (.int .i64 (shipI l s)) ∧ Below w.heap.size w w' := by
  have HS := Lib.hid h
  have hl := h.1
  obtain ⟨A1, c1, rfl⟩ := h.at
  clear h
  go_enter Try.func78, Try.ntmps78
  go_wp2
  go_loopw [9] (fun i wr => ∃ k : Nat, k ≤ l.length ∧ i = .int .i64 k ∧ Hid (NoOne (shipNm s) l k) ∧ Hid (Below w.heap.size w wr)) (fun i _ => l.length - (intOf i).toNat)
  case atStart => exact ⟨0, Nat.zero_le _, rfl, Lib.hid (NoOne.zero _ _), Lib.hid (Below.refl _ _)⟩
  case round =>
    obtain ⟨k, hk, rfl, hN, hb⟩ := hrel
    by_cases hlt : k < l.length
    · obtain ⟨x, hx⟩ : ∃ x, l[k]? = some x := ⟨_, List.getElem?_eq_getElem hlt⟩
      rcases HS.out.2 with ⟨he, _⟩ | ⟨g, o, c, e, hpos, hcap, hc⟩
      · rw [he] at hlt; simp at hlt
      · injection e with hA _ hcp
        subst hA hcp
        obtain ⟨q0, q1, q2, q3, q4, q5⟩ := SlShip.cells hc k x hx
        have hg : g < w.heap.size := World.block_lt_of_cell? w ⟨g, o + k * 6, none⟩ q0
        have y0 := (hb.out.cell (p := ⟨g, o + k * 6, none⟩) hg).trans q0
        have y1 := (hb.out.cell (p := ⟨g, o + k * 6 + 1, none⟩) hg).trans q1
        have y2 := (hb.out.cell (p := ⟨g, o + k * 6 + 2, none⟩) hg).trans q2
        have y3 := (hb.out.cell (p := ⟨g, o + k * 6 + 3, none⟩) hg).trans q3
        have y4 := (hb.out.cell (p := ⟨g, o + k * 6 + 4, none⟩) hg).trans q4
        have y5 := (hb.out.cell (p := ⟨g, o + k * 6 + 5, none⟩) hg).trans q5
        have HX := Lib.hid hx
        have hzs := hb.out.size
        clear q0 q1 q2 q3 q4 q5 hx hc
        have B2 := Lib.hid (hb.out.alloc hzs (.cells #[.string x.name, .int .i64 x.length, .int .i64 x.draught, .int .i64 x.line, .int .i64 x.tugs, .bool x.slow] 36))
        cases hn : (x.name.toList == s.toList) with
        | true =>
          have E := Lib.hid (firstI_at hN.out HX.out hn)
          go_wp2
          go_ret
          exact ⟨ret_int E.out.symm, B2.out⟩
        | false =>
          have N2 := Lib.hid (hN.out.next HX.out hn)
          go_wp2
          go_roundw
          case rel => exact ⟨k + 1, by omega, by go_num, N2, B2⟩
          case measure => simp [intOf]; omega
    · obtain rfl : k = l.length := by omega
      have E := Lib.hid (firstI_none hN.out)
      go_wp2
      go_ret
      exact ⟨ret_int E.out.symm, hb.out⟩
/-- The closure of ShipNamed. -/
theorem named1 (x : ShipD) (s : ByteArray) (Ba : Nat) (w : World) (ha : w.cell? ⟨Ba, 0, none⟩ = some (.string s)) :
    Calls Try.prog 84 #[x.val, .pointer (some ⟨Ba, 0, none⟩)] w fun e w' => e = .returned (.bool (shipNm s x)) ∧ Below w.heap.size w w' := by
  obtain ⟨na, le, dr, li, tu, sl⟩ := x
  have B := Lib.hid (Joins.below_alloc1 w (.cells #[.string na, .int .i64 le, .int .i64 dr, .int .i64 li, .int .i64 tu, .bool sl] 36))
  have ya := (B.out.cell (p := ⟨Ba, 0, none⟩) (World.block_lt_of_cell? w _ ha)).trans ha
  clear ha
  cases h1 : (na.toList == s.toList)
  all_goals
    have E := Lib.hid (show shipNm s ⟨na, le, dr, li, tu, sl⟩ = _ from h1)
    go_enter Try.func84, Try.ntmps84
    go_wp2
    go_ret
    exact ⟨ret_bool E.out.symm, B.out⟩
set_option maxHeartbeats 2000000 in
/-- slices.IndexFunc over ships, with any closure whose answers are p. -/
theorem shipIndex_any (fv : Value) (p : ShipD → Bool) (v : Value) (l : List ShipD) (s : ByteArray) (Ba : Nat) (w : World) (h : SlShip w v l) (ha : w.cell? ⟨Ba, 0, none⟩ = some (.string s)) (hp : p = shipNm s) (hfv : fv = .func (.func 84) #[] #[.pointer (some ⟨Ba, 0, none⟩)]) :
    Calls Try.prog 83 #[v, fv] w fun e w' => e = .returned (.int .i64 (firstI p l)) ∧ Below w.heap.size w w' := by
  subst hp hfv
  have HS := Lib.hid h
  have hl := h.1
  obtain ⟨A1, c1, rfl⟩ := h.at
  have hla : Ba < w.heap.size := World.block_lt_of_cell? w _ ha
  have HA := Lib.hid ha
  clear h ha
  go_enter Try.func83, Try.ntmps83
  go_wp2
  go_loopw [8] (fun i wr => ∃ k : Nat, k ≤ l.length ∧ i = .int .i64 k ∧ Hid (NoOne (shipNm s) l k) ∧ Hid (Below w.heap.size w wr)) (fun i _ => l.length - (intOf i).toNat)
  case atStart => exact ⟨0, Nat.zero_le _, rfl, Lib.hid (NoOne.zero _ _), Lib.hid (Below.refl _ _)⟩
  case round =>
    obtain ⟨k, hk, rfl, hN, hb⟩ := hrel
    by_cases hlt : k < l.length
    · obtain ⟨x, hx⟩ : ∃ x, l[k]? = some x := ⟨_, List.getElem?_eq_getElem hlt⟩
      rcases HS.out.2 with ⟨he, _⟩ | ⟨g, o, c, e, hpos, hcap, hc⟩
      · rw [he] at hlt; simp at hlt
      · injection e with hA _ hcp
        subst hA hcp
        obtain ⟨q0, q1, q2, q3, q4, q5⟩ := SlShip.cells hc k x hx
        have hg : g < w.heap.size := World.block_lt_of_cell? w ⟨g, o + k * 6, none⟩ q0
        have y0 := (hb.out.cell (p := ⟨g, o + k * 6, none⟩) hg).trans q0
        have y1 := (hb.out.cell (p := ⟨g, o + k * 6 + 1, none⟩) hg).trans q1
        have y2 := (hb.out.cell (p := ⟨g, o + k * 6 + 2, none⟩) hg).trans q2
        have y3 := (hb.out.cell (p := ⟨g, o + k * 6 + 3, none⟩) hg).trans q3
        have y4 := (hb.out.cell (p := ⟨g, o + k * 6 + 4, none⟩) hg).trans q4
        have y5 := (hb.out.cell (p := ⟨g, o + k * 6 + 5, none⟩) hg).trans q5
        have YA := Lib.hid ((hb.out.cell (p := ⟨Ba, 0, none⟩) hla).trans HA.out)
        have HX := Lib.hid hx
        clear q0 q1 q2 q3 q4 q5 hx hc
        obtain ⟨t, ht⟩ : ∃ t, shipNm s x = t := ⟨_, rfl⟩
        have HT := Lib.hid ht
        clear ht
        go_wp2_with fail
        refine (named1 x s Ba _ YA.out).mono ?_
        rw [HT.out]
        rintro e w5 ⟨rfl, hb5⟩
        have hb6 := Lib.hid (hb.out.trans (hb5.mono hb.out.size))
        clear hb5 y0 y1 y2 y3 y4 y5
        cases t with
        | true =>
          have E := Lib.hid (firstI_at hN.out HX.out HT.out)
          go_wp2
          go_ret
          exact ⟨ret_int E.out.symm, hb6.out⟩
        | false =>
          have N2 := Lib.hid (hN.out.next HX.out HT.out)
          go_wp2
          go_roundw
          case rel => exact ⟨k + 1, by omega, by go_num, N2, hb6⟩
          case measure => simp [intOf]; omega
    · obtain rfl : k = l.length := by omega
      have E := Lib.hid (firstI_none hN.out)
      go_wp2
      go_ret
      exact ⟨ret_int E.out.symm, hb.out⟩
theorem implShipNamed (v : Value) (l : List ShipD) (s : ByteArray) (w : World) (h : SlShip w v l) (_ : ∀ x ∈ l, ShipD.wf x) (_ : s.size ≤ maxLen) :
    Calls Try.prog 72 #[v, .string s] w fun e w' => e = .returned (.int .i64 (shipI l s)) ∧ Below w.heap.size w w' := by
  have B := Lib.hid (Joins.below_alloc1 w (.cells #[.string s] 9))
  have HS := Lib.hid (SlShip.below h B.out)
  obtain ⟨A1, c1, rfl⟩ := h.at
  have C0 := Lib.hid (show (w.alloc (.cells #[.string s] 9)).cell? ⟨w.heap.size, 0, none⟩ = some (.string s) from (Blk.new w #[.string s] 9).cell 0)
  clear h
  go_enter Try.func72, Try.ntmps72
  go_wp2_with fail
  refine (shipIndex_any _ (shipNm s) _ l s _ _ HS.out C0.out rfl rfl).mono ?_
  rintro e w1 ⟨rfl, hb1⟩
  have B1 := Lib.hid (B.out.trans (hb1.mono B.out.size))
  clear hb1
  go_wp2
  go_ret
  exact ⟨rfl, B1.out⟩
set_option maxHeartbeats 8000000 in
theorem specFleetOk (v : Value) (l : List ShipD) (w : World) (h : SlShip w v l) (hw : ∀ x ∈ l, ShipD.wf x) :
    Calls Try.prog 55 #[v] w fun e w' => e = .returned (.bool (fleetB l)) ∧ Below w.heap.size w w' := by
  have HS := Lib.hid h
  have HWF := Lib.hid hw
  have hl := h.1
  obtain ⟨A1, c1, rfl⟩ := h.at
  clear h hw
  by_cases hlen : 6 < l.length
  · have E := Lib.hid (fleetB_long hlen)
    go_enter Try.func55, Try.ntmps55
    go_wp2
    go_ret
    exact ⟨ret_bool E.out.symm, Below.refl _ _⟩
  go_enter Try.func55, Try.ntmps55
  go_wp2
  go_loopw [10] (fun i wr => ∃ k : Nat, k ≤ l.length ∧ i = .int .i64 k ∧ Hid (FirstF l k) ∧ Hid (Below w.heap.size w wr)) (fun i _ => l.length - (intOf i).toNat)
  case atStart => exact ⟨0, Nat.zero_le _, rfl, Lib.hid (FirstF.zero _), Lib.hid (Below.refl _ _)⟩
  case round =>
    obtain ⟨k, hk, rfl, hF, hb⟩ := hrel
    have hzs := hb.out.size
    by_cases hlt : k < l.length
    · obtain ⟨x, hx⟩ : ∃ x, l[k]? = some x := ⟨_, List.getElem?_eq_getElem hlt⟩
      rcases HS.out.2 with ⟨he, _⟩ | ⟨g, o, c, e, hpos, hcap, hc⟩
      · rw [he] at hlt; simp at hlt
      · injection e with hA _ hcp
        subst hA hcp
        obtain ⟨q0, q1, q2, q3, q4, q5⟩ := SlShip.cells hc k x hx
        have hg : g < w.heap.size := World.block_lt_of_cell? w ⟨g, o + k * 6, none⟩ q0
        have y0 := (hb.out.cell (p := ⟨g, o + k * 6, none⟩) hg).trans q0
        have y1 := (hb.out.cell (p := ⟨g, o + k * 6 + 1, none⟩) hg).trans q1
        have y2 := (hb.out.cell (p := ⟨g, o + k * 6 + 2, none⟩) hg).trans q2
        have y3 := (hb.out.cell (p := ⟨g, o + k * 6 + 3, none⟩) hg).trans q3
        have y4 := (hb.out.cell (p := ⟨g, o + k * 6 + 4, none⟩) hg).trans q4
        have y5 := (hb.out.cell (p := ⟨g, o + k * 6 + 5, none⟩) hg).trans q5
        have HX := Lib.hid hx
        have XW := Lib.hid (HWF.out x (List.mem_of_getElem? hx))
        clear q0 q1 q2 q3 q4 q5 hx hc
        have hal := Joins.below_alloc1 wr (.cells #[.string x.name, .int .i64 x.length, .int .i64 x.draught, .int .i64 x.line, .int .i64 x.tugs, .bool x.slow] 36)
        have hb2 := Lib.hid (hb.out.trans (hal.mono hzs))
        have SB := Lib.hid (Blk.new wr #[.string x.name, .int .i64 x.length, .int .i64 x.draught, .int .i64 x.line, .int .i64 x.tugs, .bool x.slow] 36)
        clear hal
        obtain ⟨t, ht⟩ : ∃ t, shipB x = t := ⟨_, rfl⟩
        have HT := Lib.hid ht
        clear ht
        go_wp2_with fail
        refine (specShipOk x _ XW.out).mono ?_
        rw [HT.out]
        rintro e w2 ⟨rfl, hb3⟩
        have z0 := (SB.out.below hb3).cell 0
        simp at z0
        have hb4 := Lib.hid (hb2.out.trans (hb3.mono hb2.out.size))
        clear hb3 y0 y1 y2 y3 y4 y5
        cases t with
        | false =>
          have E := Lib.hid (fleetB_no hlt (by rw [flAt_at HX.out, HT.out]; rfl))
          go_wp2
          go_ret
          exact ⟨ret_bool E.out.symm, hb4.out⟩
        | true =>
          obtain ⟨nI, hnI⟩ : ∃ n, shipI l x.name = n := ⟨_, rfl⟩
          have HNI := Lib.hid hnI
          clear hnI
          go_wp2_with fail
          refine (specShipNamed _ l x.name _ (HS.out.below hb4.out) HWF.out).mono ?_
          rw [HNI.out]
          rintro e w3 ⟨rfl, hb5⟩
          have hb6 := Lib.hid (hb4.out.trans (hb5.mono hb4.out.size))
          clear hb5 z0
          cases he : (nI == (k : Int)) with
          | false =>
            have E := Lib.hid (fleetB_no hlt (by rw [flAt_at HX.out, HT.out, HNI.out, he]; rfl))
            have he' : nI ≠ (k : Int) := by simpa using he
            go_wp2
            go_ret
            exact ⟨ret_bool E.out.symm, hb6.out⟩
          | true =>
            have F2 := Lib.hid (hF.out.next (by rw [flAt_at HX.out, HT.out, HNI.out, he]; rfl))
            have he' : nI = (k : Int) := by simpa using he
            subst he'
            go_wp2
            go_roundw
            case rel => exact ⟨k + 1, by omega, by go_num, F2, hb6⟩
            case measure => simp [intOf]; omega
    · obtain rfl : k = l.length := by omega
      have E := Lib.hid (fleetB_mk (by omega) hF.out)
      go_wp2
      go_ret
      exact ⟨ret_bool E.out.symm, hb.out⟩
set_option maxHeartbeats 8000000 in
theorem implFleetOk (v : Value) (l : List ShipD) (w : World) (h : SlShip w v l) (hw : ∀ x ∈ l, ShipD.wf x) :
    Calls Try.prog 46 #[v] w fun e w' => e = .returned (.bool (fleetB l)) ∧ Below w.heap.size w w' := by
  have HS := Lib.hid h
  have HWF := Lib.hid hw
  have hl := h.1
  obtain ⟨A1, c1, rfl⟩ := h.at
  clear h hw
  by_cases hlen : 6 < l.length
  · have E := Lib.hid (fleetB_long hlen)
    go_enter Try.func46, Try.ntmps46
    go_wp2
    go_ret
    exact ⟨ret_bool E.out.symm, Below.refl _ _⟩
  go_enter Try.func46, Try.ntmps46
  go_wp2
  go_loopw [10] (fun i wr => ∃ k : Nat, k ≤ l.length ∧ i = .int .i64 k ∧ Hid (FirstF l k) ∧ Hid (Below w.heap.size w wr)) (fun i _ => l.length - (intOf i).toNat)
  case atStart => exact ⟨0, Nat.zero_le _, rfl, Lib.hid (FirstF.zero _), Lib.hid (Below.refl _ _)⟩
  case round =>
    obtain ⟨k, hk, rfl, hF, hb⟩ := hrel
    have hzs := hb.out.size
    by_cases hlt : k < l.length
    · obtain ⟨x, hx⟩ : ∃ x, l[k]? = some x := ⟨_, List.getElem?_eq_getElem hlt⟩
      rcases HS.out.2 with ⟨he, _⟩ | ⟨g, o, c, e, hpos, hcap, hc⟩
      · rw [he] at hlt; simp at hlt
      · injection e with hA _ hcp
        subst hA hcp
        obtain ⟨q0, q1, q2, q3, q4, q5⟩ := SlShip.cells hc k x hx
        have hg : g < w.heap.size := World.block_lt_of_cell? w ⟨g, o + k * 6, none⟩ q0
        have y0 := (hb.out.cell (p := ⟨g, o + k * 6, none⟩) hg).trans q0
        have y1 := (hb.out.cell (p := ⟨g, o + k * 6 + 1, none⟩) hg).trans q1
        have y2 := (hb.out.cell (p := ⟨g, o + k * 6 + 2, none⟩) hg).trans q2
        have y3 := (hb.out.cell (p := ⟨g, o + k * 6 + 3, none⟩) hg).trans q3
        have y4 := (hb.out.cell (p := ⟨g, o + k * 6 + 4, none⟩) hg).trans q4
        have y5 := (hb.out.cell (p := ⟨g, o + k * 6 + 5, none⟩) hg).trans q5
        have HX := Lib.hid hx
        have XW := Lib.hid (HWF.out x (List.mem_of_getElem? hx))
        clear q0 q1 q2 q3 q4 q5 hx hc
        have hal := Joins.below_alloc1 wr (.cells #[.string x.name, .int .i64 x.length, .int .i64 x.draught, .int .i64 x.line, .int .i64 x.tugs, .bool x.slow] 36)
        have hb2 := Lib.hid (hb.out.trans (hal.mono hzs))
        have SB := Lib.hid (Blk.new wr #[.string x.name, .int .i64 x.length, .int .i64 x.draught, .int .i64 x.line, .int .i64 x.tugs, .bool x.slow] 36)
        clear hal
        obtain ⟨t, ht⟩ : ∃ t, shipB x = t := ⟨_, rfl⟩
        have HT := Lib.hid ht
        clear ht
        go_wp2_with fail
        refine (implShipOk x _ XW.out).mono ?_
        rw [HT.out]
        rintro e w2 ⟨rfl, hb3⟩
        have z0 := (SB.out.below hb3).cell 0
        simp at z0
        have hb4 := Lib.hid (hb2.out.trans (hb3.mono hb2.out.size))
        clear hb3 y0 y1 y2 y3 y4 y5
        cases t with
        | false =>
          have E := Lib.hid (fleetB_no hlt (by rw [flAt_at HX.out, HT.out]; rfl))
          go_wp2
          go_ret
          exact ⟨ret_bool E.out.symm, hb4.out⟩
        | true =>
          obtain ⟨nI, hnI⟩ : ∃ n, shipI l x.name = n := ⟨_, rfl⟩
          have HNI := Lib.hid hnI
          clear hnI
          go_wp2_with fail
          refine (implShipNamed _ l x.name _ (HS.out.below hb4.out) HWF.out XW.out.1).mono ?_
          rw [HNI.out]
          rintro e w3 ⟨rfl, hb5⟩
          have hb6 := Lib.hid (hb4.out.trans (hb5.mono hb4.out.size))
          clear hb5 z0
          cases he : (nI == (k : Int)) with
          | false =>
            have E := Lib.hid (fleetB_no hlt (by rw [flAt_at HX.out, HT.out, HNI.out, he]; rfl))
            have he' : nI ≠ (k : Int) := by simpa using he
            go_wp2
            go_ret
            exact ⟨ret_bool E.out.symm, hb6.out⟩
          | true =>
            have F2 := Lib.hid (hF.out.next (by rw [flAt_at HX.out, HT.out, HNI.out, he]; rfl))
            have he' : nI = (k : Int) := by simpa using he
            subst he'
            go_wp2
            go_roundw
            case rel => exact ⟨k + 1, by omega, by go_num, F2, hb6⟩
            case measure => simp [intOf]; omega
    · obtain rfl : k = l.length := by omega
      have E := Lib.hid (fleetB_mk (by omega) hF.out)
      go_wp2
      go_ret
      exact ⟨ret_bool E.out.symm, hb.out⟩
end Go.Proofs.Ytlddampjbmklkaa
namespace Go.Proofs.Ytlddampjbmklkaa
open Go.RowKit
set_option maxRecDepth 100000
theorem OwnLocks.below {w w' : World} {base : Nat} {v : Value} {rs : List LockR} (h : OwnLocks w base v rs) (hb : Below w.heap.size w w') : OwnLocks w' base v rs := ⟨own_below h.1 hb, fun r hr => own_below (h.2.1 r hr) hb, h.2.2.1, h.2.2.2⟩
theorem OwnLocks.lo {w : World} {base base' : Nat} {v : Value} {rs : List LockR} (h : OwnLocks w base v rs) (hb : base' ≤ base) : OwnLocks w base' v rs := ⟨own_lo h.1 hb, fun r hr => own_lo (h.2.1 r hr) hb, h.2.2.1, h.2.2.2⟩
/-- The lockings rs are over memory that is new since w; what w held is as it was. -/
structure GathL (w : World) (v : Value) (rs : List LockR) (wr : World) : Prop where
  own : OwnLocks wr w.heap.size v rs
  low : Below w.heap.size w wr
theorem GathL.below {w wr W : World} {v : Value} {rs : List LockR} (h : GathL w v rs wr) (hb : Below wr.heap.size wr W) : GathL w v rs W := ⟨h.own.below hb, h.low.trans (hb.mono h.low.size)⟩
theorem GathL.made {w wr : World} (hb : Below w.heap.size w wr) : GathL w (.slice (some ⟨wr.heap.size, 0, none⟩) 0 0) [] (wr.alloc (.cells #[] 38)) := by
  have h := GathO.made (k := 3) (cs := LockR.cells) (t := 38) hb
  exact ⟨⟨h.1, fun r hr => absurd hr (by simp), List.Pairwise.nil, fun r hr => absurd hr (by simp)⟩, h.2⟩
/-- One locking more: its ships in a block of their own, new since W. -/
theorem GathL.next {w W W1 W2 : World} {v u : Value} {rs : List LockR} {st : Int} {up : Bool} {s : List Int} {g4 cap4 : Nat} (h : GathL w v rs W) (hb : Below W.heap.size W W1) (ho : OwnInt W1 W.heap.size u s)
    (hown : W2.ownsRow w.heap.size 38 3 (.slice (some ⟨g4, 0, none⟩) (rs.length + 1) cap4) (rs.length + 1) (rs.flatMap LockR.cells ++ LockR.cells ⟨st, up, u, s⟩)) (hgr : W1.grownBy W2 v.ownBlock) (hor : v.ownBlock = some g4 ∨ g4 = W1.heap.size) :
    GathL w (.slice (some ⟨g4, 0, none⟩) (rs.length + 1) cap4) (rs ++ [⟨st, up, u, s⟩]) W2 := by
  obtain ⟨⟨o1, o2, o3, o4⟩, hl⟩ := h
  have hz := hl.size
  have hz1 := hb.size
  refine ⟨⟨?_, fun r hr => ?_, ?_, fun r hr g hg hg' => ?_⟩, (hl.trans (hb.mono hz)).grown hgr (by omega) (fun b e => (own_ge o1 e).1)⟩
  · simpa [OwnOf] using hown
  · rcases List.mem_append.1 hr with hr | hr
    · exact own_kept (own_below (o2 r hr) hb) hgr (fun b hv e => o4 r hr b e hv)
    · simp at hr
      subst hr
      exact own_lo (own_kept ho hgr (fun b hv e => by have := (own_ge o1 e).2; have := (own_ge ho hv).1; omega)) hz
  · rw [List.pairwise_append]
    refine ⟨o3, by simp, fun a ha b hb' g hg hg' => ?_⟩
    simp at hb'
    subst hb'
    have := (own_ge (o2 a ha) hg).2
    have := (own_ge ho hg').1
    omega
  · simp [Value.ownBlock] at hg
    subst hg
    rcases List.mem_append.1 hr with hr | hr
    · rcases hor with e | e
      · exact o4 r hr g4 e hg'
      · have := (own_ge (o2 r hr) hg').2
        omega
    · simp at hr
      subst hr
      rcases hor with e | e
      · have := (own_ge o1 e).2
        have := (own_ge ho hg').1
        omega
      · have := (own_ge ho hg').2
        omega
theorem GathL.form {w wr : World} {v : Value} {rs : List LockR} (h : GathL w v rs wr) : ∃ A c, v = .slice A rs.length c := own_form h.own.1
theorem lock_one (r : LockR) (hv : r.v.oneCell' = true) : ∀ u ∈ LockR.cells r, u.oneCell' = true := by
  intro u hu
  simp at hu
  rcases hu with rfl | rfl | rfl
  · rfl
  · rfl
  · exact hv
end Go.Proofs.Ytlddampjbmklkaa
namespace Go.Proofs.Ytlddampjbmklkaa
open Go.RowKit
set_option maxRecDepth 100000
set_option maxHeartbeats 2000000 in
theorem cloneL (v : Value) (l : List Int) (w : World) (h : SlInt w v l) (hn : l.length ≤ 9000000) :
    Calls Try.prog 70 #[v] w (NewInt l w) := by
  have q26 : ∀ (w : World) (a : Option Addr) (n c n' c' : Nat), (binOp .eql 33 (.slice a n c) (.slice none n' c')).run Try.prog w = .ok (.bool a.isNone) w := fun w a n c n' c' => Lib.run_eql_slice_nil w _ _ a n c n' c' Try.underlying33
  have L1 := Liv.build (Liv.nil w) 0 [] (by simp)
  have RS := Lib.hid (h.below L1.low)
  have L1 := Lib.hid L1
  have HS := Lib.hid h
  obtain ⟨A, c, rfl⟩ := h.at
  clear h
  cases A with
  | none =>
    have e : l = [] := by
      rcases HS.out.2 with ⟨he, _⟩ | ⟨g, o, c', e, _, _, _⟩
      · exact he
      · injection e with e1; cases e1
    have E := Lib.hid e
    clear e RS L1
    go_enter Try.func70, Try.ntmps70
    go_wp2
    go_ret
    exact ⟨_, rfl, by rw [E.out]; exact World.ownsRow_nil _ _ _ _, Below.refl _ _⟩
  | some a =>
    obtain ⟨m, hm⟩ : ∃ m, l.length = m := ⟨_, rfl⟩
    rw [hm] at RS hn
    try rw [hm]
    have HM := Lib.hid hm
    clear hm
    go_enter Try.func70, Try.ntmps70
    go_wp2_with (at_builtin; refine wpList_plain rfl fun K hK => wp_of_step (ops := #[]) rfl (step_liv L1.out (L' := []) (τ := 0) (v := .slice (some ⟨w.heap.size, 0, none⟩) 0 0) (u := .slice (some a) m c) (l := []) (m := l) 0 rfl (.tmp 5) (.tmp 6) rfl rfl rfl List.mem_cons_self RS.out (by rw [HM.out]; simp; omega) (fun q hq => by cases hq) ?_); intro v5 x5 hl5; refine hK _ _ ?_; have L5 := Lib.hid hl5; clear hl5)
    have HO := Lib.hid (L5.out.own _ List.mem_cons_self)
    have HL := Lib.hid L5.out.low
    clear L5
    go_ret
    exact ⟨_, rfl, HO.out, HL.out⟩
end Go.Proofs.Ytlddampjbmklkaa
