
/- What ExactStaysOk and ExactFindBerth and ExactAllotBerths and ExactBerthLoad rests on, part 8: contracts and mathematics. -/
import Derived.Test.YtghjfcnboocmjaaBa3
import Derived.Test.YtghjfcnboocmjaaBa4
import Derived.Test.YtghjfcnboocmjaaBa1
import Derived.Test.YtghjfcnboocmjaaBa7
import Derived.Test.YtghjfcnboocmjaaBa0
import Derived.StillTailTactics
import Derived.Test.YtghjfcnboocmjaaBa6
namespace Go.Proofs.Ytghjfcnboocmjaa
open Go.RowKit
set_option maxRecDepth 100000
def berthB (b : BerthD) : Bool := nameB b.name && inB b.length 10 400 && inB b.depth 0 3000
def sameName (b o : BerthD) : Bool := o.name.toList == b.name.toList
def pBerth (done : List BerthD) (b : BerthD) : Bool := berthB b && !done.any (sameName b)
def berthsB (l : List BerthD) : Bool := decide (l.length ≤ 4) && runB pBerth [] l
theorem berthsB_long {l : List BerthD} (h : ¬ l.length ≤ 4) : berthsB l = false := by unfold berthsB; rw [decide_eq_false h]; rfl
theorem berthsB_no {l : List BerthD} {i : Nat} {b : BerthD} (hx : l[i]? = some b) (hp : pBerth (l.take i) b = false) : berthsB l = false := by unfold berthsB; rw [run_no hx hp, Bool.and_false]
theorem berthsB_yes {l : List BerthD} (h : l.length ≤ 4) (hr : RunTo pBerth l l.length) : berthsB l = true := by unfold berthsB; rw [decide_eq_true h, hr.all]; rfl
def fitB (b : BerthD) (s : ShipD) : Bool := shipB s && decide (s.length ≤ b.length) && decide (s.draught ≤ b.depth)
def timeB (s : StayD) : Bool := inB s.fr 0 2880 && decide (s.fr < s.tt) && decide (s.tt ≤ 2880)
def meetB (s o : StayD) : Bool := (o.ship == s.ship || o.berth == s.berth) && decide (max o.fr s.fr < min o.tt s.tt)
def fitAt (bs : List BerthD) (fl : List ShipD) (s : StayD) : Bool := match bs[s.berth.toNat]?, fl[s.ship.toNat]? with
  | some b, some x => fitB b x
  | _, _ => false
def stayB (bs : List BerthD) (fl : List ShipD) (s : StayD) : Bool := inB s.ship 0 ((fl.length : Int) - 1) && inB s.berth 0 ((bs.length : Int) - 1) && timeB s && fitAt bs fl s
def pStay (bs : List BerthD) (fl : List ShipD) (done : List StayD) (s : StayD) : Bool := stayB bs fl s && !done.any (meetB s)
def staysB (bs : List BerthD) (fl : List ShipD) (l : List StayD) : Bool := berthsB bs && fleetB fl && decide (l.length ≤ 12) && runB (pStay bs fl) [] l
theorem staysB_all {bs : List BerthD} {fl : List ShipD} {l : List StayD} (h : staysB bs fl l = true) : berthsB bs = true ∧ fleetB fl = true ∧ l.length ≤ 12 ∧ runB (pStay bs fl) [] l = true := by
  unfold staysB at h
  simp only [Bool.and_eq_true] at h
  exact ⟨h.1.1.1, h.1.1.2, of_decide_eq_true h.1.2, h.2⟩
theorem staysB_mk {bs : List BerthD} {fl : List ShipD} {l : List StayD} (h1 : berthsB bs = true) (h2 : fleetB fl = true) (h3 : l.length ≤ 12) (h4 : runB (pStay bs fl) [] l = true) : staysB bs fl l = true := by
  unfold staysB
  rw [h1, h2, decide_eq_true h3, h4]
  rfl
theorem staysB_part {bs : List BerthD} {fl : List ShipD} {l m : List StayD} (h : staysB bs fl (l ++ m) = true) : staysB bs fl l = true := by
  obtain ⟨h1, h2, h3, h4⟩ := staysB_all h
  rw [List.length_append] at h3
  exact staysB_mk h1 h2 (by omega) (runB_part _ _ h4)
def findI (bs : List BerthD) (fl : List ShipD) (l : List StayD) (ship fr tt : Int) : Int := if staysB bs fl l = true then firstI (fun b => staysB bs fl (l ++ [⟨ship, b, fr, tt⟩])) ((List.range bs.length).map (fun b : Nat => (b : Int))) else -1
def allotR (bs : List BerthD) (fl : List ShipD) (asks : List StayD) : Nat → List StayD → Option (List StayD)
  | 0, done => if staysB bs fl done = true then some done else none
  | k + 1, done => match asks[done.length]? with
    | none => none
    | some a => (List.range bs.length).findSome? (fun b => if staysB bs fl (done ++ [⟨a.ship, (b : Int), a.fr, a.tt⟩]) = true then allotR bs fl asks k (done ++ [⟨a.ship, (b : Int), a.fr, a.tt⟩]) else none)
def allotO (bs : List BerthD) (fl : List ShipD) (asks : List StayD) : Option (List StayD) := if asks.length ≤ 6 then allotR bs fl asks asks.length [] else none
def loadI (l : List StayD) (b : Int) : Int := l.foldl (fun s x => if (x.berth == b && timeB x) = true then s + x.tt - x.fr else s) 0
theorem loadI_next {l : List StayD} {b : Int} {k : Nat} {s : StayD} (h : l[k]? = some s) : loadI (l.take (k + 1)) b = if (s.berth == b && timeB s) = true then loadI (l.take k) b + s.tt - s.fr else loadI (l.take k) b := by
  unfold loadI
  rw [take_snoc' l k s h, List.foldl_append]
  rfl
theorem loadI_le (l : List StayD) (b : Int) (k : Nat) : 0 ≤ loadI (l.take k) b ∧ loadI (l.take k) b ≤ 2880 * (k : Int) := by
  induction k with
  | zero => simp [loadI]
  | succ k ih =>
    cases hx : l[k]? with
    | none =>
      have : l.take (k + 1) = l.take k := by
        rw [List.getElem?_eq_none_iff] at hx
        rw [List.take_of_length_le hx, List.take_of_length_le (by omega)]
      rw [this]
      push_cast
      omega
    | some s =>
      rw [loadI_next hx]
      split
      · rename_i h
        rw [Bool.and_eq_true] at h
        have h2 := h.2
        unfold timeB at h2
        simp only [Bool.and_eq_true] at h2
        have h3 := of_decide_eq_true h2.1.1
        have h4 := of_decide_eq_true h2.1.2
        have h5 := of_decide_eq_true h2.2
        push_cast
        omega
      · push_cast
        omega
end Go.Proofs.Ytghjfcnboocmjaa
namespace Go.Proofs.Ytghjfcnboocmjaa
open Go.RowKit
set_option maxRecDepth 100000
set_option maxHeartbeats 4000000 in
theorem specShipNamed (v : Value) (l : List ShipD) (s : ByteArray) (w : World) (h : SlShip w v l) (_ : ∀ x ∈ l, ShipD.wf x) :
    Calls Try.prog 95 #[v, .string s] w fun e w' => e = .returned (.int .i64 (shipI l s)) ∧ Below w.heap.size w w' := by
  have HS := Lib.hid h
  have hl := h.1
  obtain ⟨A1, c1, rfl⟩ := h.at
  clear h
  go_enter Try.func95, Try.ntmps95
  go_wp2
  go_loopw [9] (fun i wr => ∃ k : Nat, k ≤ l.length ∧ i = .int .i64 k ∧ Hid (NoOne (shipNm s) l k) ∧ Hid (Below w.heap.size w wr)) (fun i _ => l.length - (intOf i).toNat)
  case atStart => exact ⟨0, Nat.zero_le _, rfl, Lib.hid (NoOne.zero _ _), Lib.hid (Below.refl _ _)⟩
  case round =>
    obtain ⟨k, hk, rfl, hN, hb⟩ := hrel
    by_cases hlt : k < l.length
    · obtain ⟨x, hx⟩ : ∃ x, l[k]? = some x := ⟨_, List.getElem?_eq_getElem hlt⟩
      rcases HS.out.2 with ⟨he, _⟩ | ⟨g, o, c, e, hpos, hcap, hc⟩
      · rw [he] at hlt; simp at hlt
      · injection e with hA _ hcp
        subst hA hcp
        obtain ⟨q0, q1, q2, q3, q4, q5⟩ := SlShip.cells hc k x hx
        have hg : g < w.heap.size := World.block_lt_of_cell? w ⟨g, o + k * 6, none⟩ q0
        have y0 := (hb.out.cell (p := ⟨g, o + k * 6, none⟩) hg).trans q0
        have y1 := (hb.out.cell (p := ⟨g, o + k * 6 + 1, none⟩) hg).trans q1
        have y2 := (hb.out.cell (p := ⟨g, o + k * 6 + 2, none⟩) hg).trans q2
        have y3 := (hb.out.cell (p := ⟨g, o + k * 6 + 3, none⟩) hg).trans q3
        have y4 := (hb.out.cell (p := ⟨g, o + k * 6 + 4, none⟩) hg).trans q4
        have y5 := (hb.out.cell (p := ⟨g, o + k * 6 + 5, none⟩) hg).trans q5
        have HX := Lib.hid hx
        have hzs := hb.out.size
        clear q0 q1 q2 q3 q4 q5 hx hc
        have B2 := Lib.hid (hb.out.alloc hzs (.cells #[.string x.name, .int .i64 x.length, .int .i64 x.draught, .int .i64 x.line, .int .i64 x.tugs, .bool x.slow] 43))
        cases hn : (x.name.toList == s.toList) with
        | true =>
          have E := Lib.hid (firstI_at hN.out HX.out hn)
          go_wp2
          go_ret
          exact ⟨ret_int E.out.symm, B2.out⟩
        | false =>
          have N2 := Lib.hid (hN.out.next HX.out hn)
          go_wp2
          go_roundw
          case rel => exact ⟨k + 1, by omega, by go_num, N2, B2⟩
          case measure => simp [intOf]; omega
    · obtain rfl : k = l.length := by omega
      have E := Lib.hid (firstI_none hN.out)
      go_wp2
      go_ret
      exact ⟨ret_int E.out.symm, hb.out⟩
/-- The closure of ShipNamed. -/
theorem named1 (x : ShipD) (s : ByteArray) (Ba : Nat) (w : World) (ha : w.cell? ⟨Ba, 0, none⟩ = some (.string s)) :
    Calls Try.prog 103 #[x.val, .pointer (some ⟨Ba, 0, none⟩)] w fun e w' => e = .returned (.bool (shipNm s x)) ∧ Below w.heap.size w w' := by
  obtain ⟨na, le, dr, li, tu, sl⟩ := x
  have B := Lib.hid (Joins.below_alloc1 w (.cells #[.string na, .int .i64 le, .int .i64 dr, .int .i64 li, .int .i64 tu, .bool sl] 43))
  have ya := (B.out.cell (p := ⟨Ba, 0, none⟩) (World.block_lt_of_cell? w _ ha)).trans ha
  clear ha
  cases h1 : (na.toList == s.toList)
  all_goals
    have E := Lib.hid (show shipNm s ⟨na, le, dr, li, tu, sl⟩ = _ from h1)
    go_enter Try.func103, Try.ntmps103
    go_wp2
    go_ret
    exact ⟨ret_bool E.out.symm, B.out⟩
set_option maxHeartbeats 2000000 in
/-- slices.IndexFunc over ships, with any closure whose answers are p. -/
theorem shipIndex_any (fv : Value) (p : ShipD → Bool) (v : Value) (l : List ShipD) (s : ByteArray) (Ba : Nat) (w : World) (h : SlShip w v l) (ha : w.cell? ⟨Ba, 0, none⟩ = some (.string s)) (hp : p = shipNm s) (hfv : fv = .func (.func 103) #[] #[.pointer (some ⟨Ba, 0, none⟩)]) :
    Calls Try.prog 102 #[v, fv] w fun e w' => e = .returned (.int .i64 (firstI p l)) ∧ Below w.heap.size w w' := by
  subst hp hfv
  have HS := Lib.hid h
  have hl := h.1
  obtain ⟨A1, c1, rfl⟩ := h.at
  have hla : Ba < w.heap.size := World.block_lt_of_cell? w _ ha
  have HA := Lib.hid ha
  clear h ha
  go_enter Try.func102, Try.ntmps102
  go_wp2
  go_loopw [8] (fun i wr => ∃ k : Nat, k ≤ l.length ∧ i = .int .i64 k ∧ Hid (NoOne (shipNm s) l k) ∧ Hid (Below w.heap.size w wr)) (fun i _ => l.length - (intOf i).toNat)
  case atStart => exact ⟨0, Nat.zero_le _, rfl, Lib.hid (NoOne.zero _ _), Lib.hid (Below.refl _ _)⟩
  case round =>
    obtain ⟨k, hk, rfl, hN, hb⟩ := hrel
    by_cases hlt : k < l.length
    · obtain ⟨x, hx⟩ : ∃ x, l[k]? = some x := ⟨_, List.getElem?_eq_getElem hlt⟩
      rcases HS.out.2 with ⟨he, _⟩ | ⟨g, o, c, e, hpos, hcap, hc⟩
      · rw [he] at hlt; simp at hlt
      · injection e with hA _ hcp
        subst hA hcp
        obtain ⟨q0, q1, q2, q3, q4, q5⟩ := SlShip.cells hc k x hx
        have hg : g < w.heap.size := World.block_lt_of_cell? w ⟨g, o + k * 6, none⟩ q0
        have y0 := (hb.out.cell (p := ⟨g, o + k * 6, none⟩) hg).trans q0
        have y1 := (hb.out.cell (p := ⟨g, o + k * 6 + 1, none⟩) hg).trans q1
        have y2 := (hb.out.cell (p := ⟨g, o + k * 6 + 2, none⟩) hg).trans q2
        have y3 := (hb.out.cell (p := ⟨g, o + k * 6 + 3, none⟩) hg).trans q3
        have y4 := (hb.out.cell (p := ⟨g, o + k * 6 + 4, none⟩) hg).trans q4
        have y5 := (hb.out.cell (p := ⟨g, o + k * 6 + 5, none⟩) hg).trans q5
        have YA := Lib.hid ((hb.out.cell (p := ⟨Ba, 0, none⟩) hla).trans HA.out)
        have HX := Lib.hid hx
        clear q0 q1 q2 q3 q4 q5 hx hc
        obtain ⟨t, ht⟩ : ∃ t, shipNm s x = t := ⟨_, rfl⟩
        have HT := Lib.hid ht
        clear ht
        go_wp2_with fail
        refine (named1 x s Ba _ YA.out).mono ?_
        rw [HT.out]
        rintro e w5 ⟨rfl, hb5⟩
        have hb6 := Lib.hid (hb.out.trans (hb5.mono hb.out.size))
        clear hb5 y0 y1 y2 y3 y4 y5
        cases t with
        | true =>
          have E := Lib.hid (firstI_at hN.out HX.out HT.out)
          go_wp2
          go_ret
          exact ⟨ret_int E.out.symm, hb6.out⟩
        | false =>
          have N2 := Lib.hid (hN.out.next HX.out HT.out)
          go_wp2
          go_roundw
          case rel => exact ⟨k + 1, by omega, by go_num, N2, hb6⟩
          case measure => simp [intOf]; omega
    · obtain rfl : k = l.length := by omega
      have E := Lib.hid (firstI_none hN.out)
      go_wp2
      go_ret
      exact ⟨ret_int E.out.symm, hb.out⟩
theorem implShipNamed (v : Value) (l : List ShipD) (s : ByteArray) (w : World) (h : SlShip w v l) (_ : ∀ x ∈ l, ShipD.wf x) (_ : s.size ≤ maxLen) :
    Calls Try.prog 83 #[v, .string s] w fun e w' => e = .returned (.int .i64 (shipI l s)) ∧ Below w.heap.size w w' := by
  have B := Lib.hid (Joins.below_alloc1 w (.cells #[.string s] 9))
  have HS := Lib.hid (SlShip.below h B.out)
  obtain ⟨A1, c1, rfl⟩ := h.at
  have C0 := Lib.hid (show (w.alloc (.cells #[.string s] 9)).cell? ⟨w.heap.size, 0, none⟩ = some (.string s) from (Blk.new w #[.string s] 9).cell 0)
  clear h
  go_enter Try.func83, Try.ntmps83
  go_wp2_with fail
  refine (shipIndex_any _ (shipNm s) _ l s _ _ HS.out C0.out rfl rfl).mono ?_
  rintro e w1 ⟨rfl, hb1⟩
  have B1 := Lib.hid (B.out.trans (hb1.mono B.out.size))
  clear hb1
  go_wp2
  go_ret
  exact ⟨rfl, B1.out⟩
set_option maxHeartbeats 8000000 in
theorem specFleetOk (v : Value) (l : List ShipD) (w : World) (h : SlShip w v l) (hw : ∀ x ∈ l, ShipD.wf x) :
    Calls Try.prog 68 #[v] w fun e w' => e = .returned (.bool (fleetB l)) ∧ Below w.heap.size w w' := by
  have HS := Lib.hid h
  have HWF := Lib.hid hw
  have hl := h.1
  obtain ⟨A1, c1, rfl⟩ := h.at
  clear h hw
  by_cases hlen : 6 < l.length
  · have E := Lib.hid (fleetB_long hlen)
    go_enter Try.func68, Try.ntmps68
    go_wp2
    go_ret
    exact ⟨ret_bool E.out.symm, Below.refl _ _⟩
  go_enter Try.func68, Try.ntmps68
  go_wp2
  go_loopw [10] (fun i wr => ∃ k : Nat, k ≤ l.length ∧ i = .int .i64 k ∧ Hid (FirstF l k) ∧ Hid (Below w.heap.size w wr)) (fun i _ => l.length - (intOf i).toNat)
  case atStart => exact ⟨0, Nat.zero_le _, rfl, Lib.hid (FirstF.zero _), Lib.hid (Below.refl _ _)⟩
  case round =>
    obtain ⟨k, hk, rfl, hF, hb⟩ := hrel
    have hzs := hb.out.size
    by_cases hlt : k < l.length
    · obtain ⟨x, hx⟩ : ∃ x, l[k]? = some x := ⟨_, List.getElem?_eq_getElem hlt⟩
      rcases HS.out.2 with ⟨he, _⟩ | ⟨g, o, c, e, hpos, hcap, hc⟩
      · rw [he] at hlt; simp at hlt
      · injection e with hA _ hcp
        subst hA hcp
        obtain ⟨q0, q1, q2, q3, q4, q5⟩ := SlShip.cells hc k x hx
        have hg : g < w.heap.size := World.block_lt_of_cell? w ⟨g, o + k * 6, none⟩ q0
        have y0 := (hb.out.cell (p := ⟨g, o + k * 6, none⟩) hg).trans q0
        have y1 := (hb.out.cell (p := ⟨g, o + k * 6 + 1, none⟩) hg).trans q1
        have y2 := (hb.out.cell (p := ⟨g, o + k * 6 + 2, none⟩) hg).trans q2
        have y3 := (hb.out.cell (p := ⟨g, o + k * 6 + 3, none⟩) hg).trans q3
        have y4 := (hb.out.cell (p := ⟨g, o + k * 6 + 4, none⟩) hg).trans q4
        have y5 := (hb.out.cell (p := ⟨g, o + k * 6 + 5, none⟩) hg).trans q5
        have HX := Lib.hid hx
        have XW := Lib.hid (HWF.out x (List.mem_of_getElem? hx))
        clear q0 q1 q2 q3 q4 q5 hx hc
        have hal := Joins.below_alloc1 wr (.cells #[.string x.name, .int .i64 x.length, .int .i64 x.draught, .int .i64 x.line, .int .i64 x.tugs, .bool x.slow] 43)
        have hb2 := Lib.hid (hb.out.trans (hal.mono hzs))
        have SB := Lib.hid (Blk.new wr #[.string x.name, .int .i64 x.length, .int .i64 x.draught, .int .i64 x.line, .int .i64 x.tugs, .bool x.slow] 43)
        clear hal
        obtain ⟨t, ht⟩ : ∃ t, shipB x = t := ⟨_, rfl⟩
        have HT := Lib.hid ht
        clear ht
        go_wp2_with fail
        refine (specShipOk x _ XW.out).mono ?_
        rw [HT.out]
        rintro e w2 ⟨rfl, hb3⟩
        have z0 := (SB.out.below hb3).cell 0
        simp at z0
        have hb4 := Lib.hid (hb2.out.trans (hb3.mono hb2.out.size))
        clear hb3 y0 y1 y2 y3 y4 y5
        cases t with
        | false =>
          have E := Lib.hid (fleetB_no hlt (by rw [flAt_at HX.out, HT.out]; rfl))
          go_wp2
          go_ret
          exact ⟨ret_bool E.out.symm, hb4.out⟩
        | true =>
          obtain ⟨nI, hnI⟩ : ∃ n, shipI l x.name = n := ⟨_, rfl⟩
          have HNI := Lib.hid hnI
          clear hnI
          go_wp2_with fail
          refine (specShipNamed _ l x.name _ (HS.out.below hb4.out) HWF.out).mono ?_
          rw [HNI.out]
          rintro e w3 ⟨rfl, hb5⟩
          have hb6 := Lib.hid (hb4.out.trans (hb5.mono hb4.out.size))
          clear hb5 z0
          cases he : (nI == (k : Int)) with
          | false =>
            have E := Lib.hid (fleetB_no hlt (by rw [flAt_at HX.out, HT.out, HNI.out, he]; rfl))
            have he' : nI ≠ (k : Int) := by simpa using he
            go_wp2
            go_ret
            exact ⟨ret_bool E.out.symm, hb6.out⟩
          | true =>
            have F2 := Lib.hid (hF.out.next (by rw [flAt_at HX.out, HT.out, HNI.out, he]; rfl))
            have he' : nI = (k : Int) := by simpa using he
            subst he'
            go_wp2
            go_roundw
            case rel => exact ⟨k + 1, by omega, by go_num, F2, hb6⟩
            case measure => simp [intOf]; omega
    · obtain rfl : k = l.length := by omega
      have E := Lib.hid (fleetB_mk (by omega) hF.out)
      go_wp2
      go_ret
      exact ⟨ret_bool E.out.symm, hb.out⟩
set_option maxHeartbeats 8000000 in
theorem implFleetOk (v : Value) (l : List ShipD) (w : World) (h : SlShip w v l) (hw : ∀ x ∈ l, ShipD.wf x) :
    Calls Try.prog 56 #[v] w fun e w' => e = .returned (.bool (fleetB l)) ∧ Below w.heap.size w w' := by
  have HS := Lib.hid h
  have HWF := Lib.hid hw
  have hl := h.1
  obtain ⟨A1, c1, rfl⟩ := h.at
  clear h hw
  by_cases hlen : 6 < l.length
  · have E := Lib.hid (fleetB_long hlen)
    go_enter Try.func56, Try.ntmps56
    go_wp2
    go_ret
    exact ⟨ret_bool E.out.symm, Below.refl _ _⟩
  go_enter Try.func56, Try.ntmps56
  go_wp2
  go_loopw [10] (fun i wr => ∃ k : Nat, k ≤ l.length ∧ i = .int .i64 k ∧ Hid (FirstF l k) ∧ Hid (Below w.heap.size w wr)) (fun i _ => l.length - (intOf i).toNat)
  case atStart => exact ⟨0, Nat.zero_le _, rfl, Lib.hid (FirstF.zero _), Lib.hid (Below.refl _ _)⟩
  case round =>
    obtain ⟨k, hk, rfl, hF, hb⟩ := hrel
    have hzs := hb.out.size
    by_cases hlt : k < l.length
    · obtain ⟨x, hx⟩ : ∃ x, l[k]? = some x := ⟨_, List.getElem?_eq_getElem hlt⟩
      rcases HS.out.2 with ⟨he, _⟩ | ⟨g, o, c, e, hpos, hcap, hc⟩
      · rw [he] at hlt; simp at hlt
      · injection e with hA _ hcp
        subst hA hcp
        obtain ⟨q0, q1, q2, q3, q4, q5⟩ := SlShip.cells hc k x hx
        have hg : g < w.heap.size := World.block_lt_of_cell? w ⟨g, o + k * 6, none⟩ q0
        have y0 := (hb.out.cell (p := ⟨g, o + k * 6, none⟩) hg).trans q0
        have y1 := (hb.out.cell (p := ⟨g, o + k * 6 + 1, none⟩) hg).trans q1
        have y2 := (hb.out.cell (p := ⟨g, o + k * 6 + 2, none⟩) hg).trans q2
        have y3 := (hb.out.cell (p := ⟨g, o + k * 6 + 3, none⟩) hg).trans q3
        have y4 := (hb.out.cell (p := ⟨g, o + k * 6 + 4, none⟩) hg).trans q4
        have y5 := (hb.out.cell (p := ⟨g, o + k * 6 + 5, none⟩) hg).trans q5
        have HX := Lib.hid hx
        have XW := Lib.hid (HWF.out x (List.mem_of_getElem? hx))
        clear q0 q1 q2 q3 q4 q5 hx hc
        have hal := Joins.below_alloc1 wr (.cells #[.string x.name, .int .i64 x.length, .int .i64 x.draught, .int .i64 x.line, .int .i64 x.tugs, .bool x.slow] 43)
        have hb2 := Lib.hid (hb.out.trans (hal.mono hzs))
        have SB := Lib.hid (Blk.new wr #[.string x.name, .int .i64 x.length, .int .i64 x.draught, .int .i64 x.line, .int .i64 x.tugs, .bool x.slow] 43)
        clear hal
        obtain ⟨t, ht⟩ : ∃ t, shipB x = t := ⟨_, rfl⟩
        have HT := Lib.hid ht
        clear ht
        go_wp2_with fail
        refine (implShipOk x _ XW.out).mono ?_
        rw [HT.out]
        rintro e w2 ⟨rfl, hb3⟩
        have z0 := (SB.out.below hb3).cell 0
        simp at z0
        have hb4 := Lib.hid (hb2.out.trans (hb3.mono hb2.out.size))
        clear hb3 y0 y1 y2 y3 y4 y5
        cases t with
        | false =>
          have E := Lib.hid (fleetB_no hlt (by rw [flAt_at HX.out, HT.out]; rfl))
          go_wp2
          go_ret
          exact ⟨ret_bool E.out.symm, hb4.out⟩
        | true =>
          obtain ⟨nI, hnI⟩ : ∃ n, shipI l x.name = n := ⟨_, rfl⟩
          have HNI := Lib.hid hnI
          clear hnI
          go_wp2_with fail
          refine (implShipNamed _ l x.name _ (HS.out.below hb4.out) HWF.out XW.out.1).mono ?_
          rw [HNI.out]
          rintro e w3 ⟨rfl, hb5⟩
          have hb6 := Lib.hid (hb4.out.trans (hb5.mono hb4.out.size))
          clear hb5 z0
          cases he : (nI == (k : Int)) with
          | false =>
            have E := Lib.hid (fleetB_no hlt (by rw [flAt_at HX.out, HT.out, HNI.out, he]; rfl))
            have he' : nI ≠ (k : Int) := by simpa using he
            go_wp2
            go_ret
            exact ⟨ret_bool E.out.symm, hb6.out⟩
          | true =>
            have F2 := Lib.hid (hF.out.next (by rw [flAt_at HX.out, HT.out, HNI.out, he]; rfl))
            have he' : nI = (k : Int) := by simpa using he
            subst he'
            go_wp2
            go_roundw
            case rel => exact ⟨k + 1, by omega, by go_num, F2, hb6⟩
            case measure => simp [intOf]; omega
    · obtain rfl : k = l.length := by omega
      have E := Lib.hid (fleetB_mk (by omega) hF.out)
      go_wp2
      go_ret
      exact ⟨ret_bool E.out.symm, hb.out⟩
end Go.Proofs.Ytghjfcnboocmjaa
