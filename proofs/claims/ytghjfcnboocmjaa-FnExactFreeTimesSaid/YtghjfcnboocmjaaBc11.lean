
/- What ExactFreeTimes and BerthsLaw rests on, part 11: contracts and mathematics. -/
import Derived.Test.YtghjfcnboocmjaaBc9
import Derived.Test.YtghjfcnboocmjaaBc2
import Derived.Test.YtghjfcnboocmjaaBc4
import Derived.Test.YtghjfcnboocmjaaBc1
import Derived.Test.YtghjfcnboocmjaaBc7
namespace Go.Proofs.Ytghjfcnboocmjaa
open Go.RowKit
set_option maxRecDepth 100000
/-- The closure of ShipNamed. -/
theorem named1 (x : ShipD) (s : ByteArray) (Ba : Nat) (w : World) (ha : w.cell? ⟨Ba, 0, none⟩ = some (.string s)) :
    Calls Try.prog 103 #[x.val, .pointer (some ⟨Ba, 0, none⟩)] w fun e w' => e = .returned (.bool (shipNm s x)) ∧ Below w.heap.size w w' := by
  obtain ⟨na, le, dr, li, tu, sl⟩ := x
  have B := Lib.hid (Joins.below_alloc1 w (.cells #[.string na, .int .i64 le, .int .i64 dr, .int .i64 li, .int .i64 tu, .bool sl] 43))
  have ya := (B.out.cell (p := ⟨Ba, 0, none⟩) (World.block_lt_of_cell? w _ ha)).trans ha
  clear ha
  cases h1 : (na.toList == s.toList)
  all_goals
    have E := Lib.hid (show shipNm s ⟨na, le, dr, li, tu, sl⟩ = _ from h1)
    go_enter Try.func103, Try.ntmps103
    go_wp2
    go_ret
    exact ⟨ret_bool E.out.symm, B.out⟩
set_option maxHeartbeats 2000000 in
/-- slices.IndexFunc over ships, with any closure whose answers are p. -/
theorem shipIndex_any (fv : Value) (p : ShipD → Bool) (v : Value) (l : List ShipD) (s : ByteArray) (Ba : Nat) (w : World) (h : SlShip w v l) (ha : w.cell? ⟨Ba, 0, none⟩ = some (.string s)) (hp : p = shipNm s) (hfv : fv = .func (.func 103) #[] #[.pointer (some ⟨Ba, 0, none⟩)]) :
    Calls Try.prog 102 #[v, fv] w fun e w' => e = .returned (.int .i64 (firstI p l)) ∧ Below w.heap.size w w' := by
  subst hp hfv
  have HS := Lib.hid h
  have hl := h.1
  obtain ⟨A1, c1, rfl⟩ := h.at
  have hla : Ba < w.heap.size := World.block_lt_of_cell? w _ ha
  have HA := Lib.hid ha
  clear h ha
  go_enter Try.func102, Try.ntmps102
  go_wp2
  go_loopw [8] (fun i wr => ∃ k : Nat, k ≤ l.length ∧ i = .int .i64 k ∧ Hid (NoOne (shipNm s) l k) ∧ Hid (Below w.heap.size w wr)) (fun i _ => l.length - (intOf i).toNat)
  case atStart => exact ⟨0, Nat.zero_le _, rfl, Lib.hid (NoOne.zero _ _), Lib.hid (Below.refl _ _)⟩
  case round =>
    obtain ⟨k, hk, rfl, hN, hb⟩ := hrel
    by_cases hlt : k < l.length
    · obtain ⟨x, hx⟩ : ∃ x, l[k]? = some x := ⟨_, List.getElem?_eq_getElem hlt⟩
      rcases HS.out.2 with ⟨he, _⟩ | ⟨g, o, c, e, hpos, hcap, hc⟩
      · rw [he] at hlt; simp at hlt
      · injection e with hA _ hcp
        subst hA hcp
        obtain ⟨q0, q1, q2, q3, q4, q5⟩ := SlShip.cells hc k x hx
        have hg : g < w.heap.size := World.block_lt_of_cell? w ⟨g, o + k * 6, none⟩ q0
        have y0 := (hb.out.cell (p := ⟨g, o + k * 6, none⟩) hg).trans q0
        have y1 := (hb.out.cell (p := ⟨g, o + k * 6 + 1, none⟩) hg).trans q1
        have y2 := (hb.out.cell (p := ⟨g, o + k * 6 + 2, none⟩) hg).trans q2
        have y3 := (hb.out.cell (p := ⟨g, o + k * 6 + 3, none⟩) hg).trans q3
        have y4 := (hb.out.cell (p := ⟨g, o + k * 6 + 4, none⟩) hg).trans q4
        have y5 := (hb.out.cell (p := ⟨g, o + k * 6 + 5, none⟩) hg).trans q5
        have YA := Lib.hid ((hb.out.cell (p := ⟨Ba, 0, none⟩) hla).trans HA.out)
        have HX := Lib.hid hx
        clear q0 q1 q2 q3 q4 q5 hx hc
        obtain ⟨t, ht⟩ : ∃ t, shipNm s x = t := ⟨_, rfl⟩
        have HT := Lib.hid ht
        clear ht
        go_wp2_with fail
        refine (named1 x s Ba _ YA.out).mono ?_
        rw [HT.out]
        rintro e w5 ⟨rfl, hb5⟩
        have hb6 := Lib.hid (hb.out.trans (hb5.mono hb.out.size))
        clear hb5 y0 y1 y2 y3 y4 y5
        cases t with
        | true =>
          have E := Lib.hid (firstI_at hN.out HX.out HT.out)
          go_wp2
          go_ret
          exact ⟨ret_int E.out.symm, hb6.out⟩
        | false =>
          have N2 := Lib.hid (hN.out.next HX.out HT.out)
          go_wp2
          go_roundw
          case rel => exact ⟨k + 1, by omega, by go_num, N2, hb6⟩
          case measure => simp [intOf]; omega
    · obtain rfl : k = l.length := by omega
      have E := Lib.hid (firstI_none hN.out)
      go_wp2
      go_ret
      exact ⟨ret_int E.out.symm, hb.out⟩
theorem implShipNamed (v : Value) (l : List ShipD) (s : ByteArray) (w : World) (h : SlShip w v l) (_ : ∀ x ∈ l, ShipD.wf x) (_ : s.size ≤ maxLen) :
    Calls Try.prog 83 #[v, .string s] w fun e w' => e = .returned (.int .i64 (shipI l s)) ∧ Below w.heap.size w w' := by
  have B := Lib.hid (Joins.below_alloc1 w (.cells #[.string s] 9))
  have HS := Lib.hid (SlShip.below h B.out)
  obtain ⟨A1, c1, rfl⟩ := h.at
  have C0 := Lib.hid (show (w.alloc (.cells #[.string s] 9)).cell? ⟨w.heap.size, 0, none⟩ = some (.string s) from (Blk.new w #[.string s] 9).cell 0)
  clear h
  go_enter Try.func83, Try.ntmps83
  go_wp2_with fail
  refine (shipIndex_any _ (shipNm s) _ l s _ _ HS.out C0.out rfl rfl).mono ?_
  rintro e w1 ⟨rfl, hb1⟩
  have B1 := Lib.hid (B.out.trans (hb1.mono B.out.size))
  clear hb1
  go_wp2
  go_ret
  exact ⟨rfl, B1.out⟩
set_option maxHeartbeats 8000000 in
theorem implFleetOk (v : Value) (l : List ShipD) (w : World) (h : SlShip w v l) (hw : ∀ x ∈ l, ShipD.wf x) :
    Calls Try.prog 56 #[v] w fun e w' => e = .returned (.bool (fleetB l)) ∧ Below w.heap.size w w' := by
  have HS := Lib.hid h
  have HWF := Lib.hid hw
  have hl := h.1
  obtain ⟨A1, c1, rfl⟩ := h.at
  clear h hw
  by_cases hlen : 6 < l.length
  · have E := Lib.hid (fleetB_long hlen)
    go_enter Try.func56, Try.ntmps56
    go_wp2
    go_ret
    exact ⟨ret_bool E.out.symm, Below.refl _ _⟩
  go_enter Try.func56, Try.ntmps56
  go_wp2
  go_loopw [10] (fun i wr => ∃ k : Nat, k ≤ l.length ∧ i = .int .i64 k ∧ Hid (FirstF l k) ∧ Hid (Below w.heap.size w wr)) (fun i _ => l.length - (intOf i).toNat)
  case atStart => exact ⟨0, Nat.zero_le _, rfl, Lib.hid (FirstF.zero _), Lib.hid (Below.refl _ _)⟩
  case round =>
    obtain ⟨k, hk, rfl, hF, hb⟩ := hrel
    have hzs := hb.out.size
    by_cases hlt : k < l.length
    · obtain ⟨x, hx⟩ : ∃ x, l[k]? = some x := ⟨_, List.getElem?_eq_getElem hlt⟩
      rcases HS.out.2 with ⟨he, _⟩ | ⟨g, o, c, e, hpos, hcap, hc⟩
      · rw [he] at hlt; simp at hlt
      · injection e with hA _ hcp
        subst hA hcp
        obtain ⟨q0, q1, q2, q3, q4, q5⟩ := SlShip.cells hc k x hx
        have hg : g < w.heap.size := World.block_lt_of_cell? w ⟨g, o + k * 6, none⟩ q0
        have y0 := (hb.out.cell (p := ⟨g, o + k * 6, none⟩) hg).trans q0
        have y1 := (hb.out.cell (p := ⟨g, o + k * 6 + 1, none⟩) hg).trans q1
        have y2 := (hb.out.cell (p := ⟨g, o + k * 6 + 2, none⟩) hg).trans q2
        have y3 := (hb.out.cell (p := ⟨g, o + k * 6 + 3, none⟩) hg).trans q3
        have y4 := (hb.out.cell (p := ⟨g, o + k * 6 + 4, none⟩) hg).trans q4
        have y5 := (hb.out.cell (p := ⟨g, o + k * 6 + 5, none⟩) hg).trans q5
        have HX := Lib.hid hx
        have XW := Lib.hid (HWF.out x (List.mem_of_getElem? hx))
        clear q0 q1 q2 q3 q4 q5 hx hc
        have hal := Joins.below_alloc1 wr (.cells #[.string x.name, .int .i64 x.length, .int .i64 x.draught, .int .i64 x.line, .int .i64 x.tugs, .bool x.slow] 43)
        have hb2 := Lib.hid (hb.out.trans (hal.mono hzs))
        have SB := Lib.hid (Blk.new wr #[.string x.name, .int .i64 x.length, .int .i64 x.draught, .int .i64 x.line, .int .i64 x.tugs, .bool x.slow] 43)
        clear hal
        obtain ⟨t, ht⟩ : ∃ t, shipB x = t := ⟨_, rfl⟩
        have HT := Lib.hid ht
        clear ht
        go_wp2_with fail
        refine (implShipOk x _ XW.out).mono ?_
        rw [HT.out]
        rintro e w2 ⟨rfl, hb3⟩
        have z0 := (SB.out.below hb3).cell 0
        simp at z0
        have hb4 := Lib.hid (hb2.out.trans (hb3.mono hb2.out.size))
        clear hb3 y0 y1 y2 y3 y4 y5
        cases t with
        | false =>
          have E := Lib.hid (fleetB_no hlt (by rw [flAt_at HX.out, HT.out]; rfl))
          go_wp2
          go_ret
          exact ⟨ret_bool E.out.symm, hb4.out⟩
        | true =>
          obtain ⟨nI, hnI⟩ : ∃ n, shipI l x.name = n := ⟨_, rfl⟩
          have HNI := Lib.hid hnI
          clear hnI
          go_wp2_with fail
          refine (implShipNamed _ l x.name _ (HS.out.below hb4.out) HWF.out XW.out.1).mono ?_
          rw [HNI.out]
          rintro e w3 ⟨rfl, hb5⟩
          have hb6 := Lib.hid (hb4.out.trans (hb5.mono hb4.out.size))
          clear hb5 z0
          cases he : (nI == (k : Int)) with
          | false =>
            have E := Lib.hid (fleetB_no hlt (by rw [flAt_at HX.out, HT.out, HNI.out, he]; rfl))
            have he' : nI ≠ (k : Int) := by simpa using he
            go_wp2
            go_ret
            exact ⟨ret_bool E.out.symm, hb6.out⟩
          | true =>
            have F2 := Lib.hid (hF.out.next (by rw [flAt_at HX.out, HT.out, HNI.out, he]; rfl))
            have he' : nI = (k : Int) := by simpa using he
            subst he'
            go_wp2
            go_roundw
            case rel => exact ⟨k + 1, by omega, by go_num, F2, hb6⟩
            case measure => simp [intOf]; omega
    · obtain rfl : k = l.length := by omega
      have E := Lib.hid (fleetB_mk (by omega) hF.out)
      go_wp2
      go_ret
      exact ⟨ret_bool E.out.symm, hb.out⟩
end Go.Proofs.Ytghjfcnboocmjaa
namespace Go.Proofs.Ytghjfcnboocmjaa
open Go.RowKit
set_option maxRecDepth 100000
variable {α : Type} {k : Nat} {cs : α → List Value} {t : TypeId}
/-- What holds while a list is drawn. -/
structure DrawsL (k : Nat) (cs : α → List Value) (t : TypeId) (w : World) (p : Nat) (v : Value) (l : List α) (wr : World) : Prop where
  cur : Cursor wr p
  gr : w.grownBy wr (some p)
  own : OwnOf k cs t wr w.heap.size v l
  hp : p < w.heap.size
theorem DrawsL.step {w wr w3 : World} {p : Nat} {v : Value} {l : List α} (h : DrawsL k cs t w p v l wr) (hg : wr.grownBy w3 (some p)) (hc : Cursor w3 p) : DrawsL k cs t w p v l w3 :=
  ⟨hc, grown_trans h.gr hg, own_kept h.own hg (fun b hv e => by have := (own_ge h.own hv).1; have := h.hp; have := Option.some.inj e; omega), h.hp⟩
theorem DrawsL.below {w wr w3 : World} {p : Nat} {v : Value} {l : List α} (h : DrawsL k cs t w p v l wr) (hb : Below wr.heap.size wr w3) : DrawsL k cs t w p v l w3 :=
  ⟨h.cur.below hb, grown_trans h.gr (grown_of_below hb _), own_below h.own hb, h.hp⟩
theorem DrawsL.made {w : World} {p : Nat} (hk : ∀ y, (cs y).length = k) (hc : Cursor w p) : DrawsL k cs t w p (.slice (some ⟨w.heap.size, 0, none⟩) 0 0) [] (w.alloc (.cells #[] t)) :=
  ⟨hc.below (Joins.below_alloc1 w _), grown_of_below (Joins.below_alloc1 w _) _, (LivO.build (LivO.nil w) hk 0 [] (by simp)).own _ List.mem_cons_self, hc.lt⟩
theorem DrawsL.app {w wr w4 : World} {p : Nat} {v : Value} {l : List α} {d : α} {g4 cap4 : Nat} (h : DrawsL k cs t w p v l wr)
    (hown : w4.ownsRow w.heap.size t k (.slice (some ⟨g4, 0, none⟩) (l.length + 1) cap4) (l.length + 1) (l.flatMap cs ++ cs d)) (hgr : wr.grownBy w4 v.ownBlock) : DrawsL k cs t w p (.slice (some ⟨g4, 0, none⟩) (l.length + 1) cap4) (l ++ [d]) w4 := by
  have r0 : ∀ b, v.ownBlock = some b → w.heap.size ≤ b := fun b hv => (own_ge h.own hv).1
  refine ⟨h.cur.grown hgr (fun b hv => by have := r0 b hv; have := h.hp; omega), grown_young h.gr hgr r0, ?_, h.hp⟩
  show World.ownsRow _ _ _ _ _ _ _
  have e : (l ++ [d]).flatMap cs = l.flatMap cs ++ cs d := by simp
  rw [e]
  simpa using hown
theorem DrawsL.form {w wr : World} {p : Nat} {v : Value} {l : List α} (h : DrawsL k cs t w p v l wr) : ∃ A c, v = .slice A l.length c := own_form h.own
theorem DrawsL.size {w wr : World} {p : Nat} {v : Value} {l : List α} (h : DrawsL k cs t w p v l wr) : w.heap.size ≤ wr.heap.size := h.gr.size
end Go.Proofs.Ytghjfcnboocmjaa
namespace Go.Proofs.Ytghjfcnboocmjaa
open Go.RowKit
set_option maxRecDepth 100000
theorem str_none (t : ByteArray) : t ++ ⟨#[]⟩ = t := by apply ba_ext; simp [ByteArray.data_append]
theorem specFormat1 (n : Int) (w : World) (h0 : 0 ≤ n) (h1 : n ≤ 9) :
    Calls Try.prog 80 #[.int .i64 n] w fun e w' => e = .returned (.string (strOfNums [48 + n])) ∧ Below w.heap.size w w' := by
  go_enter Try.func80, Try.ntmps80
  go_wp2
  go_loopw [0, 3] (fun i q wr => ∃ t : ByteArray, i = .int .i64 n ∧ q = .string t ∧ Hid (t = ⟨#[]⟩) ∧ t.size ≤ 21 ∧ Below w.heap.size w wr) (fun _ _ _ => 0)
  case atStart => exact ⟨_, rfl, rfl, Lib.hid rfl, by simp [ByteArray.size], Below.refl _ _⟩
  case round =>
    obtain ⟨t, rfl, rfl, he, htz, hb⟩ := hrel
    have hsz := hb.size
    have hcv := conv_one wr (48 + n)
    have hs1 := strOfNums_size [48 + n]
    simp only [List.length_cons, List.length_nil] at hs1
    go_wp2
    go_ret
    refine ⟨ret_str ?_, hb.alloc hsz _⟩
    rw [he.out, str_none]
def shipName (i : Nat) : ByteArray := ⟨#[115]⟩ ++ strOfNums [48 + (i : Int)]
def shipGood (i : Nat) (d : ShipD) : Prop := d.name = shipName i ∧ 40 ≤ d.length ∧ d.length < 240 ∧ 600 ≤ d.draught ∧ d.draught < 1100 ∧ 0 ≤ d.line ∧ d.line < 4 ∧ 0 ≤ d.tugs ∧ d.tugs < 3
/-- What a drawn ship leaves. -/
def DrawsShip (p i : Nat) (w : World) (e : Ending) (w' : World) : Prop := ∃ d : ShipD, e = .returned d.val ∧ shipGood i d ∧ Cursor w' p ∧ w.grownBy w' (some p)
set_option maxHeartbeats 2000000 in
theorem l06Ship_any (p i : Nat) (w : World) (hi : i ≤ 9) (hcur : Cursor w p) : Calls Try.prog 81 #[.pointer (some ⟨p, 0, none⟩), .int .i64 (i : Int)] w (DrawsShip p i w) := by
  have hb0 := Joins.below_alloc1 w (.cells #[.string ⟨#[]⟩, .int .i64 0, .int .i64 0, .int .i64 0, .int .i64 0, .bool false] 43)
  have hp := hcur.lt
  have G0 := Lib.hid (grown_alloc w (.cells #[.string ⟨#[]⟩, .int .i64 0, .int .i64 0, .int .i64 0, .int .i64 0, .bool false] 43) (some p))
  have K0 := Lib.hid (Blk.new w #[.string ⟨#[]⟩, .int .i64 0, .int .i64 0, .int .i64 0, .int .i64 0, .bool false] 43)
  have HC0 := Lib.hid (hcur.below hb0)
  have HNP := Lib.hid (show some w.heap.size ≠ some p by simp; omega)
  have hs1 := strOfNums_size [48 + (i : Int)]
  simp only [List.length_cons, List.length_nil] at hs1
  clear hcur hb0
  go_enter Try.func81, Try.ntmps81
  go_wp2_with fail
  refine (specFormat1 (i : Int) _ (by omega) (by omega)).mono ?_
  rintro e w1 ⟨rfl, hb1⟩
  have hsz1 : w.heap.size + 1 ≤ w1.heap.size := by have := hb1.size; simpa using this
  have HC1 := Lib.hid (HC0.out.below hb1)
  have G1 := Lib.hid (grown_trans G0.out (grown_of_below hb1 (some p)))
  have K1 := Lib.hid (K0.out.below hb1)
  clear hb1 HC0 G0 K0
  go_wp2_with fail
  refine (l01Below_any p 200 _ (by omega) (by omega) HC1.out).mono ?_
  rintro e w2 ⟨x, rfl, x0, x1, hc, hg⟩
  have hsz2 : w.heap.size + 1 ≤ w2.heap.size := Nat.le_trans hsz1 hg.size
  have HC2 := Lib.hid hc
  have G2 := Lib.hid (grown_trans G1.out hg)
  have K2 := Lib.hid (K1.out.grown hg HNP.out)
  clear hc hg HC1 G1 K1
  go_wp2_with fail
  refine (l01Below_any p 500 _ (by omega) (by omega) HC2.out).mono ?_
  rintro e w3 ⟨y, rfl, y0, y1, hc, hg⟩
  have hsz3 : w.heap.size + 1 ≤ w3.heap.size := Nat.le_trans hsz2 hg.size
  have HC3 := Lib.hid hc
  have G3 := Lib.hid (grown_trans G2.out hg)
  have K3 := Lib.hid (K2.out.grown hg HNP.out)
  clear hc hg HC2 G2 K2
  go_wp2_with fail
  refine (l01Below_any p 4 _ (by omega) (by omega) HC3.out).mono ?_
  rintro e w4 ⟨z, rfl, z0, z1, hc, hg⟩
  have hsz4 : w.heap.size + 1 ≤ w4.heap.size := Nat.le_trans hsz3 hg.size
  have HC4 := Lib.hid hc
  have G4 := Lib.hid (grown_trans G3.out hg)
  have K4 := Lib.hid (K3.out.grown hg HNP.out)
  clear hc hg HC3 G3 K3
  go_wp2_with fail
  refine (l01Below_any p 3 _ (by omega) (by omega) HC4.out).mono ?_
  rintro e w5 ⟨u, rfl, u0, u1, hc, hg⟩
  have hsz5 : w.heap.size + 1 ≤ w5.heap.size := Nat.le_trans hsz4 hg.size
  have HC5 := Lib.hid hc
  have G5 := Lib.hid (grown_trans G4.out hg)
  have K5 := Lib.hid (K4.out.grown hg HNP.out)
  clear hc hg HC4 G4 K4
  go_wp2_with fail
  refine (l01Once_any p 4 _ (by omega) (by omega) HC5.out).mono ?_
  rintro e w6 ⟨b, rfl, hc, hg⟩
  have HC6 := Lib.hid hc
  have G6 := Lib.hid (grown_trans G5.out hg)
  have K6 := K5.out.grown hg HNP.out
  have hsz6 : w.heap.size < w6.heap.size := K6.lt
  have k0 := K6.cell 0
  have f0 : w6.frozen? ⟨w.heap.size, 0, none⟩ = false := K6.free 0
  have k1 := K6.cell 1
  have f1 : w6.frozen? ⟨w.heap.size, 1, none⟩ = false := K6.free 1
  have k2 := K6.cell 2
  have f2 : w6.frozen? ⟨w.heap.size, 2, none⟩ = false := K6.free 2
  have k3 := K6.cell 3
  have f3 : w6.frozen? ⟨w.heap.size, 3, none⟩ = false := K6.free 3
  have k4 := K6.cell 4
  have f4 : w6.frozen? ⟨w.heap.size, 4, none⟩ = false := K6.free 4
  have k5 := K6.cell 5
  have f5 : w6.frozen? ⟨w.heap.size, 5, none⟩ = false := K6.free 5
  simp at k0 k1 k2 k3 k4 k5
  clear hc hg HC5 G5 K5 K6
  go_wp2
  refine bodyPost_ret (v := .agg #[.string (⟨#[115]⟩ ++ strOfNums [48 + (i : Int)]), .int .i64 (40 + x), .int .i64 (600 + y), .int .i64 z, .int .i64 u, .bool b]) (by simp [results, Try.results81, go_sem, *]) rfl ⟨⟨_, _, _, _, _, _⟩, rfl, ⟨rfl, by show 40 ≤ 40 + x; omega, by show 40 + x < 240; omega, by show 600 ≤ 600 + y; omega, by show 600 + y < 1100; omega, z0, z1, u0, u1⟩, ?_, ?_⟩
  · exact (((((HC6.out.set hp _ _).set hp _ _).set hp _ _).set hp _ _).set hp _ _).set hp _ _
  · exact grown_setNew (grown_setNew (grown_setNew (grown_setNew (grown_setNew (grown_setNew G6.out (Nat.le_refl _) _) (Nat.le_refl _) _) (Nat.le_refl _) _) (Nat.le_refl _) _) (Nat.le_refl _) _) (Nat.le_refl _) _
/-- What holds at each round of l06Fleet. -/
def FlDraw (w : World) (p : Nat) (v : Value) (l : List ShipD) (wr : World) : Prop := Cursor wr p ∧ w.grownBy wr (some p) ∧ OwnShip wr w.heap.size v l ∧ (∀ j x, l[j]? = some x → shipGood j x) ∧ p < w.heap.size
theorem FlDraw.step {w wr w3 : World} {p : Nat} {v : Value} {l : List ShipD} (h : FlDraw w p v l wr) (hg : wr.grownBy w3 (some p)) (hc : Cursor w3 p) : FlDraw w p v l w3 := by
  obtain ⟨h1, h2, h3, h4, h5⟩ := h
  exact ⟨hc, grown_trans h2 hg, own_kept h3 hg (fun b hv e => by have := (own_ge h3 hv).1; have := Option.some.inj e; omega), h4, h5⟩
theorem FlDraw.below {w wr w3 : World} {p : Nat} {v : Value} {l : List ShipD} (h : FlDraw w p v l wr) (hb : Below wr.heap.size wr w3) : FlDraw w p v l w3 := by
  obtain ⟨h1, h2, h3, h4, h5⟩ := h
  exact ⟨h1.below hb, grown_trans h2 (grown_of_below hb _), own_below h3 hb, h4, h5⟩
theorem FlDraw.app {w wr w4 : World} {p : Nat} {v : Value} {l : List ShipD} {d : ShipD} {g4 cap4 : Nat} (h : FlDraw w p v l wr) (hd : shipGood l.length d)
    (hown : w4.ownsRow w.heap.size 43 6 (.slice (some ⟨g4, 0, none⟩) (l.length + 1) cap4) (l.length + 1) (l.flatMap ShipD.cells ++ d.cells)) (hgr : wr.grownBy w4 v.ownBlock) : FlDraw w p (.slice (some ⟨g4, 0, none⟩) (l.length + 1) cap4) (l ++ [d]) w4 := by
  obtain ⟨h1, h2, h3, h4, h5⟩ := h
  have r0 : ∀ b, v.ownBlock = some b → w.heap.size ≤ b := fun b hv => (own_ge h3 hv).1
  refine ⟨h1.grown hgr (fun b hv => by have := r0 b hv; omega), grown_young h2 hgr r0, ?_, fun j x hx => ?_, h5⟩
  · show World.ownsRow _ _ _ _ _ _ _
    have e : (l ++ [d]).flatMap ShipD.cells = l.flatMap ShipD.cells ++ d.cells := by simp
    rw [e]
    simpa using hown
  · rw [List.getElem?_append] at hx
    split at hx
    · exact h4 j x hx
    · rename_i hj
      cases hjj : j - l.length with
      | zero => rw [hjj] at hx; simp at hx; subst hx; have e : j = l.length := by omega
                rw [e]; exact hd
      | succ m => rw [hjj] at hx; simp at hx
/-- What a drawn fleet leaves. -/
def DrawsFleetN (m p : Nat) (w : World) (e : Ending) (w' : World) : Prop := ∃ (A : Option Addr) (c : Nat) (l : List ShipD), e = .returned (.slice A l.length c) ∧ 1 ≤ l.length ∧ l.length ≤ m ∧ FlDraw w p (.slice A l.length c) l w'
set_option maxHeartbeats 4000000 in
theorem l06FleetN_any (m p : Nat) (w : World) (hcur : Cursor w p) (hm1 : 1 ≤ m) (hm6 : m ≤ 6) : Calls Try.prog 49 #[.pointer (some ⟨p, 0, none⟩), .int .i64 (m : Int)] w (DrawsFleetN m p w) := by
  have hp := hcur.lt
  obtain ⟨i0, hi, hz0, hz1, hz2⟩ := info_parts info_ship
  have HI := Lib.hid (And.intro hi (And.intro hz0 (And.intro hz1 hz2)))
  have hal := Joins.below_alloc1 w (.cells #[] 43)
  have C := Lib.hid (l01Below_any p (m : Int) _ (by omega) (by omega) (hcur.below hal))
  have ST0 := Lib.hid (show FlDraw w p (.slice (some ⟨w.heap.size, 0, none⟩) 0 0) [] (w.alloc (.cells #[] 43)) from
    ⟨hcur.below hal, grown_of_below hal _, (GathO.made (cs := ShipD.cells) (t := 43) (k := 6) (Below.refl w.heap.size w)).1, fun j x hx => by simp at hx, hp⟩)
  clear hi hz0 hz1 hz2 hcur hal
  go_enter Try.func49, Try.ntmps49
  go_wp2_with fail
  refine C.out.mono ?_
  rintro e w1 ⟨n, rfl, n0, n1, hc, hg⟩
  have ST1 := Lib.hid (ST0.out.step hg hc)
  clear hc hg C ST0
  go_wp2
  go_loopw [5, 6] (fun q i wr => ∃ (k : Nat) (v : Value) (l : List ShipD), l.length + k ≤ m ∧ 0 < l.length + k ∧ i = .int .i64 k ∧ q = v ∧ Hid (FlDraw w p v l wr)) (fun _ i _ => (intOf i).toNat)
  case atStart => exact ⟨(1 + n).toNat, _, [], by simp; omega, by simp; omega, by simp; omega, rfl, ST1⟩
  case round =>
    obtain ⟨k, v, l, hlk, hpos, rfl, rfl, hD⟩ := hrel
    have hps : p < w.heap.size := hD.out.2.2.2.2
    obtain ⟨A, c, rfl⟩ := own_form hD.out.2.2.1
    by_cases hk : 0 < k
    · go_wp2_with fail
      refine (l06Ship_any p l.length _ (by omega) hD.out.1).mono ?_
      rintro e w3 ⟨d, rfl, hd, hc, hg⟩
      have SD := Lib.hid (hD.out.step hg hc)
      have HD := Lib.hid hd
      have AL := Lib.hid (SD.out.below (Joins.below_alloc1 w3 (.cells #[.string d.name, .int .i64 d.length, .int .i64 d.draught, .int .i64 d.line, .int .i64 d.tugs, .bool d.slow] 43)))
      have HN := Lib.hid (World.news_of_block (heap_alloc_new w3 (.cells #[.string d.name, .int .i64 d.length, .int .i64 d.draught, .int .i64 d.line, .int .i64 d.tugs, .bool d.slow] 43)))
      have hsz : w.heap.size ≤ w3.heap.size + 1 := by have := SD.out.2.1.size; omega
      have hi := HI.out
      clear hc hg hd hD
      go_wp2_with (at_builtin; refine wpList_append_lies _ rfl _ _ _ rfl w.heap.size 43 i0 _ 6 56 Try.underlying24 hi.1 hi.2.1 hi.2.2.1 hi.2.2.2 rfl (by omega) (.slice A l.length c) l.length (l.flatMap ShipD.cells) rfl AL.out.2.2.1 ⟨w3.heap.size, 0, none⟩ 1 1 d.cells (by first | rfl | simp) rfl HN.out (ship_one d) (by omega) (by unfold maxLen; omega) (by omega) (by first | omega | (simp; omega)) _ rfl ?_; intro g4 cap4 w4 hown4 hgrow4 hor4 hlt4; have GX := Lib.hid (AL.out.app HD.out hown4 hgrow4); clear hown4 hgrow4 hor4 hlt4)
      go_roundw
      case rel => exact ⟨k - 1, _, l ++ [d], by simp; omega, by simp; omega, by go_num, rfl, GX⟩
      case measure => simp [intOf]; omega
    · go_wp2
      go_ret
      exact ⟨A, c, l, rfl, by omega, by omega, hD.out⟩
/-- What a drawn fleet of three ships at most leaves. -/
def DrawsFleet (p : Nat) (w : World) (e : Ending) (w' : World) : Prop := DrawsFleetN 3 p w e w'
theorem l06Fleet_any (p : Nat) (w : World) (hcur : Cursor w p) : Calls Try.prog 49 #[.pointer (some ⟨p, 0, none⟩), .int .i64 3] w (DrawsFleet p w) := l06FleetN_any 3 p w hcur (by omega) (by omega)
theorem names_digit (i : Nat) (hi : i ≤ 5) : nameB (shipName i) = true := by
  match i, hi with
  | 0, _ => show nameB (shipName 0) = true; kernel_rfl
  | 1, _ => show nameB (shipName 1) = true; kernel_rfl
  | 2, _ => show nameB (shipName 2) = true; kernel_rfl
  | 3, _ => show nameB (shipName 3) = true; kernel_rfl
  | 4, _ => show nameB (shipName 4) = true; kernel_rfl
  | 5, _ => show nameB (shipName 5) = true; kernel_rfl
theorem names_apart : ∀ i j : Nat, i ≤ 5 → j ≤ 5 → i ≠ j → (((shipName i).toList == (shipName j).toList) = false) := by
  intro i j hi hj hne
  rw [ByteArray.toList_eq, ByteArray.toList_eq]
  match i, hi, j, hj with
  | 0, _, 1, _ => show ((shipName 0).data.toList == (shipName 1).data.toList) = false; kernel_rfl
  | 0, _, 2, _ => show ((shipName 0).data.toList == (shipName 2).data.toList) = false; kernel_rfl
  | 0, _, 3, _ => show ((shipName 0).data.toList == (shipName 3).data.toList) = false; kernel_rfl
  | 0, _, 4, _ => show ((shipName 0).data.toList == (shipName 4).data.toList) = false; kernel_rfl
  | 0, _, 5, _ => show ((shipName 0).data.toList == (shipName 5).data.toList) = false; kernel_rfl
  | 1, _, 0, _ => show ((shipName 1).data.toList == (shipName 0).data.toList) = false; kernel_rfl
  | 1, _, 2, _ => show ((shipName 1).data.toList == (shipName 2).data.toList) = false; kernel_rfl
  | 1, _, 3, _ => show ((shipName 1).data.toList == (shipName 3).data.toList) = false; kernel_rfl
  | 1, _, 4, _ => show ((shipName 1).data.toList == (shipName 4).data.toList) = false; kernel_rfl
  | 1, _, 5, _ => show ((shipName 1).data.toList == (shipName 5).data.toList) = false; kernel_rfl
  | 2, _, 0, _ => show ((shipName 2).data.toList == (shipName 0).data.toList) = false; kernel_rfl
  | 2, _, 1, _ => show ((shipName 2).data.toList == (shipName 1).data.toList) = false; kernel_rfl
  | 2, _, 3, _ => show ((shipName 2).data.toList == (shipName 3).data.toList) = false; kernel_rfl
  | 2, _, 4, _ => show ((shipName 2).data.toList == (shipName 4).data.toList) = false; kernel_rfl
  | 2, _, 5, _ => show ((shipName 2).data.toList == (shipName 5).data.toList) = false; kernel_rfl
  | 3, _, 0, _ => show ((shipName 3).data.toList == (shipName 0).data.toList) = false; kernel_rfl
  | 3, _, 1, _ => show ((shipName 3).data.toList == (shipName 1).data.toList) = false; kernel_rfl
  | 3, _, 2, _ => show ((shipName 3).data.toList == (shipName 2).data.toList) = false; kernel_rfl
  | 3, _, 4, _ => show ((shipName 3).data.toList == (shipName 4).data.toList) = false; kernel_rfl
  | 3, _, 5, _ => show ((shipName 3).data.toList == (shipName 5).data.toList) = false; kernel_rfl
  | 4, _, 0, _ => show ((shipName 4).data.toList == (shipName 0).data.toList) = false; kernel_rfl
  | 4, _, 1, _ => show ((shipName 4).data.toList == (shipName 1).data.toList) = false; kernel_rfl
  | 4, _, 2, _ => show ((shipName 4).data.toList == (shipName 2).data.toList) = false; kernel_rfl
  | 4, _, 3, _ => show ((shipName 4).data.toList == (shipName 3).data.toList) = false; kernel_rfl
  | 4, _, 5, _ => show ((shipName 4).data.toList == (shipName 5).data.toList) = false; kernel_rfl
  | 5, _, 0, _ => show ((shipName 5).data.toList == (shipName 0).data.toList) = false; kernel_rfl
  | 5, _, 1, _ => show ((shipName 5).data.toList == (shipName 1).data.toList) = false; kernel_rfl
  | 5, _, 2, _ => show ((shipName 5).data.toList == (shipName 2).data.toList) = false; kernel_rfl
  | 5, _, 3, _ => show ((shipName 5).data.toList == (shipName 3).data.toList) = false; kernel_rfl
  | 5, _, 4, _ => show ((shipName 5).data.toList == (shipName 4).data.toList) = false; kernel_rfl
  | 0, _, 0, _ => exact absurd rfl hne
  | 1, _, 1, _ => exact absurd rfl hne
  | 2, _, 2, _ => exact absurd rfl hne
  | 3, _, 3, _ => exact absurd rfl hne
  | 4, _, 4, _ => exact absurd rfl hne
  | 5, _, 5, _ => exact absurd rfl hne
end Go.Proofs.Ytghjfcnboocmjaa
