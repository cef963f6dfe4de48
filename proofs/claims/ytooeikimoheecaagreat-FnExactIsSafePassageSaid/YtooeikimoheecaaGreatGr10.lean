
/- What ExactIsSafePassage and ExactSailRoute and ExactFirstSail rests on, part 10: contracts and mathematics. -/
import Derived.Test.YtooeikimoheecaaGreatGr9
import Derived.Test.YtooeikimoheecaaGreatGr3
import Derived.Test.YtooeikimoheecaaGreatGr1
import Derived.RangeFuncNested
import Derived.RangeFuncBound
import Derived.RangeFuncCalls
import Derived.RangeFuncLeaves
import Derived.Shelf.Abstract
import Derived.Shelf.RegionOpen
import Derived.WalkKit
import Derived.OwnWalkIn
import Derived.TacticsInMore
import Derived.LoopNIn
import Derived.LoopIn
import Derived.Maps.AppendAt
namespace Go.Proofs.YtooeikimoheecaaGreat
open Go.RowKit
set_option maxRecDepth 100000
set_option maxHeartbeats 10000000 in
theorem specWindowsOk (v : Value) (l : List WindowD) (w : World) (h : SlWindow w v l) :
    Calls Tryz.prog 108 #[v] w fun e w' => e = .returned (.bool (winB l)) ∧ Below w.heap.size w w' := by
  obtain ⟨hl, h⟩ := h
  rcases h with ⟨rfl, A, c, rfl⟩ | ⟨g, o, c, rfl, hp, hcap, hc⟩
  · have E := Lib.hid (winB_mk (l := []) (FirstW.zero _))
    go_enter Tryz.func108, Tryz.ntmps108
    go_wp2
    refine wp_loop_rounds 1 ?_
    rw [rounds_succ]
    go_wp2
    go_ret
    exact ⟨ret_bool E.out.symm, Below.refl _ _⟩
  · have HC := Lib.hid hc
    clear hc
    go_enter Tryz.func108, Tryz.ntmps108
    go_wp2
    go_loopw [7] (fun i wr => ∃ k : Nat, k ≤ l.length ∧ i = .int .i64 k ∧ Hid (FirstW l k) ∧ Hid (Below w.heap.size w wr) ∧ w.heap.size ≤ wr.heap.size) (fun i _ => l.length - (intOf i).toNat)
    case atStart => exact ⟨0, Nat.zero_le _, rfl, Lib.hid (FirstW.zero _), Lib.hid (Below.refl _ _), Nat.le_refl _⟩
    case round =>
      obtain ⟨k, hk, rfl, hF, hb', hsz⟩ := hrel
      by_cases hlt : k < l.length
      rotate_left
      · obtain rfl : k = l.length := by omega
        have E := Lib.hid (winB_mk hF.out)
        go_wp2
        go_ret
        exact ⟨ret_bool E.out.symm, hb'.out⟩
      · obtain ⟨x, hx⟩ : ∃ x, l[k]? = some x := ⟨_, List.getElem?_eq_getElem hlt⟩
        obtain ⟨p0, p1⟩ := SlWindow.cells HC.out k x hx
        have hg : g < w.heap.size := World.block_lt_of_cell? w ⟨g, o + k * 2, none⟩ p0
        have a0 := (hb'.out.cell (p := ⟨g, o + k * 2, none⟩) hg).trans p0
        have a1 := (hb'.out.cell (p := ⟨g, o + k * 2 + 1, none⟩) hg).trans p1
        have HX := Lib.hid hx
        have hgr : g < wr.heap.size := by omega
        clear p0 p1 hx
        by_cases h1 : x.fr < 0 ∨ 2880 < x.fr
        · have E := Lib.hid (winB_bad k hlt (wokB_bad HX.out (by omega)))
          have E1 := Lib.hid (inB_no (x := x.fr) (lo := 0) (hi := 2880) h1)
          have E2 := Lib.hid (inB_no (x := x.fr) (lo := 0) (hi := 2880) h1)
          clear h1
          go_wp2
          go_quiet (first | (go_at_call 63; exact Calls.quiet_of_same (l01InQ _ _ _ _ (by first | exact E1.out | exact E2.out) _)) | fail)
          go_wp2
          go_ret
          refine ⟨ret_bool E.out.symm, ?_⟩
          repeat (first | exact hb'.out | refine below_drewN ?_ _ | refine Below.drew ?_ | refine Below.setCell ?_ (by first | omega | (simp <;> omega)) _ | refine Below.alloc ?_ (by first | omega | (simp <;> omega)) _)
        by_cases h2 : x.tt < x.fr ∨ 2880 < x.tt
        · have E := Lib.hid (winB_bad k hlt (wokB_bad HX.out (by omega)))
          have E1 := Lib.hid (inB_mk (x := x.fr) (lo := 0) (hi := 2880) (by omega) (by omega))
          have E2 := Lib.hid (inB_no (x := x.tt) (lo := x.fr) (hi := 2880) h2)
          clear h2
          go_wp2
          go_quiet (first | (go_at_call 63; exact Calls.quiet_of_same (l01InQ _ _ _ _ (by first | exact E1.out | exact E2.out) _)) | fail)
          go_wp2
          go_ret
          refine ⟨ret_bool E.out.symm, ?_⟩
          repeat (first | exact hb'.out | refine below_drewN ?_ _ | refine Below.drew ?_ | refine Below.setCell ?_ (by first | omega | (simp <;> omega)) _ | refine Below.alloc ?_ (by first | omega | (simp <;> omega)) _)
        have E1 := Lib.hid (inB_mk (x := x.fr) (lo := 0) (hi := 2880) (by omega) (by omega))
        have E2 := Lib.hid (inB_mk (x := x.tt) (lo := x.fr) (hi := 2880) (by omega) (by omega))
        have ok : 0 ≤ x.fr ∧ x.fr ≤ x.tt ∧ x.tt ≤ 2880 := by omega
        have OK := Lib.hid ok
        clear ok h1 h2
        by_cases hk0 : k = 0
        · have FF := Lib.hid (hF.out.next (wokB_zero hk0 HX.out OK.out))
          have hd : decide (0 < k) = false := decide_eq_false (by omega)
          clear hk0
          go_wp2
          go_quiet (first | (go_at_call 63; exact Calls.quiet_of_same (l01InQ _ _ _ _ (by first | exact E1.out | exact E2.out) _)) | fail)
          go_wp2
          go_roundw
          case rel =>
            refine ⟨k + 1, by omega, by go_num, FF, Lib.hid ?_, ?_⟩
            · repeat (first | exact hb'.out | refine below_drewN ?_ _ | refine Below.drew ?_ | refine Below.setCell ?_ (by first | omega | (simp <;> omega)) _ | refine Below.alloc ?_ (by first | omega | (simp <;> omega)) _)
            · simp <;> omega
          case measure => simp [intOf]; omega
        obtain ⟨j, hj⟩ : ∃ j, k = j + 1 := ⟨k - 1, by omega⟩
        obtain ⟨y, hy⟩ : ∃ y, l[j]? = some y := ⟨_, List.getElem?_eq_getElem (by omega)⟩
        obtain ⟨_, r1⟩ := SlWindow.cells HC.out j y hy
        have y1 := (hb'.out.cell (p := ⟨g, o + j * 2 + 1, none⟩) hg).trans r1
        obtain ⟨t0, t1, t2⟩ := hF.out.time (show j < k by omega) hy
        have hw1 : IntKind.i64.wrap ((k : Int) - 1) = (j : Int) := by rw [IntWalk.i64_in _ (by omega)]; omega
        have hw2 : IntKind.i64.wrap (y.tt + 1) = y.tt + 1 := IntWalk.i64_in _ (by omega)
        have HE := Lib.hid (wokB_succ hj HX.out hy OK.out)
        have hd : decide (0 < k) = true := decide_eq_true (by omega)
        have hjl : j < l.length := by omega
        have HJ := Lib.hid hj
        clear hj hy r1 hk0 t0 t1 t2
        by_cases hyx : x.fr ≤ y.tt + 1
        · have hd2 : decide (x.fr ≤ y.tt + 1) = true := decide_eq_true hyx
          have E := Lib.hid (winB_bad k hlt (HE.out.trans (decide_eq_false (by omega))))
          go_wp2
          go_quiet (first | (go_at_call 63; exact Calls.quiet_of_same (l01InQ _ _ _ _ (by first | exact E1.out | exact E2.out) _)) | fail)
          go_wp2
          go_ret
          refine ⟨ret_bool E.out.symm, ?_⟩
          repeat (first | exact hb'.out | refine below_drewN ?_ _ | refine Below.drew ?_ | refine Below.setCell ?_ (by first | omega | (simp <;> omega)) _ | refine Below.alloc ?_ (by first | omega | (simp <;> omega)) _)
        · have hd2 : decide (x.fr ≤ y.tt + 1) = false := decide_eq_false hyx
          have FF := Lib.hid (hF.out.next (HE.out.trans (decide_eq_true (by omega))))
          go_wp2
          go_quiet (first | (go_at_call 63; exact Calls.quiet_of_same (l01InQ _ _ _ _ (by first | exact E1.out | exact E2.out) _)) | fail)
          go_wp2
          go_roundw
          case rel =>
            refine ⟨k + 1, by omega, by go_num, FF, Lib.hid ?_, ?_⟩
            · repeat (first | exact hb'.out | refine below_drewN ?_ _ | refine Below.drew ?_ | refine Below.setCell ?_ (by first | omega | (simp <;> omega)) _ | refine Below.alloc ?_ (by first | omega | (simp <;> omega)) _)
            · simp <;> omega
          case measure => simp [intOf]; omega
end Go.Proofs.YtooeikimoheecaaGreat
namespace Go.Proofs.YtooeikimoheecaaGreat
open Go.RowKit
/-- The surge k is valid and begins behind the one before it. -/
def okB (s : List SurgeD) (k : Nat) : Bool :=
  match s[k]? with
  | none => false
  | some x => surgeB x && (k == 0 || match s[k - 1]? with | none => false | some y => decide (y.fr < x.fr))
def headB (s : List SurgeD) : Bool := match s[0]? with | none => false | some x => decide (x.fr = 0)
def fcB (m : Int) (l : List PartD) (s : List SurgeD) : Bool := tideB m l && decide (1 ≤ s.length ∧ s.length ≤ 6) && headB s && (List.range s.length).all (okB s)
def FirstFc (s : List SurgeD) (k : Nat) : Prop := ∀ j, j < k → okB s j = true
theorem fcB_true {m : Int} {l : List PartD} {s : List SurgeD} (h : fcB m l s = true) : tideB m l = true ∧ 1 ≤ s.length ∧ s.length ≤ 6 ∧ headB s = true ∧ FirstFc s s.length := by
  unfold fcB at h
  simp only [Bool.and_eq_true, decide_eq_true_eq, List.all_eq_true] at h
  exact ⟨h.1.1.1, h.1.1.2.1, h.1.1.2.2, h.1.2, fun j hj => h.2 j (by simpa using hj)⟩
theorem fcB_mk {m : Int} {l : List PartD} {s : List SurgeD} (h0 : tideB m l = true) (h1 : 1 ≤ s.length) (h2 : s.length ≤ 6) (h3 : headB s = true) (h4 : FirstFc s s.length) : fcB m l s = true := by
  unfold fcB
  simp only [Bool.and_eq_true, decide_eq_true_eq, List.all_eq_true]
  exact ⟨⟨⟨h0, h1, h2⟩, h3⟩, fun j hj => h4 j (by simpa using hj)⟩
theorem fcB_tide {m : Int} {l : List PartD} {s : List SurgeD} (h : tideB m l = false) : fcB m l s = false := by
  cases e : fcB m l s with
  | false => rfl
  | true => rw [(fcB_true e).1] at h; cases h
theorem fcB_len {m : Int} {l : List PartD} {s : List SurgeD} (h : s.length = 0 ∨ 6 < s.length) : fcB m l s = false := by
  cases e : fcB m l s with
  | false => rfl
  | true => have := fcB_true e; omega
theorem fcB_head {m : Int} {l : List PartD} {s : List SurgeD} (h : headB s = false) : fcB m l s = false := by
  cases e : fcB m l s with
  | false => rfl
  | true => rw [(fcB_true e).2.2.2.1] at h; cases h
theorem fcB_bad {m : Int} {l : List PartD} {s : List SurgeD} (k : Nat) (hk : k < s.length) (h : okB s k = false) : fcB m l s = false := by
  cases e : fcB m l s with
  | false => rfl
  | true => rw [(fcB_true e).2.2.2.2 k hk] at h; cases h
theorem headB_of {s : List SurgeD} {x : SurgeD} (h : s[0]? = some x) : headB s = decide (x.fr = 0) := by unfold headB; rw [h]
theorem okB_bad {s : List SurgeD} {k : Nat} {x : SurgeD} (h : s[k]? = some x) (hx : surgeB x = false) : okB s k = false := by unfold okB; rw [h]; simp [hx]
theorem okB_zero {s : List SurgeD} {x : SurgeD} (h : s[0]? = some x) (hx : surgeB x = true) : okB s 0 = true := by unfold okB; rw [h]; simp [hx]
theorem okB_succ {s : List SurgeD} {k : Nat} {x y : SurgeD} (h : s[k + 1]? = some x) (hx : surgeB x = true) (h' : s[k]? = some y) : okB s (k + 1) = decide (y.fr < x.fr) := by
  unfold okB; rw [h]; simp [hx, h']
theorem FirstFc.next {s : List SurgeD} {k : Nat} (h : FirstFc s k) (hk : okB s k = true) : FirstFc s (k + 1) := by
  intro j hj
  by_cases e : j = k
  · subst e; exact hk
  · exact h j (by omega)
theorem FirstFc.zero (s : List SurgeD) : FirstFc s 0 := fun _ hj => absurd hj (by omega)
theorem okB_valid {s : List SurgeD} {k : Nat} {x : SurgeD} (h : okB s k = true) (hx : s[k]? = some x) : surgeB x = true := by
  unfold okB at h; rw [hx] at h; simp at h; exact h.1
/-- Among the first k surges, the place of the last that begins at t or before (0 if there is none). -/
def lastLe (s : List SurgeD) (t : Int) : Nat → Nat
  | 0 => 0
  | k + 1 => match s[k]? with
    | none => lastLe s t k
    | some x => if x.fr ≤ t then k else lastLe s t k
theorem lastLe_yes {s : List SurgeD} {t : Int} {k : Nat} {x : SurgeD} (h : s[k]? = some x) (hx : x.fr ≤ t) : lastLe s t (k + 1) = k := by unfold lastLe; rw [h]; simp [hx]
theorem lastLe_no {s : List SurgeD} {t : Int} {k : Nat} {x : SurgeD} (h : s[k]? = some x) (hx : ¬ x.fr ≤ t) : lastLe s t (k + 1) = lastLe s t k := by
  conv => lhs; unfold lastLe
  rw [h]; simp [hx]
theorem lastLe_lt {s : List SurgeD} {t : Int} (h0 : 0 < s.length) : ∀ k, k ≤ s.length → lastLe s t k < s.length := by
  intro k
  induction k with
  | zero => intro _; exact h0
  | succ k ih =>
    intro hk
    obtain ⟨x, hx⟩ : ∃ x, s[k]? = some x := ⟨_, List.getElem?_eq_getElem (by omega)⟩
    by_cases h : x.fr ≤ t
    · rw [lastLe_yes hx h]; omega
    · rw [lastLe_no hx h]; exact ih (by omega)
def atS (s : List SurgeD) (t : Int) : SurgeD := (s[lastLe s t s.length]?).getD ⟨0, 0, 0⟩
theorem atS_of {s : List SurgeD} {t : Int} (h0 : 0 < s.length) : s[lastLe s t s.length]? = some (atS s t) := by
  unfold atS
  rw [List.getElem?_eq_getElem (lastLe_lt h0 _ (Nat.le_refl _))]; rfl
/-- The surge among the first k. -/
def atK (s : List SurgeD) (t : Int) (k : Nat) : SurgeD := (s[lastLe s t k]?).getD ⟨0, 0, 0⟩
theorem atK_all (s : List SurgeD) (t : Int) : atK s t s.length = atS s t := rfl
theorem atK_zero {s : List SurgeD} {t : Int} {x : SurgeD} (h : s[0]? = some x) : atK s t 0 = x := by unfold atK lastLe; rw [h]; rfl
theorem atK_yes {s : List SurgeD} {t : Int} {k : Nat} {x : SurgeD} (h : s[k]? = some x) (hx : x.fr ≤ t) : atK s t (k + 1) = x := by unfold atK; rw [lastLe_yes h hx, h]; rfl
theorem atK_no {s : List SurgeD} {t : Int} {k : Nat} {x : SurgeD} (h : s[k]? = some x) (hx : ¬ x.fr ≤ t) : atK s t (k + 1) = atK s t k := by unfold atK; rw [lastLe_no h hx]
theorem atS_ok {s : List SurgeD} {t : Int} (h0 : 0 < s.length) (h : FirstFc s s.length) : surgeB (atS s t) = true :=
  okB_valid (h _ (lastLe_lt h0 _ (Nat.le_refl _))) (atS_of h0)
end Go.Proofs.YtooeikimoheecaaGreat
namespace Go.Proofs.YtooeikimoheecaaGreat
open Go.RowKit
set_option maxRecDepth 100000
def shipB (d : ShipD) : Bool := nameB d.name && inB d.length 10 400 && inB d.draught 100 2000 && inB d.line 0 3 && inB d.tugs 0 4
theorem shipB_of {d : ShipD} {b0 b1 b2 b3 b4 : Bool} (h0 : nameB d.name = b0) (h1 : inB d.length 10 400 = b1) (h2 : inB d.draught 100 2000 = b2) (h3 : inB d.line 0 3 = b3) (h4 : inB d.tugs 0 4 = b4) : shipB d = (b0 && b1 && b2 && b3 && b4) := by unfold shipB; rw [h0, h1, h2, h3, h4]
theorem shipB_true {d : ShipD} (h : shipB d = true) : nameB d.name = true ∧ 10 ≤ d.length ∧ d.length ≤ 400 ∧ 100 ≤ d.draught ∧ d.draught ≤ 2000 ∧ 0 ≤ d.line ∧ d.line ≤ 3 ∧ 0 ≤ d.tugs ∧ d.tugs ≤ 4 := by
  unfold shipB inB at h
  simp only [Bool.and_eq_true, decide_eq_true_iff] at h
  obtain ⟨⟨⟨⟨h0, h1⟩, h2⟩, h3⟩, h4⟩ := h
  exact ⟨h0, h1.1, h1.2, h2.1, h2.2, h3.1, h3.2, h4.1, h4.2⟩
set_option maxHeartbeats 4000000 in
theorem specShipOk (d : ShipD) (w : World) (hw : d.wf) :
    Calls Tryz.prog 48 #[d.val] w fun e w' => e = .returned (.bool (shipB d)) ∧ Below w.heap.size w w' := by
  replace hw : d.name.size ≤ maxLen := hw.1
  obtain ⟨b0, h0⟩ : ∃ b, nameB d.name = b := ⟨_, rfl⟩
  obtain ⟨b1, h1⟩ : ∃ b, inB d.length 10 400 = b := ⟨_, rfl⟩
  obtain ⟨b2, h2⟩ : ∃ b, inB d.draught 100 2000 = b := ⟨_, rfl⟩
  obtain ⟨b3, h3⟩ : ∃ b, inB d.line 0 3 = b := ⟨_, rfl⟩
  obtain ⟨b4, h4⟩ : ∃ b, inB d.tugs 0 4 = b := ⟨_, rfl⟩
  rw [shipB_of h0 h1 h2 h3 h4]
  obtain ⟨na, le, dr, li, tu, sl⟩ := d
  dsimp only at h0 h1 h2 h3 h4 hw
  dsimp only [ShipD.val]
  have H0 := Lib.hid h0
  have H1 := Lib.hid h1
  have H2 := Lib.hid h2
  have H3 := Lib.hid h3
  have H4 := Lib.hid h4
  clear h0 h1 h2 h3 h4
  have B := Lib.hid (Joins.below_alloc1 w (.cells #[.string na, .int .i64 le, .int .i64 dr, .int .i64 li, .int .i64 tu, .bool sl] 65))

  cases b0 with
  | false =>
    rw [show (false && b1 && b2 && b3 && b4) = false by simp]
    go_enter Tryz.func48, Tryz.ntmps48
    go_wp2_with fail
    refine (specIsName na _ hw).mono ?_
    rw [H0.out]
    rintro e w1 ⟨rfl, rfl⟩
    go_wp2
    go_ret
    exact ⟨rfl, B.out⟩
  | true =>
    cases b1 with
    | false =>
      rw [show (true && false && b2 && b3 && b4) = false by simp]
      go_enter Tryz.func48, Tryz.ntmps48
      go_wp2_with fail
      refine (specIsName na _ hw).mono ?_
      rw [H0.out]
      rintro e w1 ⟨rfl, rfl⟩
      go_wp2_with fail
      refine (l01In_any _ _ _ _).mono ?_
      rw [H1.out]
      rintro e w2 ⟨rfl, rfl⟩
      go_wp2
      go_ret
      exact ⟨rfl, B.out⟩
    | true =>
      cases b2 with
      | false =>
        rw [show (true && true && false && b3 && b4) = false by simp]
        go_enter Tryz.func48, Tryz.ntmps48
        go_wp2_with fail
        refine (specIsName na _ hw).mono ?_
        rw [H0.out]
        rintro e w1 ⟨rfl, rfl⟩
        go_wp2_with fail
        refine (l01In_any _ _ _ _).mono ?_
        rw [H1.out]
        rintro e w2 ⟨rfl, rfl⟩
        go_wp2_with fail
        refine (l01In_any _ _ _ _).mono ?_
        rw [H2.out]
        rintro e w3 ⟨rfl, rfl⟩
        go_wp2
        go_ret
        exact ⟨rfl, B.out⟩
      | true =>
        cases b3 with
        | false =>
          rw [show (true && true && true && false && b4) = false by simp]
          go_enter Tryz.func48, Tryz.ntmps48
          go_wp2_with fail
          refine (specIsName na _ hw).mono ?_
          rw [H0.out]
          rintro e w1 ⟨rfl, rfl⟩
          go_wp2_with fail
          refine (l01In_any _ _ _ _).mono ?_
          rw [H1.out]
          rintro e w2 ⟨rfl, rfl⟩
          go_wp2_with fail
          refine (l01In_any _ _ _ _).mono ?_
          rw [H2.out]
          rintro e w3 ⟨rfl, rfl⟩
          go_wp2_with fail
          refine (l01In_any _ _ _ _).mono ?_
          rw [H3.out]
          rintro e w4 ⟨rfl, rfl⟩
          go_wp2
          go_ret
          exact ⟨rfl, B.out⟩
        | true =>
          cases b4 with
          | false =>
            rw [show (true && true && true && true && false) = false by simp]
            go_enter Tryz.func48, Tryz.ntmps48
            go_wp2_with fail
            refine (specIsName na _ hw).mono ?_
            rw [H0.out]
            rintro e w1 ⟨rfl, rfl⟩
            go_wp2_with fail
            refine (l01In_any _ _ _ _).mono ?_
            rw [H1.out]
            rintro e w2 ⟨rfl, rfl⟩
            go_wp2_with fail
            refine (l01In_any _ _ _ _).mono ?_
            rw [H2.out]
            rintro e w3 ⟨rfl, rfl⟩
            go_wp2_with fail
            refine (l01In_any _ _ _ _).mono ?_
            rw [H3.out]
            rintro e w4 ⟨rfl, rfl⟩
            go_wp2_with fail
            refine (l01In_any _ _ _ _).mono ?_
            rw [H4.out]
            rintro e w5 ⟨rfl, rfl⟩
            go_wp2
            go_ret
            exact ⟨rfl, B.out⟩
          | true =>
            rw [show (true && true && true && true && true) = true from rfl]
            go_enter Tryz.func48, Tryz.ntmps48
            go_wp2_with fail
            refine (specIsName na _ hw).mono ?_
            rw [H0.out]
            rintro e w1 ⟨rfl, rfl⟩
            go_wp2_with fail
            refine (l01In_any _ _ _ _).mono ?_
            rw [H1.out]
            rintro e w2 ⟨rfl, rfl⟩
            go_wp2_with fail
            refine (l01In_any _ _ _ _).mono ?_
            rw [H2.out]
            rintro e w3 ⟨rfl, rfl⟩
            go_wp2_with fail
            refine (l01In_any _ _ _ _).mono ?_
            rw [H3.out]
            rintro e w4 ⟨rfl, rfl⟩
            go_wp2_with fail
            refine (l01In_any _ _ _ _).mono ?_
            rw [H4.out]
            rintro e w5 ⟨rfl, rfl⟩
            go_wp2
            go_ret
            exact ⟨rfl, B.out⟩
set_option maxHeartbeats 4000000 in
theorem implShipOk (d : ShipD) (w : World) (hw : d.wf) :
    Calls Tryz.prog 97 #[d.val] w fun e w' => e = .returned (.bool (shipB d)) ∧ Below w.heap.size w w' := by
  replace hw : d.name.size ≤ maxLen := hw.1
  obtain ⟨b0, h0⟩ : ∃ b, nameB d.name = b := ⟨_, rfl⟩
  obtain ⟨b1, h1⟩ : ∃ b, inB d.length 10 400 = b := ⟨_, rfl⟩
  obtain ⟨b2, h2⟩ : ∃ b, inB d.draught 100 2000 = b := ⟨_, rfl⟩
  obtain ⟨b3, h3⟩ : ∃ b, inB d.line 0 3 = b := ⟨_, rfl⟩
  obtain ⟨b4, h4⟩ : ∃ b, inB d.tugs 0 4 = b := ⟨_, rfl⟩
  rw [shipB_of h0 h1 h2 h3 h4]
  obtain ⟨na, le, dr, li, tu, sl⟩ := d
  dsimp only at h0 h1 h2 h3 h4 hw
  dsimp only [ShipD.val]
  have H0 := Lib.hid h0
  have H1 := Lib.hid h1
  have H2 := Lib.hid h2
  have H3 := Lib.hid h3
  have H4 := Lib.hid h4
  clear h0 h1 h2 h3 h4
  have B := Lib.hid (Joins.below_alloc1 w (.cells #[.string na, .int .i64 le, .int .i64 dr, .int .i64 li, .int .i64 tu, .bool sl] 65))
  have K := Lib.hid (Blk.new w #[.string na, .int .i64 le, .int .i64 dr, .int .i64 li, .int .i64 tu, .bool sl] 65)

  cases b0 with
  | false =>
    rw [show (false && b1 && b2 && b3 && b4) = false by simp]
    go_enter Tryz.func97, Tryz.ntmps97
    go_wp2_with fail
    refine (implIsName na _ hw).mono ?_
    rw [H0.out]
    rintro e w1 ⟨rfl, hb1⟩
    have B1 := Lib.hid (B.out.trans (hb1.mono B.out.size))
    have K1 := K.out.below hb1
    have z1 := K1.cell 1
    have z2 := K1.cell 2
    have z3 := K1.cell 3
    have z4 := K1.cell 4
    simp at z1 z2 z3 z4
    clear hb1 K1
    go_wp2
    go_ret
    exact ⟨rfl, B1.out⟩
  | true =>
    cases b1 with
    | false =>
      rw [show (true && false && b2 && b3 && b4) = false by simp]
      have g1 : ¬ (10 ≤ le ∧ le ≤ 400) := by have := H1.out; unfold inB at this; exact of_decide_eq_false this
      by_cases l1 : 10 ≤ le
      · have u1 : decide (le ≤ 400) = false := decide_eq_false (by omega)
        clear g1
        go_enter Tryz.func97, Tryz.ntmps97
        go_wp2_with fail
        refine (implIsName na _ hw).mono ?_
        rw [H0.out]
        rintro e w1 ⟨rfl, hb1⟩
        have B1 := Lib.hid (B.out.trans (hb1.mono B.out.size))
        have K1 := K.out.below hb1
        have z1 := K1.cell 1
        have z2 := K1.cell 2
        have z3 := K1.cell 3
        have z4 := K1.cell 4
        simp at z1 z2 z3 z4
        clear hb1 K1
        go_wp2
        go_ret
        exact ⟨rfl, B1.out⟩
      · have u1 : decide (10 ≤ le) = false := decide_eq_false l1
        clear g1
        go_enter Tryz.func97, Tryz.ntmps97
        go_wp2_with fail
        refine (implIsName na _ hw).mono ?_
        rw [H0.out]
        rintro e w1 ⟨rfl, hb1⟩
        have B1 := Lib.hid (B.out.trans (hb1.mono B.out.size))
        have K1 := K.out.below hb1
        have z1 := K1.cell 1
        have z2 := K1.cell 2
        have z3 := K1.cell 3
        have z4 := K1.cell 4
        simp at z1 z2 z3 z4
        clear hb1 K1
        go_wp2
        go_ret
        exact ⟨rfl, B1.out⟩
    | true =>
      have g1 : 10 ≤ le ∧ le ≤ 400 := by have := H1.out; unfold inB at this; exact of_decide_eq_true this
      obtain ⟨l1, u1⟩ := g1
      cases b2 with
      | false =>
        rw [show (true && true && false && b3 && b4) = false by simp]
        have g2 : ¬ (100 ≤ dr ∧ dr ≤ 2000) := by have := H2.out; unfold inB at this; exact of_decide_eq_false this
        by_cases l2 : 100 ≤ dr
        · have u2 : decide (dr ≤ 2000) = false := decide_eq_false (by omega)
          clear g2
          go_enter Tryz.func97, Tryz.ntmps97
          go_wp2_with fail
          refine (implIsName na _ hw).mono ?_
          rw [H0.out]
          rintro e w1 ⟨rfl, hb1⟩
          have B1 := Lib.hid (B.out.trans (hb1.mono B.out.size))
          have K1 := K.out.below hb1
          have z1 := K1.cell 1
          have z2 := K1.cell 2
          have z3 := K1.cell 3
          have z4 := K1.cell 4
          simp at z1 z2 z3 z4
          clear hb1 K1
          go_wp2
          go_ret
          exact ⟨rfl, B1.out⟩
        · have u2 : decide (100 ≤ dr) = false := decide_eq_false l2
          clear g2
          go_enter Tryz.func97, Tryz.ntmps97
          go_wp2_with fail
          refine (implIsName na _ hw).mono ?_
          rw [H0.out]
          rintro e w1 ⟨rfl, hb1⟩
          have B1 := Lib.hid (B.out.trans (hb1.mono B.out.size))
          have K1 := K.out.below hb1
          have z1 := K1.cell 1
          have z2 := K1.cell 2
          have z3 := K1.cell 3
          have z4 := K1.cell 4
          simp at z1 z2 z3 z4
          clear hb1 K1
          go_wp2
          go_ret
          exact ⟨rfl, B1.out⟩
      | true =>
        have g2 : 100 ≤ dr ∧ dr ≤ 2000 := by have := H2.out; unfold inB at this; exact of_decide_eq_true this
        obtain ⟨l2, u2⟩ := g2
        cases b3 with
        | false =>
          rw [show (true && true && true && false && b4) = false by simp]
          go_enter Tryz.func97, Tryz.ntmps97
          go_wp2_with fail
          refine (implIsName na _ hw).mono ?_
          rw [H0.out]
          rintro e w1 ⟨rfl, hb1⟩
          have B1 := Lib.hid (B.out.trans (hb1.mono B.out.size))
          have K1 := K.out.below hb1
          have z1 := K1.cell 1
          have z2 := K1.cell 2
          have z3 := K1.cell 3
          have z4 := K1.cell 4
          simp at z1 z2 z3 z4
          clear hb1 K1
          go_wp2_with fail
          refine (isIndex_any _ 4 _).mono ?_
          rw [show inB li 0 (((4 : Nat) : Int) - 1) = inB li 0 3 from rfl, H3.out]
          rintro e w4 ⟨rfl, rfl⟩
          go_wp2
          go_ret
          exact ⟨rfl, B1.out⟩
        | true =>
          cases b4 with
          | false =>
            rw [show (true && true && true && true && false) = false by simp]
            have g4 : ¬ (0 ≤ tu ∧ tu ≤ 4) := by have := H4.out; unfold inB at this; exact of_decide_eq_false this
            by_cases l4 : 0 ≤ tu
            · have u4 : decide (tu ≤ 4) = false := decide_eq_false (by omega)
              clear g4
              go_enter Tryz.func97, Tryz.ntmps97
              go_wp2_with fail
              refine (implIsName na _ hw).mono ?_
              rw [H0.out]
              rintro e w1 ⟨rfl, hb1⟩
              have B1 := Lib.hid (B.out.trans (hb1.mono B.out.size))
              have K1 := K.out.below hb1
              have z1 := K1.cell 1
              have z2 := K1.cell 2
              have z3 := K1.cell 3
              have z4 := K1.cell 4
              simp at z1 z2 z3 z4
              clear hb1 K1
              go_wp2_with fail
              refine (isIndex_any _ 4 _).mono ?_
              rw [show inB li 0 (((4 : Nat) : Int) - 1) = inB li 0 3 from rfl, H3.out]
              rintro e w4 ⟨rfl, rfl⟩
              go_wp2
              go_ret
              exact ⟨rfl, B1.out⟩
            · have u4 : decide (0 ≤ tu) = false := decide_eq_false l4
              clear g4
              go_enter Tryz.func97, Tryz.ntmps97
              go_wp2_with fail
              refine (implIsName na _ hw).mono ?_
              rw [H0.out]
              rintro e w1 ⟨rfl, hb1⟩
              have B1 := Lib.hid (B.out.trans (hb1.mono B.out.size))
              have K1 := K.out.below hb1
              have z1 := K1.cell 1
              have z2 := K1.cell 2
              have z3 := K1.cell 3
              have z4 := K1.cell 4
              simp at z1 z2 z3 z4
              clear hb1 K1
              go_wp2_with fail
              refine (isIndex_any _ 4 _).mono ?_
              rw [show inB li 0 (((4 : Nat) : Int) - 1) = inB li 0 3 from rfl, H3.out]
              rintro e w4 ⟨rfl, rfl⟩
              go_wp2
              go_ret
              exact ⟨rfl, B1.out⟩
          | true =>
            have g4 : 0 ≤ tu ∧ tu ≤ 4 := by have := H4.out; unfold inB at this; exact of_decide_eq_true this
            obtain ⟨l4, u4⟩ := g4
            rw [show (true && true && true && true && true) = true from rfl]
            go_enter Tryz.func97, Tryz.ntmps97
            go_wp2_with fail
            refine (implIsName na _ hw).mono ?_
            rw [H0.out]
            rintro e w1 ⟨rfl, hb1⟩
            have B1 := Lib.hid (B.out.trans (hb1.mono B.out.size))
            have K1 := K.out.below hb1
            have z1 := K1.cell 1
            have z2 := K1.cell 2
            have z3 := K1.cell 3
            have z4 := K1.cell 4
            simp at z1 z2 z3 z4
            clear hb1 K1
            go_wp2_with fail
            refine (isIndex_any _ 4 _).mono ?_
            rw [show inB li 0 (((4 : Nat) : Int) - 1) = inB li 0 3 from rfl, H3.out]
            rintro e w4 ⟨rfl, rfl⟩
            go_wp2
            go_ret
            exact ⟨rfl, B1.out⟩
end Go.Proofs.YtooeikimoheecaaGreat
namespace Go.Proofs.YtooeikimoheecaaGreat
open Go.RowKit Go.Shelf Go.Maps Go.WideMaps
set_option maxRecDepth 100000
attribute [local go_sem] Oper.semAt_some
/-- Every block of cells lies as it lay. -/
def KpC (A B : World) : Prop := ∀ (k : Nat) (o : Obj), A.heap[k]? = some o → o.isCells = true → B.heap[k]? = A.heap[k]?
theorem KpC.refl (A : World) : KpC A A := fun _ _ _ _ => rfl
theorem KpC.t {A B C : World} (h : KpC A B) (k : KpC B C) : KpC A C := fun j o hj hc => (k j o ((h j o hj hc).trans hj) hc).trans (h j o hj hc)
theorem KpC.b (W : World) (l : Nat) (o o' : Obj) (h : W.heap[l]? = some o) (h1 : o.isCells = false) : KpC W (W.putObj l o') :=
  fun k u hk hc => World.putObj_heap_other (fun e => by subst e; rw [h] at hk; cases hk; rw [h1] at hc; cases hc)
theorem KpC.alloc (W : World) (o : Obj) : KpC W (W.alloc o) := fun k u hk _ => (World.grownBy_alloc W o none).block k (Array.getElem?_eq_some_iff.1 hk).1 (by simp)
theorem KpC.cell {A B : World} (h : KpC A B) {a : Addr} {v : Value} (hv : A.cell? a = some v) : B.cell? a = some v := by
  obtain ⟨o, ho, hc⟩ := cells_of_cell hv
  exact (World.cell?_of_block (h _ o ho hc)).trans hv
theorem KpC.map {A B : World} {b : Nat} (hg : A.grownBy B (some b)) {o : Obj} (hb : A.heap[b]? = some o) (ho : o.isCells = false) : KpC A B := fun k u hk hc =>
  hg.block k (Array.getElem?_eq_some_iff.1 hk).1 (fun e => by cases e; rw [hb] at hk; cases hk; rw [ho] at hc; cases hc)
abbrev IP := { x : Nat × PointD // x.2.name.size ≤ maxLen ∧ x.1 ≤ 1000000000 }
set_option maxHeartbeats 2000000 in
theorem back1 (v : Value) (l : List PointD) (Bn : Nat) (w : World) (h : SlPoint w v l) (hwf : ∀ x ∈ l, PointD.wf x) (hBn : Bn < w.heap.size) (hc0 : w.cell? ⟨Bn, 0, none⟩ = some v) (n : Nat) (hn : 1 ≤ n) :
    SeqStopsK Fence.wide n Tryz.prog 147 #[.pointer (some ⟨Bn, 0, none⟩)] (fun x : IP => #[.int .i64 (x.1.1 : Int), .agg #[.string x.1.2.name, .bool x.1.2.wait]]) KpC (fun ys => BackOf l l.length (ys.map Subtype.val)) (fun _ => True) l.length w := by
  intro lp J Jx W hW hJ hJx hY h0
  have hl := h.1
  have HS := Lib.hid (h.below hW)
  have hcW : W.cell? ⟨Bn, 0, none⟩ = some v := (hW.cell (p := ⟨Bn, 0, none⟩) hBn).trans hc0
  obtain ⟨A, c, rfl⟩ := h.at
  have HJ := Lib.hid hJ
  have HY := Lib.hid hY
  have H0 := Lib.hid h0
  have HWF := Lib.hid hwf
  clear hJ hJx hY h0 hW hc0 h hwf
  change CallsIn Fence.wide n Tryz.prog 147 #[.func (.yield lp) #[] #[], .pointer (some ⟨Bn, 0, none⟩)] W _
  refine callsIn_of_wp Tryz.func147 rfl trivial ?_ rfl
  simp only [Tryz.ntmps147, List.size_toArray, List.length_cons, List.length_nil, Nat.reduceAdd, Nat.reduceSub, Array.replicate_succ, Array.replicate_zero, List.push_toArray, List.append_toArray, List.nil_append, List.cons_append]
  gi_wp2
  gi_loopw [3] (fun i wr => ∃ (j : Nat) (acc : List IP) (z : Int), j ≤ l.length ∧ Hid (z + 1 + j = l.length) ∧ i = .int .i64 z ∧ Hid (BackOf l j (acc.map Subtype.val)) ∧ Hid (J acc wr) ∧ Hid (KpC W wr)) (fun i _ => (intOf i + 1).toNat)
  case atStart => exact ⟨0, [], (l.length : Int) - 1, Nat.zero_le _, Lib.hid (by omega), by go_num, Lib.hid .nil, H0, Lib.hid (KpC.refl _)⟩
  case round =>
    obtain ⟨j, acc, z, hj, hE, rfl, hB, hJs, hK⟩ := hrel
    by_cases hlt : j < l.length
    rotate_left
    · obtain rfl : j = l.length := by omega
      obtain rfl : z = -1 := by have := hE.out; omega
      gi_wp2
      go_end0
      exact ⟨⟨_, rfl⟩, .inl ⟨_, hB.out, hJs.out⟩⟩
    · obtain ⟨k, rfl⟩ : ∃ k : Nat, z = (k : Int) := ⟨z.toNat, by have := hE.out; omega⟩
      have hk : k < l.length := by have := hE.out; omega
      obtain ⟨x, hx⟩ : ∃ x, l[k]? = some x := ⟨_, List.getElem?_eq_getElem hk⟩
      have hxw : x.name.size ≤ maxLen := HWF.out x (List.mem_of_getElem? hx)
      have c0 := hK.out.cell hcW
      rcases HS.out.2 with ⟨he, _⟩ | ⟨g, o, c', e, hpos, hcap, hc⟩
      · rw [he] at hk; simp at hk
      · injection e with hA _ hcp
        subst hA hcp
        obtain ⟨p0, p1⟩ := SlPoint.cells hc k x hx
        have a0 := hK.out.cell p0
        have a1 := hK.out.cell p1
        have HX := Lib.hid hx
        have EB := Lib.hid (show BackOf l (j + 1) ((acc ++ [(⟨(k, x), hxw, by show k ≤ 1000000000; omega⟩ : IP)]).map Subtype.val) by rw [List.map_append]; exact BackOf.snoc hB.out (by have := hE.out; omega) hx)
        have hal : acc.length < l.length := by have := hB.out.len; rw [List.length_map] at this; omega
        have hE' := Lib.hid (show ((k : Int) - 1) + 1 + ((j + 1 : Nat) : Int) = l.length by have := hE.out; omega)
        obtain ⟨fn, tmps, assign, body, hy, hR⟩ := HY.out acc (⟨(k, x), hxw, by show k ≤ 1000000000; omega⟩ : IP) wr hJs.out hal
        have HR := Lib.hid hR
        clear hR p0 p1 hc hal HY hx
        dsimp only at hy
        gi_wp2
        refine HR.out.mono ?_
        rintro e W3 (⟨rfl, hJ3, hk3⟩ | ⟨rfl, hJx3⟩)
        · have HK3 := Lib.hid (hK.out.t hk3)
          have H3 := Lib.hid hJ3
          clear hJ3 hk3 hy
          gi_wp2
          go_roundw
          case rel => exact ⟨j + 1, _, (k : Int) - 1, by omega, hE', by go_num, EB, H3, HK3⟩
          case measure => simp [intOf]
        · gi_wp2
          refine bodyPost_ret (results_none rfl _ _ _) rfl ?_
          exact ⟨⟨_, rfl⟩, .inr ⟨_, trivial, hJx3⟩⟩
theorem backward_any (A : Option Addr) (n c : Nat) (w : World) :
    Calls Tryz.prog 140 #[.slice A n c] w fun e w' => e = .returned (.func (.func 147) #[] #[.pointer (some ⟨w.heap.size, 0, none⟩)]) ∧ w' = w.alloc (.cells #[.slice A n c] 46) := by
  go_enter Tryz.func140, Tryz.ntmps140
  go_wp2
  go_ret
  exact ⟨rfl, rfl⟩
theorem law_string : Keyed Tryz.prog 9 := string_keyed Tryz.underlying9
theorem putAll_next (pre : List IP) (x : IP) : putAll ((pre ++ [x]).map Subtype.val) = (putAll (pre.map Subtype.val)).put (keyL x.1.2.name) (.lit (.int .i64 (x.1.1 : Int))) := by rw [List.map_append]; exact putAll_snoc _ _
theorem ip_wf (x : IP) : (Lit.int .i64 (x.1.1 : Int)).wf = true := WalkArith.wf_i64 (by have := x.2.2; omega)
/-- A map of its own that is the name map of the points. -/
def OwnsNames (w : World) (b : Nat) (l : List PointD) : Prop := ∃ n, n ≤ 1000000000 ∧ w.ownsMap Tryz.prog 9 (plainElem Tryz.prog 3) b n (nameMap 0 l)
set_option maxHeartbeats 4000000 in
theorem implFirsts (v : Value) (l : List PointD) (w : World) (h : SlPoint w v l) (hwf : ∀ x ∈ l, PointD.wf x) :
    Calls Tryz.prog 132 #[v] w fun e w' => ∃ b, e = .returned (.map (some b)) ∧ w.heap.size ≤ b ∧ OwnsNames w' b l ∧ Below w.heap.size w w' := by
  have HS := Lib.hid h
  have HWF := Lib.hid hwf
  have hl := h.1
  obtain ⟨A, c, rfl⟩ := h.at
  clear h hwf
  have hmm := @run_makeMap Tryz.prog
  refine (callsIn_wide (n := 9)).1 ?_
  refine callsIn_of_wp_marks Tryz.func132 rfl trivial ?_ rfl
  simp only [Tryz.ntmps132, List.size_toArray, List.length_cons, List.length_nil, Nat.reduceAdd, Nat.reduceSub, Array.replicate_succ, Array.replicate_zero, List.push_toArray, List.append_toArray, List.nil_append, List.cons_append]
  gi_wp2_with (refine ⟨trivial, ?_⟩; gi_at_call 140; refine (callsIn_wide.2 (backward_any _ _ _ _)).mono ?_; rintro e w' ⟨rfl, rfl⟩)
  obtain ⟨W0, hW0⟩ : ∃ W0, W0 = (((w.alloc (.map #[] 0)).alloc (.cells #[.map (some w.heap.size)] 176)).alloc (.cells #[.slice A l.length c] 46)) := ⟨_, rfl⟩
  rw [← hW0]
  have hsz : W0.heap.size = w.heap.size + 1 + 1 + 1 := by rw [hW0]; simp
  have hB0 : Below w.heap.size w W0 := by rw [hW0]; exact (((Below.refl _ w).alloc (Nat.le_refl _) _).alloc (by simp) _).alloc (by simp; omega) _
  have bM : Boxed W0 (w.heap.size + 1) 176 (.map (some w.heap.size)) := by
    rw [hW0]
    have b := Boxed.new (w.alloc (.map #[] 0)) 176 (.map (some w.heap.size))
    rw [World.size_alloc] at b
    exact b.alloc _
  have bS : W0.cell? ⟨w.heap.size + 1 + 1, 0, none⟩ = some (.slice A l.length c) := by
    rw [hW0]
    have b := Boxed.new ((w.alloc (.map #[] 0)).alloc (.cells #[.map (some w.heap.size)] 176)) 46 (.slice A l.length c)
    rw [World.size_alloc, World.size_alloc] at b
    exact b.cell
  have oM : W0.ownsMap Tryz.prog 9 (plainElem (H := Unit) Tryz.prog 3) w.heap.size 0 (.map []) := by
    rw [hW0]
    exact ((World.ownsMap_made w _ _ _).alloc _).alloc _
  clear hW0 hmm
  refine wpIn_rangeFunc_ownH rfl (by omega) (gf := 147) (lb := #[.pointer (some ⟨w.heap.size + 1 + 1, 0, none⟩)]) rfl trivial (enters_of Tryz.func147 (by kernel_rfl) rfl)
    (back1 _ l (w.heap.size + 1 + 1) W0 (HS.out.below hB0) HWF.out (by omega) bS 8 (by omega)) KpC.t (fun W l o o' _ h h1 _ => KpC.b W l o o' h h1) (Below.refl _ _) (fun _ => rfl)
    (fun (pre : List IP) W => (W.ownsMap Tryz.prog 9 (plainElem Tryz.prog 3) w.heap.size pre.length (putAll (pre.map Subtype.val)) ∧ Boxed W (w.heap.size + 1) 176 (.map (some w.heap.size))) ∧ Below w.heap.size w W)
    (fun _ _ _ => False)
    (OwnFrom.and (OwnFrom.and (fun s W W' row hs hg hr => hs.kept hg (fun e => by have := (hr _ e.symm).1; omega)) (Own.from (boxed_own _ _ _) _)) (ownFrom_below (Nat.le_refl _) (by omega)))
    (fun _ _ _ _ _ hs _ _ => hs)
    ⟨⟨oM, bM⟩, hB0⟩
    (fun x a' W => ∃ Bx, Blk W Bx #[.string x.1.2.name, .bool x.1.2.wait] 118 ∧ a' = { tmps := #[.slice A l.length c, undef, .map none, .pointer (some ⟨w.heap.size + 1, 0, none⟩), .int .i64 (x.1.1 : Int), .pointer (some ⟨Bx, 0, none⟩), .map (some w.heap.size), .slice A l.length c, .func (.func 147) #[] #[.pointer (some ⟨w.heap.size + 1 + 1, 0, none⟩)], .int .i64 (x.1.1 : Int), .agg #[.string x.1.2.name, .bool x.1.2.wait], undef, undef, undef, undef, undef], defers := [] })
    (fun x a' _ X Y row hs hg hr => by
      obtain ⟨Bx, h2, h3⟩ := hs
      exact ⟨Bx, h2.grown hg (fun e' => by obtain ⟨_, o, ho, hc⟩ := hr Bx e'.symm; rw [show X.heap[Bx]? = _ from h2] at ho; cases ho; cases hc), h3⟩)
    ?assign ?body ?done ?stop
  case assign =>
    rintro lp pre x W K ⟨⟨hm, hbx⟩, hB1⟩ hK
    gi_wp2
    exact hK _ _ ((KeepsOthers.alloc _ _).from _) (KpC.alloc _ _) ⟨⟨hm.alloc _, hbx.alloc _⟩, hB1.alloc hB1.size _⟩ ⟨W.heap.size, Blk.new W _ _, rfl⟩
  case body =>
    rintro lp pre x a' W hl' ⟨r, hr⟩ ⟨⟨hm, hbx⟩, hB⟩ ⟨Bx, bX, rfl⟩ hlt
    have hc := hbx.cell
    have c0 : W.cell? ⟨Bx, 0, none⟩ = some (.string x.1.2.name) := bX.cell 0
    have c1 : W.cell? ⟨Bx, 1, none⟩ = some (.bool x.1.2.wait) := bX.cell 1
    have hpl : pre.length < maxLen := by unfold maxLen; omega
    obtain ⟨ob, hob, hoc⟩ : ∃ ob, W.heap[w.heap.size]? = some ob ∧ ob.isCells = false := by obtain ⟨es, clock, hb, _⟩ := hm; exact ⟨_, hb, rfl⟩
    have hkx := keyOf_string_mk Tryz.underlying9 x.2.1
    have hux := Tryz.underlying176
    have hpx := plainElem_int (H := Unit) Tryz.underlying3 (ip_wf x)
    gi_wp2_with (gi_at_mapUpdate; refine wpListIn_mapUpdate_own _ rfl _ _ _ 176 rfl 9 3 law_string Tryz.underlying176 _ w.heap.size pre.length _ rfl hm hpl _ _ _ rfl rfl (keyOf_string_mk Tryz.underlying9 x.2.1) _ [] (plainElem_int Tryz.underlying3 (ip_wf x)) ?_; intro w1 hown1 hgrow1)
    exact ⟨KeepsFrom.of_grownBy hgrow1 (fun j e => by cases e; omega), KpC.map hgrow1 hob hoc, ⟨⟨by rw [putAll_next, List.length_append]; exact hown1, hbx.kept hgrow1 (fun e => by injection e with e; omega)⟩, hB.grown hgrow1 hB.size (fun k e => by cases e; exact Nat.le_refl _)⟩⟩
  case done =>
    rintro D ys W hD hS ⟨⟨hm, hbx⟩, hB⟩ hK
    have hc := hbx.cell
    have hyl : ys.length = l.length := by have := hS.len; rw [List.length_map] at this; exact this
    rw [hS.all, hyl] at hm
    have hE := Lib.hid hyl
    clear hyl hS
    gi_wp2
    refine ⟨by simp, .inl ⟨_, _, rfl, run_takeDeferred hK, ?_⟩⟩
    exact ⟨_, results_tmp rfl _ _ _, _, rfl, Nat.le_refl _, ⟨l.length, hl, hm.kept (grownBy_putObj' W D _) (fun e => by injection e with e; omega)⟩, hB.trans (belowK_b (w := w) (Nat.le_refl _) W D _ _ (by omega) hK rfl rfl)⟩
  case stop =>
    rintro D c pre W _ _ h _
    exact h.elim
end Go.Proofs.YtooeikimoheecaaGreat
