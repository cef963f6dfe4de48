
/- What InOrderLaw rests on, part 15: contracts and mathematics. -/
import Derived.Test.YtooeikimoheecaaIo12
import Derived.Test.YtooeikimoheecaaIo0
import Derived.Test.YtooeikimoheecaaIo3
import Derived.Test.YtooeikimoheecaaIo10
import Derived.Test.YtooeikimoheecaaIo14
import Derived.Test.YtooeikimoheecaaIo1
namespace Go.Proofs.Ytooeikimoheecaa
open Go.RowKit
set_option maxRecDepth 100000
/-- The i-th segment. -/
def segAt (d : ChartD) (i : Int) : Option SegmentD := if 0 ≤ i then d.segs[i.toNat]? else none
theorem segAt_in {d : ChartD} {i : Int} (h : inB i 0 ((d.segs.length : Int) - 1) = true) : ∃ s, segAt d i = some s ∧ d.segs[i.toNat]? = some s ∧ 0 ≤ i ∧ i.toNat < d.segs.length := by
  unfold inB at h
  have h' := of_decide_eq_true h
  refine ⟨d.segs[i.toNat]'(by omega), ?_, List.getElem?_eq_getElem (by omega), h'.1, by omega⟩
  unfold segAt
  rw [if_pos h'.1, List.getElem?_eq_getElem (by omega)]
theorem segAt_out {d : ChartD} {i : Int} (h : inB i 0 ((d.segs.length : Int) - 1) = false) : segAt d i = none := by
  unfold inB at h
  have h' := of_decide_eq_false h
  unfold segAt
  by_cases h0 : 0 ≤ i
  · rw [if_pos h0, List.getElem?_eq_none (by omega)]
  · rw [if_neg h0]
/-- The sum of the minutes, while all elements are segments. -/
def minSum (d : ChartD) : List Int → Option Int
  | [] => some 0
  | i :: l => match segAt d i, minSum d l with | some s, some r => some (s.minutes + r) | _, _ => none
def minutesI (d : ChartD) (l : List Int) : Int := if chartB d = true then (minSum d l).getD (-1) else -1
theorem minutesI_bad {d : ChartD} {l : List Int} (h : chartB d = false) : minutesI d l = -1 := if_neg (by rw [h]; simp)
theorem minSum_append (d : ChartD) (a : List Int) (i : Int) : minSum d (a ++ [i]) = (match minSum d a, segAt d i with | some r, some s => some (r + s.minutes) | _, _ => none) := by
  induction a with
  | nil => simp only [List.nil_append, minSum]; cases segAt d i <;> simp
  | cons x a ih =>
    simp only [List.cons_append, minSum, ih]
    cases segAt d x <;> cases minSum d a <;> cases segAt d i <;> simp [Int.add_assoc]
theorem minSum_none {d : ChartD} {l : List Int} {k : Nat} {i : Int} (hx : l[k]? = some i) (h : segAt d i = none) : minSum d l = none := by
  induction l generalizing k with
  | nil => simp at hx
  | cons y l ih =>
    cases k with
    | zero => simp at hx; subst hx; simp [minSum, h]
    | succ k =>
      have := ih (k := k) (by simpa using hx)
      simp only [minSum, this]
      cases segAt d y <;> rfl
theorem minSum_pos {d : ChartD} (h : chartB d = true) : ∀ {l : List Int} {r : Int}, minSum d l = some r → 0 ≤ r ∧ r ≤ 240 * l.length := by
  intro l
  induction l with
  | nil => intro r hr; simp [minSum] at hr; subst hr; simp
  | cons i l ih =>
    intro r hr
    simp only [minSum] at hr
    cases hs : segAt d i with
    | none => rw [hs] at hr; simp at hr
    | some s =>
      cases hm : minSum d l with
      | none => rw [hs, hm] at hr; simp at hr
      | some q =>
        rw [hs, hm] at hr
        simp at hr
        have := ih hm
        have hsx : d.segs[i.toNat]? = some s := by
          unfold segAt at hs
          split at hs
          · exact hs
          · cases hs
        have := segB_true (chartB_seg h hsx)
        simp
        omega
end Go.Proofs.Ytooeikimoheecaa
namespace Go.Proofs.Ytooeikimoheecaa
open Go.RowKit
set_option maxRecDepth 100000
/-- A window whose minutes lie in time. -/
def wB (x : WindowD) : Bool := decide (0 ≤ x.fr ∧ x.fr ≤ x.tt ∧ x.tt ≤ 2880)
/-- The window at a place lies in time and, behind another one, at least one minute later. -/
def wokB (l : List WindowD) (k : Nat) : Bool :=
  match l[k]? with
  | none => true
  | some x => wB x && (match k with | 0 => true | j + 1 => match l[j]? with | none => true | some y => decide (y.tt + 1 < x.fr))
def winB (l : List WindowD) : Bool := (List.range l.length).all (wokB l)
/-- The first k windows are valid. -/
def FirstW (l : List WindowD) (k : Nat) : Prop := ∀ j, j < k → wokB l j = true
theorem FirstW.zero (l : List WindowD) : FirstW l 0 := fun j hj => absurd hj (by omega)
theorem FirstW.next {l : List WindowD} {k : Nat} (h : FirstW l k) (hk : wokB l k = true) : FirstW l (k + 1) := fun j hj => by
  by_cases e : j = k
  · rw [e]; exact hk
  · exact h j (by omega)
theorem winB_mk {l : List WindowD} (h : FirstW l l.length) : winB l = true := List.all_eq_true.2 fun j hj => h j (List.mem_range.1 hj)
theorem winB_true {l : List WindowD} (h : winB l = true) : FirstW l l.length := fun j hj => List.all_eq_true.1 h j (List.mem_range.2 hj)
theorem winB_bad {l : List WindowD} (k : Nat) (hk : k < l.length) (h : wokB l k = false) : winB l = false := by
  rw [Bool.eq_false_iff]
  intro e
  rw [winB_true e k hk] at h
  cases h
theorem wokB_bad {l : List WindowD} {k : Nat} {x : WindowD} (hx : l[k]? = some x) (h : ¬ (0 ≤ x.fr ∧ x.fr ≤ x.tt ∧ x.tt ≤ 2880)) : wokB l k = false := by
  unfold wokB wB; rw [hx]; simp only [decide_eq_false h, Bool.false_and]
theorem wokB_zero {l : List WindowD} {k : Nat} {x : WindowD} (hk : k = 0) (hx : l[k]? = some x) (h : 0 ≤ x.fr ∧ x.fr ≤ x.tt ∧ x.tt ≤ 2880) : wokB l k = true := by
  subst hk; unfold wokB wB; rw [hx]; simp only [decide_eq_true h, Bool.and_self]
theorem wokB_succ {l : List WindowD} {k j : Nat} {x y : WindowD} (hk : k = j + 1) (hx : l[k]? = some x) (hy : l[j]? = some y) (h : 0 ≤ x.fr ∧ x.fr ≤ x.tt ∧ x.tt ≤ 2880) : wokB l k = decide (y.tt + 1 < x.fr) := by
  subst hk; unfold wokB wB; rw [hx]; simp only [decide_eq_true h, hy, Bool.true_and]
theorem wokB_time {l : List WindowD} {k : Nat} {x : WindowD} (hx : l[k]? = some x) (h : wokB l k = true) : 0 ≤ x.fr ∧ x.fr ≤ x.tt ∧ x.tt ≤ 2880 := by
  by_cases hx2 : 0 ≤ x.fr ∧ x.fr ≤ x.tt ∧ x.tt ≤ 2880
  · exact hx2
  · rw [wokB_bad hx hx2] at h; cases h
theorem FirstW.time {l : List WindowD} {k j : Nat} {x : WindowD} (h : FirstW l k) (hj : j < k) (hx : l[j]? = some x) : 0 ≤ x.fr ∧ x.fr ≤ x.tt ∧ x.tt ≤ 2880 := wokB_time hx (h j hj)
theorem FirstW.gap {l : List WindowD} {k j : Nat} {x y : WindowD} (h : FirstW l k) (hj : j + 1 < k) (hx : l[j + 1]? = some x) (hy : l[j]? = some y) : y.tt + 1 < x.fr := by
  have e := h (j + 1) hj
  rw [wokB_succ rfl hx hy (h.time hj hx)] at e
  exact of_decide_eq_true e
set_option maxHeartbeats 10000000 in
theorem implWindowsOk (v : Value) (l : List WindowD) (w : World) (h : SlWindow w v l) :
    Calls Try.prog 118 #[v] w fun e w' => e = .returned (.bool (winB l)) ∧ Below w.heap.size w w' := by
  obtain ⟨hl, h⟩ := h
  rcases h with ⟨rfl, A, c, rfl⟩ | ⟨g, o, c, rfl, hp, hcap, hc⟩
  · have E := Lib.hid (winB_mk (l := []) (FirstW.zero _))
    go_enter Try.func118, Try.ntmps118
    go_wp2
    refine wp_loop_rounds 1 ?_
    rw [rounds_succ]
    go_wp2
    go_ret
    exact ⟨ret_bool E.out.symm, Below.refl _ _⟩
  · have HC := Lib.hid hc
    clear hc
    go_enter Try.func118, Try.ntmps118
    go_wp2
    go_loopw [7] (fun i wr => ∃ k : Nat, k ≤ l.length ∧ i = .int .i64 k ∧ Hid (FirstW l k) ∧ Hid (Below w.heap.size w wr) ∧ w.heap.size ≤ wr.heap.size) (fun i _ => l.length - (intOf i).toNat)
    case atStart => exact ⟨0, Nat.zero_le _, rfl, Lib.hid (FirstW.zero _), Lib.hid (Below.refl _ _), Nat.le_refl _⟩
    case round =>
      obtain ⟨k, hk, rfl, hF, hb', hsz⟩ := hrel
      by_cases hlt : k < l.length
      rotate_left
      · obtain rfl : k = l.length := by omega
        have E := Lib.hid (winB_mk hF.out)
        go_wp2
        go_ret
        exact ⟨ret_bool E.out.symm, hb'.out⟩
      · obtain ⟨x, hx⟩ : ∃ x, l[k]? = some x := ⟨_, List.getElem?_eq_getElem hlt⟩
        obtain ⟨p0, p1⟩ := SlWindow.cells HC.out k x hx
        have hg : g < w.heap.size := World.block_lt_of_cell? w ⟨g, o + k * 2, none⟩ p0
        have a0 := (hb'.out.cell (p := ⟨g, o + k * 2, none⟩) hg).trans p0
        have a1 := (hb'.out.cell (p := ⟨g, o + k * 2 + 1, none⟩) hg).trans p1
        have HX := Lib.hid hx
        have hgr : g < wr.heap.size := by omega
        clear p0 p1 hx
        by_cases h1 : x.fr < 0
        · have E := Lib.hid (winB_bad k hlt (wokB_bad HX.out (by omega)))
          go_wp2
          go_quiet (fail)
          go_wp2
          go_ret
          refine ⟨ret_bool E.out.symm, ?_⟩
          repeat (first | exact hb'.out | refine below_drewN ?_ _ | refine Below.drew ?_ | refine Below.setCell ?_ (by first | omega | (simp <;> omega)) _ | refine Below.alloc ?_ (by first | omega | (simp <;> omega)) _)
        have d1 : decide (x.fr < 0) = false := decide_eq_false h1
        by_cases h2 : x.tt < x.fr
        · have E := Lib.hid (winB_bad k hlt (wokB_bad HX.out (by omega)))
          go_wp2
          go_quiet (fail)
          go_wp2
          go_ret
          refine ⟨ret_bool E.out.symm, ?_⟩
          repeat (first | exact hb'.out | refine below_drewN ?_ _ | refine Below.drew ?_ | refine Below.setCell ?_ (by first | omega | (simp <;> omega)) _ | refine Below.alloc ?_ (by first | omega | (simp <;> omega)) _)
        have d2 : decide (x.tt < x.fr) = false := decide_eq_false h2
        by_cases h3 : 2880 < x.tt
        · have E := Lib.hid (winB_bad k hlt (wokB_bad HX.out (by omega)))
          go_wp2
          go_quiet (fail)
          go_wp2
          go_ret
          refine ⟨ret_bool E.out.symm, ?_⟩
          repeat (first | exact hb'.out | refine below_drewN ?_ _ | refine Below.drew ?_ | refine Below.setCell ?_ (by first | omega | (simp <;> omega)) _ | refine Below.alloc ?_ (by first | omega | (simp <;> omega)) _)
        have d3 : decide (2880 < x.tt) = false := decide_eq_false h3
        have ok : 0 ≤ x.fr ∧ x.fr ≤ x.tt ∧ x.tt ≤ 2880 := by omega
        have OK := Lib.hid ok
        clear ok h1 h2 h3
        by_cases hk0 : k = 0
        · have FF := Lib.hid (hF.out.next (wokB_zero hk0 HX.out OK.out))
          have hd : decide (0 < k) = false := decide_eq_false (by omega)
          clear hk0
          go_wp2
          go_quiet (fail)
          go_wp2
          go_roundw
          case rel =>
            refine ⟨k + 1, by omega, by go_num, FF, Lib.hid ?_, ?_⟩
            · repeat (first | exact hb'.out | refine below_drewN ?_ _ | refine Below.drew ?_ | refine Below.setCell ?_ (by first | omega | (simp <;> omega)) _ | refine Below.alloc ?_ (by first | omega | (simp <;> omega)) _)
            · simp <;> omega
          case measure => simp [intOf]; omega
        obtain ⟨j, hj⟩ : ∃ j, k = j + 1 := ⟨k - 1, by omega⟩
        obtain ⟨y, hy⟩ : ∃ y, l[j]? = some y := ⟨_, List.getElem?_eq_getElem (by omega)⟩
        obtain ⟨_, r1⟩ := SlWindow.cells HC.out j y hy
        have y1 := (hb'.out.cell (p := ⟨g, o + j * 2 + 1, none⟩) hg).trans r1
        obtain ⟨t0, t1, t2⟩ := hF.out.time (show j < k by omega) hy
        have hw1 : IntKind.i64.wrap ((k : Int) - 1) = (j : Int) := by rw [IntWalk.i64_in _ (by omega)]; omega
        have hw2 : IntKind.i64.wrap (y.tt + 1) = y.tt + 1 := IntWalk.i64_in _ (by omega)
        have HE := Lib.hid (wokB_succ hj HX.out hy OK.out)
        have hd : decide (0 < k) = true := decide_eq_true (by omega)
        have hjl : j < l.length := by omega
        have HJ := Lib.hid hj
        clear hj hy r1 hk0 t0 t1 t2
        by_cases hyx : x.fr ≤ y.tt + 1
        · have hd2 : decide (x.fr ≤ y.tt + 1) = true := decide_eq_true hyx
          have E := Lib.hid (winB_bad k hlt (HE.out.trans (decide_eq_false (by omega))))
          go_wp2
          go_quiet (fail)
          go_wp2
          go_ret
          refine ⟨ret_bool E.out.symm, ?_⟩
          repeat (first | exact hb'.out | refine below_drewN ?_ _ | refine Below.drew ?_ | refine Below.setCell ?_ (by first | omega | (simp <;> omega)) _ | refine Below.alloc ?_ (by first | omega | (simp <;> omega)) _)
        · have hd2 : decide (x.fr ≤ y.tt + 1) = false := decide_eq_false hyx
          have FF := Lib.hid (hF.out.next (HE.out.trans (decide_eq_true (by omega))))
          go_wp2
          go_quiet (fail)
          go_wp2
          go_roundw
          case rel =>
            refine ⟨k + 1, by omega, by go_num, FF, Lib.hid ?_, ?_⟩
            · repeat (first | exact hb'.out | refine below_drewN ?_ _ | refine Below.drew ?_ | refine Below.setCell ?_ (by first | omega | (simp <;> omega)) _ | refine Below.alloc ?_ (by first | omega | (simp <;> omega)) _)
            · simp <;> omega
          case measure => simp [intOf]; omega
end Go.Proofs.Ytooeikimoheecaa
namespace Go.Proofs.Ytooeikimoheecaa
open Go.RowKit
/-- The surge k is valid and begins behind the one before it. -/
def okB (s : List SurgeD) (k : Nat) : Bool :=
  match s[k]? with
  | none => false
  | some x => surgeB x && (k == 0 || match s[k - 1]? with | none => false | some y => decide (y.fr < x.fr))
def headB (s : List SurgeD) : Bool := match s[0]? with | none => false | some x => decide (x.fr = 0)
def fcB (m : Int) (l : List PartD) (s : List SurgeD) : Bool := tideB m l && decide (1 ≤ s.length ∧ s.length ≤ 6) && headB s && (List.range s.length).all (okB s)
def FirstFc (s : List SurgeD) (k : Nat) : Prop := ∀ j, j < k → okB s j = true
theorem fcB_true {m : Int} {l : List PartD} {s : List SurgeD} (h : fcB m l s = true) : tideB m l = true ∧ 1 ≤ s.length ∧ s.length ≤ 6 ∧ headB s = true ∧ FirstFc s s.length := by
  unfold fcB at h
  simp only [Bool.and_eq_true, decide_eq_true_eq, List.all_eq_true] at h
  exact ⟨h.1.1.1, h.1.1.2.1, h.1.1.2.2, h.1.2, fun j hj => h.2 j (by simpa using hj)⟩
theorem fcB_mk {m : Int} {l : List PartD} {s : List SurgeD} (h0 : tideB m l = true) (h1 : 1 ≤ s.length) (h2 : s.length ≤ 6) (h3 : headB s = true) (h4 : FirstFc s s.length) : fcB m l s = true := by
  unfold fcB
  simp only [Bool.and_eq_true, decide_eq_true_eq, List.all_eq_true]
  exact ⟨⟨⟨h0, h1, h2⟩, h3⟩, fun j hj => h4 j (by simpa using hj)⟩
theorem fcB_tide {m : Int} {l : List PartD} {s : List SurgeD} (h : tideB m l = false) : fcB m l s = false := by
  cases e : fcB m l s with
  | false => rfl
  | true => rw [(fcB_true e).1] at h; cases h
theorem fcB_len {m : Int} {l : List PartD} {s : List SurgeD} (h : s.length = 0 ∨ 6 < s.length) : fcB m l s = false := by
  cases e : fcB m l s with
  | false => rfl
  | true => have := fcB_true e; omega
theorem fcB_head {m : Int} {l : List PartD} {s : List SurgeD} (h : headB s = false) : fcB m l s = false := by
  cases e : fcB m l s with
  | false => rfl
  | true => rw [(fcB_true e).2.2.2.1] at h; cases h
theorem fcB_bad {m : Int} {l : List PartD} {s : List SurgeD} (k : Nat) (hk : k < s.length) (h : okB s k = false) : fcB m l s = false := by
  cases e : fcB m l s with
  | false => rfl
  | true => rw [(fcB_true e).2.2.2.2 k hk] at h; cases h
theorem headB_of {s : List SurgeD} {x : SurgeD} (h : s[0]? = some x) : headB s = decide (x.fr = 0) := by unfold headB; rw [h]
theorem okB_bad {s : List SurgeD} {k : Nat} {x : SurgeD} (h : s[k]? = some x) (hx : surgeB x = false) : okB s k = false := by unfold okB; rw [h]; simp [hx]
theorem okB_zero {s : List SurgeD} {x : SurgeD} (h : s[0]? = some x) (hx : surgeB x = true) : okB s 0 = true := by unfold okB; rw [h]; simp [hx]
theorem okB_succ {s : List SurgeD} {k : Nat} {x y : SurgeD} (h : s[k + 1]? = some x) (hx : surgeB x = true) (h' : s[k]? = some y) : okB s (k + 1) = decide (y.fr < x.fr) := by
  unfold okB; rw [h]; simp [hx, h']
theorem FirstFc.next {s : List SurgeD} {k : Nat} (h : FirstFc s k) (hk : okB s k = true) : FirstFc s (k + 1) := by
  intro j hj
  by_cases e : j = k
  · subst e; exact hk
  · exact h j (by omega)
theorem FirstFc.zero (s : List SurgeD) : FirstFc s 0 := fun _ hj => absurd hj (by omega)
theorem okB_valid {s : List SurgeD} {k : Nat} {x : SurgeD} (h : okB s k = true) (hx : s[k]? = some x) : surgeB x = true := by
  unfold okB at h; rw [hx] at h; simp at h; exact h.1
/-- Among the first k surges, the place of the last that begins at t or before (0 if there is none). -/
def lastLe (s : List SurgeD) (t : Int) : Nat → Nat
  | 0 => 0
  | k + 1 => match s[k]? with
    | none => lastLe s t k
    | some x => if x.fr ≤ t then k else lastLe s t k
theorem lastLe_yes {s : List SurgeD} {t : Int} {k : Nat} {x : SurgeD} (h : s[k]? = some x) (hx : x.fr ≤ t) : lastLe s t (k + 1) = k := by unfold lastLe; rw [h]; simp [hx]
theorem lastLe_no {s : List SurgeD} {t : Int} {k : Nat} {x : SurgeD} (h : s[k]? = some x) (hx : ¬ x.fr ≤ t) : lastLe s t (k + 1) = lastLe s t k := by
  conv => lhs; unfold lastLe
  rw [h]; simp [hx]
theorem lastLe_lt {s : List SurgeD} {t : Int} (h0 : 0 < s.length) : ∀ k, k ≤ s.length → lastLe s t k < s.length := by
  intro k
  induction k with
  | zero => intro _; exact h0
  | succ k ih =>
    intro hk
    obtain ⟨x, hx⟩ : ∃ x, s[k]? = some x := ⟨_, List.getElem?_eq_getElem (by omega)⟩
    by_cases h : x.fr ≤ t
    · rw [lastLe_yes hx h]; omega
    · rw [lastLe_no hx h]; exact ih (by omega)
def atS (s : List SurgeD) (t : Int) : SurgeD := (s[lastLe s t s.length]?).getD ⟨0, 0, 0⟩
theorem atS_of {s : List SurgeD} {t : Int} (h0 : 0 < s.length) : s[lastLe s t s.length]? = some (atS s t) := by
  unfold atS
  rw [List.getElem?_eq_getElem (lastLe_lt h0 _ (Nat.le_refl _))]; rfl
theorem atS_ok {s : List SurgeD} {t : Int} (h0 : 0 < s.length) (h : FirstFc s s.length) : surgeB (atS s t) = true :=
  okB_valid (h _ (lastLe_lt h0 _ (Nat.le_refl _))) (atS_of h0)
end Go.Proofs.Ytooeikimoheecaa
namespace Go.Proofs.Ytooeikimoheecaa
open Go.RowKit
set_option maxRecDepth 100000
def shipB (d : ShipD) : Bool := nameB d.name && inB d.length 10 400 && inB d.draught 100 2000 && inB d.line 0 3 && inB d.tugs 0 4
theorem shipB_of {d : ShipD} {b0 b1 b2 b3 b4 : Bool} (h0 : nameB d.name = b0) (h1 : inB d.length 10 400 = b1) (h2 : inB d.draught 100 2000 = b2) (h3 : inB d.line 0 3 = b3) (h4 : inB d.tugs 0 4 = b4) : shipB d = (b0 && b1 && b2 && b3 && b4) := by unfold shipB; rw [h0, h1, h2, h3, h4]
theorem shipB_true {d : ShipD} (h : shipB d = true) : nameB d.name = true ∧ 10 ≤ d.length ∧ d.length ≤ 400 ∧ 100 ≤ d.draught ∧ d.draught ≤ 2000 ∧ 0 ≤ d.line ∧ d.line ≤ 3 ∧ 0 ≤ d.tugs ∧ d.tugs ≤ 4 := by
  unfold shipB inB at h
  simp only [Bool.and_eq_true, decide_eq_true_iff] at h
  obtain ⟨⟨⟨⟨h0, h1⟩, h2⟩, h3⟩, h4⟩ := h
  exact ⟨h0, h1.1, h1.2, h2.1, h2.2, h3.1, h3.2, h4.1, h4.2⟩
set_option maxHeartbeats 4000000 in
theorem implShipOk (d : ShipD) (w : World) (hw : d.wf) :
    Calls Try.prog 12 #[d.val] w fun e w' => e = .returned (.bool (shipB d)) ∧ Below w.heap.size w w' := by
  replace hw : d.name.size ≤ maxLen := hw.1
  obtain ⟨b0, h0⟩ : ∃ b, nameB d.name = b := ⟨_, rfl⟩
  obtain ⟨b1, h1⟩ : ∃ b, inB d.length 10 400 = b := ⟨_, rfl⟩
  obtain ⟨b2, h2⟩ : ∃ b, inB d.draught 100 2000 = b := ⟨_, rfl⟩
  obtain ⟨b3, h3⟩ : ∃ b, inB d.line 0 3 = b := ⟨_, rfl⟩
  obtain ⟨b4, h4⟩ : ∃ b, inB d.tugs 0 4 = b := ⟨_, rfl⟩
  rw [shipB_of h0 h1 h2 h3 h4]
  obtain ⟨na, le, dr, li, tu, sl⟩ := d
  dsimp only at h0 h1 h2 h3 h4 hw
  dsimp only [ShipD.val]
  have H0 := Lib.hid h0
  have H1 := Lib.hid h1
  have H2 := Lib.hid h2
  have H3 := Lib.hid h3
  have H4 := Lib.hid h4
  clear h0 h1 h2 h3 h4
  have B := Lib.hid (Joins.below_alloc1 w (.cells #[.string na, .int .i64 le, .int .i64 dr, .int .i64 li, .int .i64 tu, .bool sl] 46))
  have K := Lib.hid (Blk.new w #[.string na, .int .i64 le, .int .i64 dr, .int .i64 li, .int .i64 tu, .bool sl] 46)

  cases b0 with
  | false =>
    rw [show (false && b1 && b2 && b3 && b4) = false by simp]
    go_enter Try.func12, Try.ntmps12
    go_wp2_with fail
    refine (implIsName na _ hw).mono ?_
    rw [H0.out]
    rintro e w1 ⟨rfl, hb1⟩
    have B1 := Lib.hid (B.out.trans (hb1.mono B.out.size))
    have K1 := K.out.below hb1
    have z1 := K1.cell 1
    have z2 := K1.cell 2
    have z3 := K1.cell 3
    have z4 := K1.cell 4
    simp at z1 z2 z3 z4
    clear hb1 K1
    go_wp2
    go_ret
    exact ⟨rfl, B1.out⟩
  | true =>
    cases b1 with
    | false =>
      rw [show (true && false && b2 && b3 && b4) = false by simp]
      have g1 : ¬ (10 ≤ le ∧ le ≤ 400) := by have := H1.out; unfold inB at this; exact of_decide_eq_false this
      by_cases l1 : 10 ≤ le
      · have u1 : decide (le ≤ 400) = false := decide_eq_false (by omega)
        clear g1
        go_enter Try.func12, Try.ntmps12
        go_wp2_with fail
        refine (implIsName na _ hw).mono ?_
        rw [H0.out]
        rintro e w1 ⟨rfl, hb1⟩
        have B1 := Lib.hid (B.out.trans (hb1.mono B.out.size))
        have K1 := K.out.below hb1
        have z1 := K1.cell 1
        have z2 := K1.cell 2
        have z3 := K1.cell 3
        have z4 := K1.cell 4
        simp at z1 z2 z3 z4
        clear hb1 K1
        go_wp2
        go_ret
        exact ⟨rfl, B1.out⟩
      · have u1 : decide (10 ≤ le) = false := decide_eq_false l1
        clear g1
        go_enter Try.func12, Try.ntmps12
        go_wp2_with fail
        refine (implIsName na _ hw).mono ?_
        rw [H0.out]
        rintro e w1 ⟨rfl, hb1⟩
        have B1 := Lib.hid (B.out.trans (hb1.mono B.out.size))
        have K1 := K.out.below hb1
        have z1 := K1.cell 1
        have z2 := K1.cell 2
        have z3 := K1.cell 3
        have z4 := K1.cell 4
        simp at z1 z2 z3 z4
        clear hb1 K1
        go_wp2
        go_ret
        exact ⟨rfl, B1.out⟩
    | true =>
      have g1 : 10 ≤ le ∧ le ≤ 400 := by have := H1.out; unfold inB at this; exact of_decide_eq_true this
      obtain ⟨l1, u1⟩ := g1
      cases b2 with
      | false =>
        rw [show (true && true && false && b3 && b4) = false by simp]
        have g2 : ¬ (100 ≤ dr ∧ dr ≤ 2000) := by have := H2.out; unfold inB at this; exact of_decide_eq_false this
        by_cases l2 : 100 ≤ dr
        · have u2 : decide (dr ≤ 2000) = false := decide_eq_false (by omega)
          clear g2
          go_enter Try.func12, Try.ntmps12
          go_wp2_with fail
          refine (implIsName na _ hw).mono ?_
          rw [H0.out]
          rintro e w1 ⟨rfl, hb1⟩
          have B1 := Lib.hid (B.out.trans (hb1.mono B.out.size))
          have K1 := K.out.below hb1
          have z1 := K1.cell 1
          have z2 := K1.cell 2
          have z3 := K1.cell 3
          have z4 := K1.cell 4
          simp at z1 z2 z3 z4
          clear hb1 K1
          go_wp2
          go_ret
          exact ⟨rfl, B1.out⟩
        · have u2 : decide (100 ≤ dr) = false := decide_eq_false l2
          clear g2
          go_enter Try.func12, Try.ntmps12
          go_wp2_with fail
          refine (implIsName na _ hw).mono ?_
          rw [H0.out]
          rintro e w1 ⟨rfl, hb1⟩
          have B1 := Lib.hid (B.out.trans (hb1.mono B.out.size))
          have K1 := K.out.below hb1
          have z1 := K1.cell 1
          have z2 := K1.cell 2
          have z3 := K1.cell 3
          have z4 := K1.cell 4
          simp at z1 z2 z3 z4
          clear hb1 K1
          go_wp2
          go_ret
          exact ⟨rfl, B1.out⟩
      | true =>
        have g2 : 100 ≤ dr ∧ dr ≤ 2000 := by have := H2.out; unfold inB at this; exact of_decide_eq_true this
        obtain ⟨l2, u2⟩ := g2
        cases b3 with
        | false =>
          rw [show (true && true && true && false && b4) = false by simp]
          go_enter Try.func12, Try.ntmps12
          go_wp2_with fail
          refine (implIsName na _ hw).mono ?_
          rw [H0.out]
          rintro e w1 ⟨rfl, hb1⟩
          have B1 := Lib.hid (B.out.trans (hb1.mono B.out.size))
          have K1 := K.out.below hb1
          have z1 := K1.cell 1
          have z2 := K1.cell 2
          have z3 := K1.cell 3
          have z4 := K1.cell 4
          simp at z1 z2 z3 z4
          clear hb1 K1
          go_wp2_with fail
          refine (isIndex_any _ 4 _).mono ?_
          rw [show inB li 0 (((4 : Nat) : Int) - 1) = inB li 0 3 from rfl, H3.out]
          rintro e w4 ⟨rfl, rfl⟩
          go_wp2
          go_ret
          exact ⟨rfl, B1.out⟩
        | true =>
          cases b4 with
          | false =>
            rw [show (true && true && true && true && false) = false by simp]
            have g4 : ¬ (0 ≤ tu ∧ tu ≤ 4) := by have := H4.out; unfold inB at this; exact of_decide_eq_false this
            by_cases l4 : 0 ≤ tu
            · have u4 : decide (tu ≤ 4) = false := decide_eq_false (by omega)
              clear g4
              go_enter Try.func12, Try.ntmps12
              go_wp2_with fail
              refine (implIsName na _ hw).mono ?_
              rw [H0.out]
              rintro e w1 ⟨rfl, hb1⟩
              have B1 := Lib.hid (B.out.trans (hb1.mono B.out.size))
              have K1 := K.out.below hb1
              have z1 := K1.cell 1
              have z2 := K1.cell 2
              have z3 := K1.cell 3
              have z4 := K1.cell 4
              simp at z1 z2 z3 z4
              clear hb1 K1
              go_wp2_with fail
              refine (isIndex_any _ 4 _).mono ?_
              rw [show inB li 0 (((4 : Nat) : Int) - 1) = inB li 0 3 from rfl, H3.out]
              rintro e w4 ⟨rfl, rfl⟩
              go_wp2
              go_ret
              exact ⟨rfl, B1.out⟩
            · have u4 : decide (0 ≤ tu) = false := decide_eq_false l4
              clear g4
              go_enter Try.func12, Try.ntmps12
              go_wp2_with fail
              refine (implIsName na _ hw).mono ?_
              rw [H0.out]
              rintro e w1 ⟨rfl, hb1⟩
              have B1 := Lib.hid (B.out.trans (hb1.mono B.out.size))
              have K1 := K.out.below hb1
              have z1 := K1.cell 1
              have z2 := K1.cell 2
              have z3 := K1.cell 3
              have z4 := K1.cell 4
              simp at z1 z2 z3 z4
              clear hb1 K1
              go_wp2_with fail
              refine (isIndex_any _ 4 _).mono ?_
              rw [show inB li 0 (((4 : Nat) : Int) - 1) = inB li 0 3 from rfl, H3.out]
              rintro e w4 ⟨rfl, rfl⟩
              go_wp2
              go_ret
              exact ⟨rfl, B1.out⟩
          | true =>
            have g4 : 0 ≤ tu ∧ tu ≤ 4 := by have := H4.out; unfold inB at this; exact of_decide_eq_true this
            obtain ⟨l4, u4⟩ := g4
            rw [show (true && true && true && true && true) = true from rfl]
            go_enter Try.func12, Try.ntmps12
            go_wp2_with fail
            refine (implIsName na _ hw).mono ?_
            rw [H0.out]
            rintro e w1 ⟨rfl, hb1⟩
            have B1 := Lib.hid (B.out.trans (hb1.mono B.out.size))
            have K1 := K.out.below hb1
            have z1 := K1.cell 1
            have z2 := K1.cell 2
            have z3 := K1.cell 3
            have z4 := K1.cell 4
            simp at z1 z2 z3 z4
            clear hb1 K1
            go_wp2_with fail
            refine (isIndex_any _ 4 _).mono ?_
            rw [show inB li 0 (((4 : Nat) : Int) - 1) = inB li 0 3 from rfl, H3.out]
            rintro e w4 ⟨rfl, rfl⟩
            go_wp2
            go_ret
            exact ⟨rfl, B1.out⟩
end Go.Proofs.Ytooeikimoheecaa
