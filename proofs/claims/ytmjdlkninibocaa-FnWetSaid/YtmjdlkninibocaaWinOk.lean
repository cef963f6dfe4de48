
/- WindowsOk of the program and of the model: contracts. -/
import Derived.Test.YtmjdlkninibocaaWindows
import Derived.Test.YtmjdlkninibocaaLevel
namespace Go.Proofs.Ytmjdlkninibocaa
open Go.RowKit
set_option maxRecDepth 100000

/-- A window whose minutes lie in time. -/
def wB (x : WindowD) : Bool := decide (0 ≤ x.fr ∧ x.fr ≤ x.tt ∧ x.tt ≤ 2880)
/-- The window at a place lies in time and, behind another one, at least one minute later. -/
def wokB (l : List WindowD) (k : Nat) : Bool :=
  match l[k]? with
  | none => true
  | some x => wB x && (match k with | 0 => true | j + 1 => match l[j]? with | none => true | some y => decide (y.tt + 1 < x.fr))
def winB (l : List WindowD) : Bool := (List.range l.length).all (wokB l)
/-- The first k windows are valid. -/
def FirstW (l : List WindowD) (k : Nat) : Prop := ∀ j, j < k → wokB l j = true
theorem FirstW.zero (l : List WindowD) : FirstW l 0 := fun j hj => absurd hj (by omega)
theorem FirstW.next {l : List WindowD} {k : Nat} (h : FirstW l k) (hk : wokB l k = true) : FirstW l (k + 1) := fun j hj => by
  by_cases e : j = k
  · rw [e]; exact hk
  · exact h j (by omega)
theorem winB_mk {l : List WindowD} (h : FirstW l l.length) : winB l = true := List.all_eq_true.2 fun j hj => h j (List.mem_range.1 hj)
theorem winB_true {l : List WindowD} (h : winB l = true) : FirstW l l.length := fun j hj => List.all_eq_true.1 h j (List.mem_range.2 hj)
theorem winB_bad {l : List WindowD} (k : Nat) (hk : k < l.length) (h : wokB l k = false) : winB l = false := by
  rw [Bool.eq_false_iff]
  intro e
  rw [winB_true e k hk] at h
  cases h
theorem wokB_bad {l : List WindowD} {k : Nat} {x : WindowD} (hx : l[k]? = some x) (h : ¬ (0 ≤ x.fr ∧ x.fr ≤ x.tt ∧ x.tt ≤ 2880)) : wokB l k = false := by
  unfold wokB wB; rw [hx]; simp only [decide_eq_false h, Bool.false_and]
theorem wokB_zero {l : List WindowD} {k : Nat} {x : WindowD} (hk : k = 0) (hx : l[k]? = some x) (h : 0 ≤ x.fr ∧ x.fr ≤ x.tt ∧ x.tt ≤ 2880) : wokB l k = true := by
  subst hk; unfold wokB wB; rw [hx]; simp only [decide_eq_true h, Bool.and_self]
theorem wokB_succ {l : List WindowD} {k j : Nat} {x y : WindowD} (hk : k = j + 1) (hx : l[k]? = some x) (hy : l[j]? = some y) (h : 0 ≤ x.fr ∧ x.fr ≤ x.tt ∧ x.tt ≤ 2880) : wokB l k = decide (y.tt + 1 < x.fr) := by
  subst hk; unfold wokB wB; rw [hx]; simp only [decide_eq_true h, hy, Bool.true_and]
theorem wokB_time {l : List WindowD} {k : Nat} {x : WindowD} (hx : l[k]? = some x) (h : wokB l k = true) : 0 ≤ x.fr ∧ x.fr ≤ x.tt ∧ x.tt ≤ 2880 := by
  by_cases hx2 : 0 ≤ x.fr ∧ x.fr ≤ x.tt ∧ x.tt ≤ 2880
  · exact hx2
  · rw [wokB_bad hx hx2] at h; cases h
theorem FirstW.time {l : List WindowD} {k j : Nat} {x : WindowD} (h : FirstW l k) (hj : j < k) (hx : l[j]? = some x) : 0 ≤ x.fr ∧ x.fr ≤ x.tt ∧ x.tt ≤ 2880 := wokB_time hx (h j hj)
theorem FirstW.gap {l : List WindowD} {k j : Nat} {x y : WindowD} (h : FirstW l k) (hj : j + 1 < k) (hx : l[j + 1]? = some x) (hy : l[j]? = some y) : y.tt + 1 < x.fr := by
  have e := h (j + 1) hj
  rw [wokB_succ rfl hx hy (h.time hj hx)] at e
  exact of_decide_eq_true e
set_option maxHeartbeats 10000000 in
theorem implWindowsOk (v : Value) (l : List WindowD) (w : World) (h : SlWindow w v l) :
    Calls Try.prog 11 #[v] w fun e w' => e = .returned (.bool (winB l)) ∧ Below w.heap.size w w' := by
  obtain ⟨hl, h⟩ := h
  rcases h with ⟨rfl, A, c, rfl⟩ | ⟨g, o, c, rfl, hp, hcap, hc⟩
  · have E := Lib.hid (winB_mk (l := []) (FirstW.zero _))
    go_enter Try.func11, Try.ntmps11
    go_wp2
    refine wp_loop_rounds 1 ?_
    rw [rounds_succ]
    go_wp2
    go_ret
    exact ⟨ret_bool E.out.symm, Below.refl _ _⟩
  · have HC := Lib.hid hc
    clear hc
    go_enter Try.func11, Try.ntmps11
    go_wp2
    go_loopw [7] (fun i wr => ∃ k : Nat, k ≤ l.length ∧ i = .int .i64 k ∧ Hid (FirstW l k) ∧ Hid (Below w.heap.size w wr) ∧ w.heap.size ≤ wr.heap.size) (fun i _ => l.length - (intOf i).toNat)
    case atStart => exact ⟨0, Nat.zero_le _, rfl, Lib.hid (FirstW.zero _), Lib.hid (Below.refl _ _), Nat.le_refl _⟩
    case round =>
      obtain ⟨k, hk, rfl, hF, hb', hsz⟩ := hrel
      by_cases hlt : k < l.length
      rotate_left
      · obtain rfl : k = l.length := by omega
        have E := Lib.hid (winB_mk hF.out)
        go_wp2
        go_ret
        exact ⟨ret_bool E.out.symm, hb'.out⟩
      · obtain ⟨x, hx⟩ : ∃ x, l[k]? = some x := ⟨_, List.getElem?_eq_getElem hlt⟩
        obtain ⟨p0, p1⟩ := SlWindow.cells HC.out k x hx
        have hg : g < w.heap.size := World.block_lt_of_cell? w ⟨g, o + k * 2, none⟩ p0
        have a0 := (hb'.out.cell (p := ⟨g, o + k * 2, none⟩) hg).trans p0
        have a1 := (hb'.out.cell (p := ⟨g, o + k * 2 + 1, none⟩) hg).trans p1
        have HX := Lib.hid hx
        have hgr : g < wr.heap.size := by omega
        clear p0 p1 hx
        by_cases h1 : x.fr < 0
        · have E := Lib.hid (winB_bad k hlt (wokB_bad HX.out (by omega)))
          go_wp2
          go_quiet (fail)
          go_wp2
          go_ret
          refine ⟨ret_bool E.out.symm, ?_⟩
          repeat (first | exact hb'.out | refine below_drewN ?_ _ | refine Below.drew ?_ | refine Below.setCell ?_ (by first | omega | (simp <;> omega)) _ | refine Below.alloc ?_ (by first | omega | (simp <;> omega)) _)
        have d1 : decide (x.fr < 0) = false := decide_eq_false h1
        by_cases h2 : x.tt < x.fr
        · have E := Lib.hid (winB_bad k hlt (wokB_bad HX.out (by omega)))
          go_wp2
          go_quiet (fail)
          go_wp2
          go_ret
          refine ⟨ret_bool E.out.symm, ?_⟩
          repeat (first | exact hb'.out | refine below_drewN ?_ _ | refine Below.drew ?_ | refine Below.setCell ?_ (by first | omega | (simp <;> omega)) _ | refine Below.alloc ?_ (by first | omega | (simp <;> omega)) _)
        have d2 : decide (x.tt < x.fr) = false := decide_eq_false h2
        by_cases h3 : 2880 < x.tt
        · have E := Lib.hid (winB_bad k hlt (wokB_bad HX.out (by omega)))
          go_wp2
          go_quiet (fail)
          go_wp2
          go_ret
          refine ⟨ret_bool E.out.symm, ?_⟩
          repeat (first | exact hb'.out | refine below_drewN ?_ _ | refine Below.drew ?_ | refine Below.setCell ?_ (by first | omega | (simp <;> omega)) _ | refine Below.alloc ?_ (by first | omega | (simp <;> omega)) _)
        have d3 : decide (2880 < x.tt) = false := decide_eq_false h3
        have ok : 0 ≤ x.fr ∧ x.fr ≤ x.tt ∧ x.tt ≤ 2880 := by omega
        have OK := Lib.hid ok
        clear ok h1 h2 h3
        by_cases hk0 : k = 0
        · have FF := Lib.hid (hF.out.next (wokB_zero hk0 HX.out OK.out))
          have hd : decide (0 < k) = false := decide_eq_false (by omega)
          clear hk0
          go_wp2
          go_quiet (fail)
          go_wp2
          go_roundw
          case rel =>
            refine ⟨k + 1, by omega, by go_num, FF, Lib.hid ?_, ?_⟩
            · repeat (first | exact hb'.out | refine below_drewN ?_ _ | refine Below.drew ?_ | refine Below.setCell ?_ (by first | omega | (simp <;> omega)) _ | refine Below.alloc ?_ (by first | omega | (simp <;> omega)) _)
            · simp <;> omega
          case measure => simp [intOf]; omega
        obtain ⟨j, hj⟩ : ∃ j, k = j + 1 := ⟨k - 1, by omega⟩
        obtain ⟨y, hy⟩ : ∃ y, l[j]? = some y := ⟨_, List.getElem?_eq_getElem (by omega)⟩
        obtain ⟨_, r1⟩ := SlWindow.cells HC.out j y hy
        have y1 := (hb'.out.cell (p := ⟨g, o + j * 2 + 1, none⟩) hg).trans r1
        obtain ⟨t0, t1, t2⟩ := hF.out.time (show j < k by omega) hy
        have hw1 : IntKind.i64.wrap ((k : Int) - 1) = (j : Int) := by rw [IntWalk.i64_in _ (by omega)]; omega
        have hw2 : IntKind.i64.wrap (y.tt + 1) = y.tt + 1 := IntWalk.i64_in _ (by omega)
        have HE := Lib.hid (wokB_succ hj HX.out hy OK.out)
        have hd : decide (0 < k) = true := decide_eq_true (by omega)
        have hjl : j < l.length := by omega
        have HJ := Lib.hid hj
        clear hj hy r1 hk0 t0 t1 t2
        by_cases hyx : x.fr ≤ y.tt + 1
        · have hd2 : decide (x.fr ≤ y.tt + 1) = true := decide_eq_true hyx
          have E := Lib.hid (winB_bad k hlt (HE.out.trans (decide_eq_false (by omega))))
          go_wp2
          go_quiet (fail)
          go_wp2
          go_ret
          refine ⟨ret_bool E.out.symm, ?_⟩
          repeat (first | exact hb'.out | refine below_drewN ?_ _ | refine Below.drew ?_ | refine Below.setCell ?_ (by first | omega | (simp <;> omega)) _ | refine Below.alloc ?_ (by first | omega | (simp <;> omega)) _)
        · have hd2 : decide (x.fr ≤ y.tt + 1) = false := decide_eq_false hyx
          have FF := Lib.hid (hF.out.next (HE.out.trans (decide_eq_true (by omega))))
          go_wp2
          go_quiet (fail)
          go_wp2
          go_roundw
          case rel =>
            refine ⟨k + 1, by omega, by go_num, FF, Lib.hid ?_, ?_⟩
            · repeat (first | exact hb'.out | refine below_drewN ?_ _ | refine Below.drew ?_ | refine Below.setCell ?_ (by first | omega | (simp <;> omega)) _ | refine Below.alloc ?_ (by first | omega | (simp <;> omega)) _)
            · simp <;> omega
          case measure => simp [intOf]; omega

end Go.Proofs.Ytmjdlkninibocaa
