
/- What ExactFreeTimes and BerthsLaw rests on, part 7: contracts and mathematics. -/
import Derived.Test.YtghjfcnboocmjaaBc4
import Derived.Deep.AppendLies
import Derived.Deep.Upon
import Derived.Test.YtghjfcnboocmjaaBc3
import Derived.Test.YtghjfcnboocmjaaBc1
import Derived.Test.YtghjfcnboocmjaaBc0
import Derived.Test.YtghjfcnboocmjaaBc2
import Derived.Deep.RegionLaw
import Derived.Deep.DeepCutAuto
namespace Go.Proofs.Ytghjfcnboocmjaa
open Go.RowKit
section
variable {P : Program} (w : World)
/-- Nothing is appended. -/
theorem step_append_none {ops : Array Oper} {o : Oper} {a : Act} {K : Act → World → Prop} {Q : Exit → Act → World → Prop} {E : Prop} (hgd : o.guard = none) (s x : Operand) (t : TypeId)
    (ho : o.op = .call { callee := .builtin .append, args := #[s, x], argTypes := #[t, t] })
    (e : TypeId) (i : TypeInfo) (ht : P.underlying t = some (.slice e)) (hi : P.info? e = some i) (A : Option Addr) (n c : Nat) (hs : a.eval s = .slice A n c) (hle : n ≤ c) (B : Option Addr) (c' : Nat) (hx : a.eval x = .slice B 0 c')
    (h : K (a.put o.dst (.slice A n c)) w) :
    if Region.wanted o (yielded ops a.tmps) = true then Oper.wp P o a w K Q else E := by
  have hw : Region.wanted o (yielded ops a.tmps) = true := by simp [Region.wanted, hgd]
  rw [if_pos hw]
  have hsrc : Src P i.size t (.slice B 0 c') 0 [] w := by
    cases B with
    | none => exact Src.ofNil w ht c'
    | some b => exact Src.ofSlice w ht b 0 c' [] (by simp) (by simp) (by simp)
  have hr := run_append_nothing (P := P) w t t o.type e i ht hi A n c hle (.slice B 0 c') hsrc
  unfold Oper.wp execOp
  simp only [ho, resolve, invoke, builtin, Sem.run_bind, Sem.run_pure, Result.andThen_ok, List.map_toArray, List.map_cons, List.map_nil, hs, hx, hr]
  exact h
end
end Go.Proofs.Ytghjfcnboocmjaa
namespace Go.Proofs.Ytghjfcnboocmjaa
open Go.RowKit
set_option maxRecDepth 100000
/-- A window whose minutes lie in time. -/
def wB (x : WindowD) : Bool := decide (0 ≤ x.fr ∧ x.fr ≤ x.tt ∧ x.tt ≤ 2880)
/-- The window at a place lies in time and, behind another one, at least one minute later. -/
def wokB (l : List WindowD) (k : Nat) : Bool :=
  match l[k]? with
  | none => true
  | some x => wB x && (match k with | 0 => true | j + 1 => match l[j]? with | none => true | some y => decide (y.tt + 1 < x.fr))
def winB (l : List WindowD) : Bool := (List.range l.length).all (wokB l)
/-- The first k windows are valid. -/
def FirstW (l : List WindowD) (k : Nat) : Prop := ∀ j, j < k → wokB l j = true
theorem FirstW.zero (l : List WindowD) : FirstW l 0 := fun j hj => absurd hj (by omega)
theorem FirstW.next {l : List WindowD} {k : Nat} (h : FirstW l k) (hk : wokB l k = true) : FirstW l (k + 1) := fun j hj => by
  by_cases e : j = k
  · rw [e]; exact hk
  · exact h j (by omega)
theorem winB_mk {l : List WindowD} (h : FirstW l l.length) : winB l = true := List.all_eq_true.2 fun j hj => h j (List.mem_range.1 hj)
theorem winB_true {l : List WindowD} (h : winB l = true) : FirstW l l.length := fun j hj => List.all_eq_true.1 h j (List.mem_range.2 hj)
theorem winB_bad {l : List WindowD} (k : Nat) (hk : k < l.length) (h : wokB l k = false) : winB l = false := by
  rw [Bool.eq_false_iff]
  intro e
  rw [winB_true e k hk] at h
  cases h
theorem wokB_bad {l : List WindowD} {k : Nat} {x : WindowD} (hx : l[k]? = some x) (h : ¬ (0 ≤ x.fr ∧ x.fr ≤ x.tt ∧ x.tt ≤ 2880)) : wokB l k = false := by
  unfold wokB wB; rw [hx]; simp only [decide_eq_false h, Bool.false_and]
theorem wokB_zero {l : List WindowD} {k : Nat} {x : WindowD} (hk : k = 0) (hx : l[k]? = some x) (h : 0 ≤ x.fr ∧ x.fr ≤ x.tt ∧ x.tt ≤ 2880) : wokB l k = true := by
  subst hk; unfold wokB wB; rw [hx]; simp only [decide_eq_true h, Bool.and_self]
theorem wokB_succ {l : List WindowD} {k j : Nat} {x y : WindowD} (hk : k = j + 1) (hx : l[k]? = some x) (hy : l[j]? = some y) (h : 0 ≤ x.fr ∧ x.fr ≤ x.tt ∧ x.tt ≤ 2880) : wokB l k = decide (y.tt + 1 < x.fr) := by
  subst hk; unfold wokB wB; rw [hx]; simp only [decide_eq_true h, hy, Bool.true_and]
theorem wokB_time {l : List WindowD} {k : Nat} {x : WindowD} (hx : l[k]? = some x) (h : wokB l k = true) : 0 ≤ x.fr ∧ x.fr ≤ x.tt ∧ x.tt ≤ 2880 := by
  by_cases hx2 : 0 ≤ x.fr ∧ x.fr ≤ x.tt ∧ x.tt ≤ 2880
  · exact hx2
  · rw [wokB_bad hx hx2] at h; cases h
theorem FirstW.time {l : List WindowD} {k j : Nat} {x : WindowD} (h : FirstW l k) (hj : j < k) (hx : l[j]? = some x) : 0 ≤ x.fr ∧ x.fr ≤ x.tt ∧ x.tt ≤ 2880 := wokB_time hx (h j hj)
theorem FirstW.gap {l : List WindowD} {k j : Nat} {x y : WindowD} (h : FirstW l k) (hj : j + 1 < k) (hx : l[j + 1]? = some x) (hy : l[j]? = some y) : y.tt + 1 < x.fr := by
  have e := h (j + 1) hj
  rw [wokB_succ rfl hx hy (h.time hj hx)] at e
  exact of_decide_eq_true e
theorem l01InQ (x lo hi : Int) (b : Bool) (hb : inB x lo hi = b) (w : World) : Calls Try.prog 65 #[.int .i64 x, .int .i64 lo, .int .i64 hi] w fun e w' => e = .returned (.bool b) ∧ w' = w :=
  (l01In_any x lo hi w).mono fun _ _ ⟨h1, h2⟩ => ⟨hb ▸ h1, h2.symm⟩
set_option maxHeartbeats 10000000 in
theorem implWindowsOk (v : Value) (l : List WindowD) (w : World) (h : SlWindow w v l) :
    Calls Try.prog 58 #[v] w fun e w' => e = .returned (.bool (winB l)) ∧ Below w.heap.size w w' := by
  obtain ⟨hl, h⟩ := h
  rcases h with ⟨rfl, A, c, rfl⟩ | ⟨g, o, c, rfl, hp, hcap, hc⟩
  · have E := Lib.hid (winB_mk (l := []) (FirstW.zero _))
    go_enter Try.func58, Try.ntmps58
    go_wp2
    refine wp_loop_rounds 1 ?_
    rw [rounds_succ]
    go_wp2
    go_ret
    exact ⟨ret_bool E.out.symm, Below.refl _ _⟩
  · have HC := Lib.hid hc
    clear hc
    go_enter Try.func58, Try.ntmps58
    go_wp2
    go_loopw [7] (fun i wr => ∃ k : Nat, k ≤ l.length ∧ i = .int .i64 k ∧ Hid (FirstW l k) ∧ Hid (Below w.heap.size w wr) ∧ w.heap.size ≤ wr.heap.size) (fun i _ => l.length - (intOf i).toNat)
    case atStart => exact ⟨0, Nat.zero_le _, rfl, Lib.hid (FirstW.zero _), Lib.hid (Below.refl _ _), Nat.le_refl _⟩
    case round =>
      obtain ⟨k, hk, rfl, hF, hb', hsz⟩ := hrel
      by_cases hlt : k < l.length
      rotate_left
      · obtain rfl : k = l.length := by omega
        have E := Lib.hid (winB_mk hF.out)
        go_wp2
        go_ret
        exact ⟨ret_bool E.out.symm, hb'.out⟩
      · obtain ⟨x, hx⟩ : ∃ x, l[k]? = some x := ⟨_, List.getElem?_eq_getElem hlt⟩
        obtain ⟨p0, p1⟩ := SlWindow.cells HC.out k x hx
        have hg : g < w.heap.size := World.block_lt_of_cell? w ⟨g, o + k * 2, none⟩ p0
        have a0 := (hb'.out.cell (p := ⟨g, o + k * 2, none⟩) hg).trans p0
        have a1 := (hb'.out.cell (p := ⟨g, o + k * 2 + 1, none⟩) hg).trans p1
        have HX := Lib.hid hx
        have hgr : g < wr.heap.size := by omega
        clear p0 p1 hx
        by_cases h1 : x.fr < 0
        · have E := Lib.hid (winB_bad k hlt (wokB_bad HX.out (by omega)))
          go_wp2
          go_quiet (fail)
          go_wp2
          go_ret
          refine ⟨ret_bool E.out.symm, ?_⟩
          repeat (first | exact hb'.out | refine below_drewN ?_ _ | refine Below.drew ?_ | refine Below.setCell ?_ (by first | omega | (simp <;> omega)) _ | refine Below.alloc ?_ (by first | omega | (simp <;> omega)) _)
        have d1 : decide (x.fr < 0) = false := decide_eq_false h1
        by_cases h2 : x.tt < x.fr
        · have E := Lib.hid (winB_bad k hlt (wokB_bad HX.out (by omega)))
          go_wp2
          go_quiet (fail)
          go_wp2
          go_ret
          refine ⟨ret_bool E.out.symm, ?_⟩
          repeat (first | exact hb'.out | refine below_drewN ?_ _ | refine Below.drew ?_ | refine Below.setCell ?_ (by first | omega | (simp <;> omega)) _ | refine Below.alloc ?_ (by first | omega | (simp <;> omega)) _)
        have d2 : decide (x.tt < x.fr) = false := decide_eq_false h2
        by_cases h3 : 2880 < x.tt
        · have E := Lib.hid (winB_bad k hlt (wokB_bad HX.out (by omega)))
          go_wp2
          go_quiet (fail)
          go_wp2
          go_ret
          refine ⟨ret_bool E.out.symm, ?_⟩
          repeat (first | exact hb'.out | refine below_drewN ?_ _ | refine Below.drew ?_ | refine Below.setCell ?_ (by first | omega | (simp <;> omega)) _ | refine Below.alloc ?_ (by first | omega | (simp <;> omega)) _)
        have d3 : decide (2880 < x.tt) = false := decide_eq_false h3
        have ok : 0 ≤ x.fr ∧ x.fr ≤ x.tt ∧ x.tt ≤ 2880 := by omega
        have OK := Lib.hid ok
        clear ok h1 h2 h3
        by_cases hk0 : k = 0
        · have FF := Lib.hid (hF.out.next (wokB_zero hk0 HX.out OK.out))
          have hd : decide (0 < k) = false := decide_eq_false (by omega)
          clear hk0
          go_wp2
          go_quiet (fail)
          go_wp2
          go_roundw
          case rel =>
            refine ⟨k + 1, by omega, by go_num, FF, Lib.hid ?_, ?_⟩
            · repeat (first | exact hb'.out | refine below_drewN ?_ _ | refine Below.drew ?_ | refine Below.setCell ?_ (by first | omega | (simp <;> omega)) _ | refine Below.alloc ?_ (by first | omega | (simp <;> omega)) _)
            · simp <;> omega
          case measure => simp [intOf]; omega
        obtain ⟨j, hj⟩ : ∃ j, k = j + 1 := ⟨k - 1, by omega⟩
        obtain ⟨y, hy⟩ : ∃ y, l[j]? = some y := ⟨_, List.getElem?_eq_getElem (by omega)⟩
        obtain ⟨_, r1⟩ := SlWindow.cells HC.out j y hy
        have y1 := (hb'.out.cell (p := ⟨g, o + j * 2 + 1, none⟩) hg).trans r1
        obtain ⟨t0, t1, t2⟩ := hF.out.time (show j < k by omega) hy
        have hw1 : IntKind.i64.wrap ((k : Int) - 1) = (j : Int) := by rw [IntWalk.i64_in _ (by omega)]; omega
        have hw2 : IntKind.i64.wrap (y.tt + 1) = y.tt + 1 := IntWalk.i64_in _ (by omega)
        have HE := Lib.hid (wokB_succ hj HX.out hy OK.out)
        have hd : decide (0 < k) = true := decide_eq_true (by omega)
        have hjl : j < l.length := by omega
        have HJ := Lib.hid hj
        clear hj hy r1 hk0 t0 t1 t2
        by_cases hyx : x.fr ≤ y.tt + 1
        · have hd2 : decide (x.fr ≤ y.tt + 1) = true := decide_eq_true hyx
          have E := Lib.hid (winB_bad k hlt (HE.out.trans (decide_eq_false (by omega))))
          go_wp2
          go_quiet (fail)
          go_wp2
          go_ret
          refine ⟨ret_bool E.out.symm, ?_⟩
          repeat (first | exact hb'.out | refine below_drewN ?_ _ | refine Below.drew ?_ | refine Below.setCell ?_ (by first | omega | (simp <;> omega)) _ | refine Below.alloc ?_ (by first | omega | (simp <;> omega)) _)
        · have hd2 : decide (x.fr ≤ y.tt + 1) = false := decide_eq_false hyx
          have FF := Lib.hid (hF.out.next (HE.out.trans (decide_eq_true (by omega))))
          go_wp2
          go_quiet (fail)
          go_wp2
          go_roundw
          case rel =>
            refine ⟨k + 1, by omega, by go_num, FF, Lib.hid ?_, ?_⟩
            · repeat (first | exact hb'.out | refine below_drewN ?_ _ | refine Below.drew ?_ | refine Below.setCell ?_ (by first | omega | (simp <;> omega)) _ | refine Below.alloc ?_ (by first | omega | (simp <;> omega)) _)
            · simp <;> omega
          case measure => simp [intOf]; omega
end Go.Proofs.Ytghjfcnboocmjaa
namespace Go.Proofs.Ytghjfcnboocmjaa
open Go.RowKit
def mvWindow (k : Int) (j : Nat) : Value := .int .i64 (k + (j : Int))
theorem markWindowSC_any (v : Value) (l : List WindowD) (k : Int) (w : World) (h : SlWindow w v l) (hfz : ∀ g, v.ownBlock = some g → ∀ j, w.frozen? ⟨g, j, none⟩ = false) (h0 : 0 ≤ k) (h1 : k ≤ 100000000) (h2 : l.length ≤ 10000000) :
    Calls Try.prog 40 #[v, .int .i64 k] w fun e w' => e = .returned (.int .i64 (k + (l.length : Int) * 2)) ∧ MarkedV w' v (l.length * 2) (mvWindow k) ∧ w.grownBy w' v.ownBlock :=
  markWindowS_any v l k w h hfz h0 h1 h2
theorem heldWindowSC_any (v : Value) (len : Nat) (A : Option Addr) (c : Nat) (hv : v = .slice A len c) (k : Int) (w : World) (h : MarkedV w v (len * 2) (mvWindow k)) (h0 : 0 ≤ k) (h1 : k ≤ 100000000) (h2 : len ≤ 10000000) :
    Calls Try.prog 41 #[v, .int .i64 k] w fun e w' => e = .returned (.int .i64 (k + (len : Int) * 2)) ∧ Below w.heap.size w w' :=
  (heldWindowS_any v len A c hv k w h h0 h1 h2).mono fun _ _ ⟨he, hw⟩ => ⟨he, hw ▸ Below.refl _ _⟩
end Go.Proofs.Ytghjfcnboocmjaa
namespace Go.Proofs.Ytghjfcnboocmjaa
open Go.RowKit
set_option maxRecDepth 100000
theorem l01Once_any (p : Nat) (n : Int) (w : World) (h0 : 0 < n) (h1 : n ≤ 1000000) (hcur : Cursor w p) :
    Calls Try.prog 99 #[.pointer (some ⟨p, 0, none⟩), .int .i64 n] w fun e w' => ∃ b : Bool, e = .returned (.bool b) ∧ Cursor w' p ∧ w.grownBy w' (some p) := by
  have C := Lib.hid (l01Below_any p n w h0 h1 hcur)
  clear hcur
  go_enter Try.func99, Try.ntmps99
  go_wp2_with fail
  refine C.out.mono ?_
  rintro e w1 ⟨x, rfl, x0, x1, hc1, hg1⟩
  have HC := Lib.hid hc1
  have HG := Lib.hid hg1
  clear hc1 hg1
  go_wp2
  go_ret
  exact ⟨_, rfl, HC.out, HG.out⟩
section
variable {α : Type} {k : Nat} {cs : α → List Value} {t : TypeId}
end
end Go.Proofs.Ytghjfcnboocmjaa
namespace Go.Proofs.Ytghjfcnboocmjaa
open Go.RowKit
variable {α : Type} {k : Nat} {cs : α → List Value} {t : TypeId}
/-- The value v is a list over memory that is new since w; what w held is as it was. -/
def GathO (k : Nat) (cs : α → List Value) (t : TypeId) (w : World) (v : Value) (acc : List α) (wr : World) : Prop := OwnOf k cs t wr w.heap.size v acc ∧ Below w.heap.size w wr
theorem GathO.size {w wr : World} {v : Value} {acc : List α} (h : GathO k cs t w v acc wr) : w.heap.size ≤ wr.heap.size := h.2.size
theorem GathO.empty {w wr : World} (hb : Below w.heap.size w wr) : GathO k cs t w (.slice none 0 0) [] wr := ⟨⟨by simp, .inl ⟨rfl, rfl⟩⟩, hb⟩
theorem GathO.made {w wr : World} (hb : Below w.heap.size w wr) : GathO k cs t w (.slice (some ⟨wr.heap.size, 0, none⟩) 0 0) [] (wr.alloc (.cells #[] t)) :=
  ⟨⟨by simp, .inr ⟨wr.heap.size, 0, #[], rfl, hb.size, heap_alloc_new wr _, Nat.le_refl _, by omega, by simp, by simp⟩⟩, hb.alloc hb.size _⟩
theorem GathO.below {w wr W : World} {v : Value} {acc : List α} (h : GathO k cs t w v acc wr) (hb : Below wr.heap.size wr W) : GathO k cs t w v acc W :=
  ⟨own_below h.1 hb, h.2.trans (hb.mono h.size)⟩
theorem GathO.next {w W w4 : World} {v : Value} {acc : List α} {x : α} {g4 cap4 : Nat} (h : GathO k cs t w v acc W)
    (hown : w4.ownsRow w.heap.size t k (.slice (some ⟨g4, 0, none⟩) (acc.length + 1) cap4) (acc.length + 1) (acc.flatMap cs ++ cs x)) (hgr : W.grownBy w4 v.ownBlock) :
    GathO k cs t w (.slice (some ⟨g4, 0, none⟩) (acc.length + 1) cap4) (acc ++ [x]) w4 := by
  refine ⟨?_, h.2.grown hgr h.size (fun b hb => (World.ownsRow.lt h.1 b hb).1)⟩
  simpa [OwnOf] using hown
theorem GathO.form {w wr : World} {v : Value} {acc : List α} (h : GathO k cs t w v acc wr) : ∃ A c, v = .slice A acc.length c := own_form h.1
end Go.Proofs.Ytghjfcnboocmjaa
