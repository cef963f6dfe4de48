
/- What ExactIsSafePassage and ExactSailRoute and ExactFirstSail rests on, part 11: contracts and mathematics. -/
import Derived.Test.YtooeikimoheecaaGreatGr10
import Derived.Deep.AppendLies
import Derived.Test.YtooeikimoheecaaGreatGr7
import Derived.Deep.RegionHeld3
namespace Go.Proofs.YtooeikimoheecaaGreat
open Go.RowKit
set_option maxRecDepth 100000
def atB (t : Int) (x : WindowD) : Bool := inB t x.fr x.tt
def hasB (l : List WindowD) (t : Int) : Bool := l.any (atB t)
/-- None of the first k windows holds the minute. -/
def FirstN (l : List WindowD) (t : Int) (k : Nat) : Prop := ∀ x ∈ l.take k, atB t x = false
theorem FirstN.zero {l : List WindowD} {t : Int} {z : Nat} (hz : z = 0 := by simp) : FirstN l t z := by subst hz; intro x hx; simp at hx
theorem FirstN.next {l : List WindowD} {t : Int} {k : Nat} {x : WindowD} (h : FirstN l t k) (hx : l[k]? = some x) (hp : atB t x = false) : FirstN l t (k + 1) := by
  intro y hy
  rw [take_snoc' l k x hx, List.mem_append, List.mem_singleton] at hy
  rcases hy with hy | rfl
  · exact h y hy
  · exact hp
theorem hasB_no {l : List WindowD} {t : Int} (h : FirstN l t l.length) : hasB l t = false := by
  unfold hasB
  rw [List.any_eq_false]
  intro x hx
  have := h x (by rw [List.take_length]; exact hx)
  simp [this]
theorem hasB_yes {l : List WindowD} {t : Int} {k : Nat} {x : WindowD} (hx : l[k]? = some x) (hp : atB t x = true) : hasB l t = true := by
  unfold hasB
  rw [List.any_eq_true]
  exact ⟨x, List.mem_of_getElem? hx, hp⟩
set_option maxHeartbeats 2000000 in
theorem hasClosure (x : WindowD) (t : Int) (B : Nat) (w : World) (hB : B < w.heap.size) (hc : w.cell? ⟨B, 0, none⟩ = some (.int .i64 t)) :
    Calls Tryz.prog 101 #[.agg #[.int .i64 x.fr, .int .i64 x.tt], .pointer (some ⟨B, 0, none⟩)] w fun e w' => e = .returned (.bool (atB t x)) ∧ Below w.heap.size w w' := by
  have hne : B ≠ w.heap.size := by omega
  have EB : Hid (atB t x = (decide (x.fr ≤ t) && decide (t ≤ x.tt))) := Lib.hid (by unfold atB inB; simp [Bool.decide_and])
  by_cases h1 : x.fr ≤ t
  · by_cases h2 : t ≤ x.tt
    · have E : Hid (atB t x = true) := Lib.hid (by rw [EB.out]; simp [h1, h2])
      go_enter Tryz.func101, Tryz.ntmps101
      go_wp2
      go_ret
      exact ⟨ret_bool E.out.symm, Joins.below_alloc1 w _⟩
    · have E : Hid (atB t x = false) := Lib.hid (by rw [EB.out]; simp [h2])
      go_enter Tryz.func101, Tryz.ntmps101
      go_wp2
      go_ret
      exact ⟨ret_bool E.out.symm, Joins.below_alloc1 w _⟩
  · have E : Hid (atB t x = false) := Lib.hid (by rw [EB.out]; simp [h1])
    go_enter Tryz.func101, Tryz.ntmps101
    go_wp2
    go_ret
    exact ⟨ret_bool E.out.symm, Joins.below_alloc1 w _⟩
/-- What the search leaves: a place, or -1. -/
def IdxPost (l : List WindowD) (t : Int) (w : World) (e : Ending) (w' : World) : Prop := ∃ r : Int, e = .returned (.int .i64 r) ∧ decide (0 ≤ r) = hasB l t ∧ Below w.heap.size w w'
set_option maxHeartbeats 4000000 in
theorem hasIndex (v : Value) (l : List WindowD) (t : Int) (B : Nat) (w : World) (h : SlWindow w v l) (hB : B < w.heap.size) (hc : w.cell? ⟨B, 0, none⟩ = some (.int .i64 t)) :
    Calls Tryz.prog 120 #[v, .func (.func 101) #[] #[.pointer (some ⟨B, 0, none⟩)]] w (IdxPost l t w) := by
  have HB := Lib.hid hc
  clear hc
  obtain ⟨hl, h⟩ := h
  rcases h with ⟨rfl, A, c, rfl⟩ | ⟨g, o, c, rfl, hp, hcap, hc⟩
  · go_enter Tryz.func120, Tryz.ntmps120
    go_wp2
    refine wp_loop_rounds 1 ?_
    rw [rounds_succ]
    go_wp2
    go_ret
    exact ⟨-1, rfl, rfl, Below.refl _ _⟩
  · have HC := Lib.hid hc
    clear hc
    go_enter Tryz.func120, Tryz.ntmps120
    go_wp2
    go_loopw [5, 8] (fun _ i wr => ∃ k : Nat, k ≤ l.length ∧ i = .int .i64 k ∧ Hid (FirstN l t k) ∧ Hid (Below w.heap.size w wr) ∧ w.heap.size ≤ wr.heap.size) (fun _ i _ => l.length - (intOf i).toNat)
    case atStart => exact ⟨0, Nat.zero_le _, rfl, Lib.hid FirstN.zero, Lib.hid (Below.refl _ _), Nat.le_refl _⟩
    case round =>
      obtain ⟨k, hk, rfl, hN, hb', hsz⟩ := hrel
      by_cases hlt : k < l.length
      rotate_left
      · obtain rfl : k = l.length := by omega
        have E := Lib.hid (hasB_no hN.out)
        go_wp2
        go_ret
        exact ⟨-1, rfl, by rw [E.out]; rfl, hb'.out⟩
      · obtain ⟨x, hx⟩ : ∃ x, l[k]? = some x := ⟨_, List.getElem?_eq_getElem hlt⟩
        obtain ⟨p0, p1⟩ := SlWindow.cells HC.out k x hx
        have hg : g < w.heap.size := World.block_lt_of_cell? w ⟨g, o + k * 2, none⟩ p0
        have a0 := (hb'.out.cell (p := ⟨g, o + k * 2, none⟩) hg).trans p0
        have a1 := (hb'.out.cell (p := ⟨g, o + k * 2 + 1, none⟩) hg).trans p1
        have HX := Lib.hid hx
        have hgr : g < wr.heap.size := by omega
        have HBW := Lib.hid ((hb'.out.cell (p := ⟨B, 0, none⟩) hB).trans HB.out)
        clear p0 p1 hx
        have HCL := fun W h1 h2 => Lib.hid (hasClosure x t B W h1 h2)
        cases hq : atB t x with
        | true =>
          have E := Lib.hid (hasB_yes HX.out hq)
          rw [hq] at HCL
          clear hq
          go_wp2_with fail
          refine (HCL _ (by omega) HBW.out).out.mono ?_
          rintro e w1 ⟨rfl, hb1⟩
          have B1 := Lib.hid (hb'.out.trans (hb1.mono hsz))
          clear hb1
          go_wp2
          go_ret
          exact ⟨k, rfl, by rw [E.out]; simp, B1.out⟩
        | false =>
          have HN2 := Lib.hid (hN.out.next HX.out hq)
          rw [hq] at HCL
          clear hq
          go_wp2_with fail
          refine (HCL _ (by omega) HBW.out).out.mono ?_
          rintro e w1 ⟨rfl, hb1⟩
          have B1 := Lib.hid (hb'.out.trans (hb1.mono hsz))
          have hz1 := hb1.size
          clear hb1
          go_wp2
          go_roundw
          case rel => exact ⟨k + 1, by omega, by go_num, HN2, B1, by omega⟩
          case measure => simp [intOf]; omega
set_option maxHeartbeats 2000000 in
theorem hasContains (v : Value) (l : List WindowD) (t : Int) (B : Nat) (w : World) (h : SlWindow w v l) (hB : B < w.heap.size) (hc : w.cell? ⟨B, 0, none⟩ = some (.int .i64 t)) :
    Calls Tryz.prog 100 #[v, .func (.func 101) #[] #[.pointer (some ⟨B, 0, none⟩)]] w fun e w' => e = .returned (.bool (hasB l t)) ∧ Below w.heap.size w w' := by
  have HI := Lib.hid (hasIndex v l t B w h hB hc)
  obtain ⟨A, c, rfl⟩ := h.at
  clear h hc
  go_enter Tryz.func100, Tryz.ntmps100
  go_wp2_with fail
  refine HI.out.mono ?_
  rintro e w1 ⟨r, rfl, hr, hb1⟩
  have B1 := Lib.hid hb1
  have HR := Lib.hid hr
  clear hb1 hr
  go_wp2
  go_ret
  exact ⟨ret_bool HR.out, B1.out⟩
set_option maxHeartbeats 2000000 in
theorem implHasMinute (v : Value) (l : List WindowD) (t : Int) (w : World) (h : SlWindow w v l) :
    Calls Tryz.prog 76 #[v, .int .i64 t] w fun e w' => e = .returned (.bool (hasB l t)) ∧ Below w.heap.size w w' := by
  have hal := Joins.below_alloc1 w (.cells #[.int .i64 t] 3)
  have HI := Lib.hid (hasContains v l t w.heap.size _ (h.below hal) (by simp) (by simp))
  have B0 := Lib.hid hal
  obtain ⟨A, c, rfl⟩ := h.at
  clear h hal
  go_enter Tryz.func76, Tryz.ntmps76
  go_wp2_with fail
  refine HI.out.mono ?_
  rintro e w1 ⟨rfl, hb1⟩
  have B1 := Lib.hid (B0.out.trans (hb1.mono B0.out.size))
  clear hb1
  go_wp2
  go_ret
  exact ⟨rfl, B1.out⟩
set_option maxHeartbeats 4000000 in
theorem specHasMinute (v : Value) (l : List WindowD) (t : Int) (w : World) (h : SlWindow w v l) :
    Calls Tryz.prog 65 #[v, .int .i64 t] w fun e w' => e = .returned (.bool (hasB l t)) ∧ Below w.heap.size w w' := by
  obtain ⟨hl, h⟩ := h
  rcases h with ⟨rfl, A, c, rfl⟩ | ⟨g, o, c, rfl, hp, hcap, hc⟩
  · go_enter Tryz.func65, Tryz.ntmps65
    go_wp2
    refine wp_loop_rounds 1 ?_
    rw [rounds_succ]
    go_wp2
    go_ret
    exact ⟨rfl, Below.refl _ _⟩
  · have HC := Lib.hid hc
    clear hc
    go_enter Tryz.func65, Tryz.ntmps65
    go_wp2
    go_loopw [9] (fun i wr => ∃ k : Nat, k ≤ l.length ∧ i = .int .i64 k ∧ Hid (FirstN l t k) ∧ Hid (Below w.heap.size w wr) ∧ w.heap.size ≤ wr.heap.size) (fun i _ => l.length - (intOf i).toNat)
    case atStart => exact ⟨0, Nat.zero_le _, rfl, Lib.hid FirstN.zero, Lib.hid (Below.refl _ _), Nat.le_refl _⟩
    case round =>
      obtain ⟨k, hk, rfl, hN, hb', hsz⟩ := hrel
      by_cases hlt : k < l.length
      rotate_left
      · obtain rfl : k = l.length := by omega
        have E := Lib.hid (hasB_no hN.out)
        go_wp2
        go_ret
        exact ⟨ret_bool E.out.symm, hb'.out⟩
      · obtain ⟨x, hx⟩ : ∃ x, l[k]? = some x := ⟨_, List.getElem?_eq_getElem hlt⟩
        obtain ⟨p0, p1⟩ := SlWindow.cells HC.out k x hx
        have hg : g < w.heap.size := World.block_lt_of_cell? w ⟨g, o + k * 2, none⟩ p0
        have a0 := (hb'.out.cell (p := ⟨g, o + k * 2, none⟩) hg).trans p0
        have a1 := (hb'.out.cell (p := ⟨g, o + k * 2 + 1, none⟩) hg).trans p1
        have HX := Lib.hid hx
        have hgr : g < wr.heap.size := by omega
        have hW1 := Lib.hid (hb'.out.alloc hsz (.cells #[.int .i64 x.fr, .int .i64 x.tt] 145))
        clear p0 p1 hx
        cases hq : atB t x with
        | true =>
          have E := Lib.hid (hasB_yes HX.out hq)
          have HQ := Lib.hid (show inB t x.fr x.tt = true from hq)
          clear hq
          go_wp2_with fail
          refine (l01In_any _ _ _ _).mono ?_
          rw [HQ.out]
          rintro e w1 ⟨rfl, rfl⟩
          go_wp2
          go_ret
          exact ⟨ret_bool E.out.symm, hW1.out⟩
        | false =>
          have HN2 := Lib.hid (hN.out.next HX.out hq)
          have HQ := Lib.hid (show inB t x.fr x.tt = false from hq)
          clear hq
          go_wp2_with fail
          refine (l01In_any _ _ _ _).mono ?_
          rw [HQ.out]
          rintro e w1 ⟨rfl, rfl⟩
          go_wp2
          go_roundw
          case rel => exact ⟨k + 1, by omega, by go_num, HN2, hW1, by simp; omega⟩
          case measure => simp [intOf]; omega
end Go.Proofs.YtooeikimoheecaaGreat
namespace Go.Proofs.YtooeikimoheecaaGreat
open Go.RowKit
set_option maxRecDepth 100000
theorem window_one (x : WindowD) : ∀ v ∈ x.cells, v.oneCell' = true := fun v hv => by simp at hv; rcases hv with rfl | rfl <;> rfl
/-- The value v is a list of windows over memory that is new since w; what w held is as it was. -/
def GathW (w : World) (v : Value) (acc : List WindowD) (wr : World) : Prop := OwnWindow wr w.heap.size v acc ∧ Below w.heap.size w wr
theorem GathW.size {w wr : World} {v : Value} {acc : List WindowD} (h : GathW w v acc wr) : w.heap.size ≤ wr.heap.size := h.2.size
theorem GathW.empty {w wr : World} (hb : Below w.heap.size w wr) : GathW w (.slice none 0 0) [] wr := ⟨⟨by simp, .inl ⟨rfl, rfl⟩⟩, hb⟩
/-- An empty list over a new block of no cells. -/
theorem GathW.made {w wr : World} (hb : Below w.heap.size w wr) : GathW w (.slice (some ⟨wr.heap.size, 0, none⟩) 0 0) [] (wr.alloc (.cells #[] 145)) :=
  ⟨⟨by simp, .inr ⟨wr.heap.size, 0, #[], rfl, hb.size, heap_alloc_new wr _, Nat.le_refl _, by omega, by simp, by simp⟩⟩, hb.alloc hb.size _⟩
theorem GathW.below {w wr W : World} {v : Value} {acc : List WindowD} (h : GathW w v acc wr) (hb : Below wr.heap.size wr W) : GathW w v acc W :=
  ⟨own_below h.1 hb, h.2.trans (hb.mono h.size)⟩
theorem GathW.next {w W w4 : World} {v : Value} {acc : List WindowD} {x : WindowD} {g4 cap4 : Nat} (h : GathW w v acc W)
    (hown : w4.ownsRow w.heap.size 145 2 (.slice (some ⟨g4, 0, none⟩) (acc.length + 1) cap4) (acc.length + 1) (acc.flatMap WindowD.cells ++ x.cells)) (hgr : W.grownBy w4 v.ownBlock) :
    GathW w (.slice (some ⟨g4, 0, none⟩) (acc.length + 1) cap4) (acc ++ [x]) w4 := by
  refine ⟨?_, h.2.grown hgr h.size (fun k hk => (World.ownsRow.lt h.1 k hk).1)⟩
  simpa [OwnWindow, OwnOf] using hown
theorem GathW.new {w wr : World} {v : Value} {acc R : List WindowD} (h : GathW w v acc wr) (e : R = acc) : NewWindow R w (.returned v) wr := by
  subst e
  exact ⟨v, rfl, h.1, h.2⟩
theorem GathW.form {w wr : World} {v : Value} {acc : List WindowD} (h : GathW w v acc wr) : ∃ A c, v = .slice A acc.length c := own_form h.1
theorem NewWindow.empty {w w' : World} {R : List WindowD} (hb : Below w.heap.size w w') (e : R = []) : NewWindow R w (.returned (.slice none 0 0)) w' := (GathW.empty hb).new e
end Go.Proofs.YtooeikimoheecaaGreat
namespace Go.Proofs.YtooeikimoheecaaGreat
open Go.RowKit
set_option maxRecDepth 100000
def nextI (l : List WindowD) (t : Int) : Int := if winB l then (match l.find? (fun x => decide (t ≤ x.tt)) with | some x => max t x.fr | none => -1) else -1
/-- The first k windows end before a minute. -/
def FirstE (l : List WindowD) (t : Int) (k : Nat) : Prop := ∀ x ∈ l.take k, x.tt < t
theorem FirstE.next {l : List WindowD} {t : Int} {k : Nat} {x : WindowD} (h : FirstE l t k) (hx : l[k]? = some x) (hp : x.tt < t) : FirstE l t (k + 1) := by
  intro y hy
  rw [take_snoc' l k x hx, List.mem_append, List.mem_singleton] at hy
  rcases hy with hy | rfl
  · exact h y hy
  · exact hp
theorem nextI_bad {l : List WindowD} {t : Int} (h : winB l = false) : nextI l t = -1 := by unfold nextI; rw [h]; rfl
theorem nextI_none {l : List WindowD} {t : Int} (h : winB l = true) (hF : FirstE l t l.length) : nextI l t = -1 := by
  unfold nextI
  rw [h, List.find?_eq_none.2 (fun x hx => by have := hF x (by rw [List.take_length]; exact hx); simp; omega)]
  rfl
theorem nextI_at {l : List WindowD} {t : Int} {k : Nat} {x : WindowD} (h : winB l = true) (hF : FirstE l t k) (hx : l[k]? = some x) (hp : t ≤ x.tt) : nextI l t = max t x.fr := by
  have hk : k < l.length := (List.getElem?_eq_some_iff.1 hx).1
  have e : l = l.take k ++ (x :: l.drop (k + 1)) := by
    rw [← (List.getElem?_eq_some_iff.1 hx).2, List.getElem_cons_drop, List.take_append_drop]
  have hn : (l.take k).find? (fun x => decide (t ≤ x.tt)) = none := List.find?_eq_none.2 (fun y hy => by have := hF y hy; simp; omega)
  have e2 : l.find? (fun x => decide (t ≤ x.tt)) = some x := by
    rw [e, List.find?_append, hn, List.find?_cons_of_pos (by simpa using hp)]
    rfl
  unfold nextI
  rw [h, e2]
  rfl
set_option maxHeartbeats 4000000 in
theorem implNextMinute (v : Value) (l : List WindowD) (t : Int) (w : World) (h : SlWindow w v l) :
    Calls Tryz.prog 88 #[v, .int .i64 t] w fun e w' => e = .returned (.int .i64 (nextI l t)) ∧ Below w.heap.size w w' := by
  have H := Lib.hid h
  cases hok : winB l with
  | false =>
    have E := Lib.hid (nextI_bad (l := l) (t := t) hok)
    have HOK := Lib.hid hok
    obtain ⟨A, c, rfl⟩ := h.at
    clear hok h
    go_enter Tryz.func88, Tryz.ntmps88
    go_wp2_with fail
    refine (implWindowsOk _ l _ H.out).mono ?_
    rw [HOK.out]
    rintro e w1 ⟨rfl, hb1⟩
    have B1 := Lib.hid hb1
    clear hb1
    go_wp2
    go_ret
    exact ⟨ret_int E.out.symm, B1.out⟩
  | true =>
    have HF := Lib.hid (winB_true hok)
    have HOK := Lib.hid hok
    clear hok
    obtain ⟨hl, h⟩ := h
    rcases h with ⟨rfl, A, c, rfl⟩ | ⟨g, o, c, rfl, hp, hcap, hc⟩
    · have E := Lib.hid (nextI_none (l := []) (t := t) HOK.out (fun x hx => absurd hx (by simp)))
      go_enter Tryz.func88, Tryz.ntmps88
      go_wp2_with fail
      refine (implWindowsOk _ [] _ H.out).mono ?_
      rw [HOK.out]
      rintro e w1 ⟨rfl, hb1⟩
      have B1 := Lib.hid hb1
      clear hb1
      go_wp2
      refine wp_loop_rounds 1 ?_
      rw [rounds_succ]
      go_wp2
      go_ret
      exact ⟨ret_int E.out.symm, B1.out⟩
    · have HC := Lib.hid hc
      clear hc
      go_enter Tryz.func88, Tryz.ntmps88
      go_wp2_with fail
      refine (implWindowsOk _ l _ H.out).mono ?_
      rw [HOK.out]
      rintro e w1 ⟨rfl, hb1⟩
      have B1 := Lib.hid hb1
      have hz1 := hb1.size
      clear hb1
      go_wp2
      go_loopw [12] (fun i wr => ∃ k : Nat, k ≤ l.length ∧ i = .int .i64 k ∧ Hid (FirstE l t k) ∧ Hid (Below w.heap.size w wr) ∧ w.heap.size ≤ wr.heap.size) (fun i _ => l.length - (intOf i).toNat)
      case atStart => exact ⟨0, Nat.zero_le _, rfl, Lib.hid (fun x hx => absurd hx (by simp)), B1, hz1⟩
      case round =>
        obtain ⟨k, hk, rfl, hE, hb', hsz⟩ := hrel
        by_cases hlt : k < l.length
        rotate_left
        · obtain rfl : k = l.length := by omega
          have E := Lib.hid (nextI_none (l := l) (t := t) HOK.out hE.out)
          go_wp2
          go_ret
          exact ⟨ret_int E.out.symm, hb'.out⟩
        · obtain ⟨x, hx⟩ : ∃ x, l[k]? = some x := ⟨_, List.getElem?_eq_getElem hlt⟩
          obtain ⟨p0, p1⟩ := SlWindow.cells HC.out k x hx
          have hg : g < w.heap.size := World.block_lt_of_cell? w ⟨g, o + k * 2, none⟩ p0
          have a0 := (hb'.out.cell (p := ⟨g, o + k * 2, none⟩) hg).trans p0
          have a1 := (hb'.out.cell (p := ⟨g, o + k * 2 + 1, none⟩) hg).trans p1
          have HX := Lib.hid hx
          obtain ⟨t0, t1, t2⟩ := HF.out.time hlt hx
          have hgr : g < wr.heap.size := by omega
          clear p0 p1 hx
          by_cases ht : t ≤ x.tt
          · have E := Lib.hid (nextI_at HOK.out hE.out HX.out ht)
            go_wp2
            all_goals
              go_ret
              refine ⟨ret_int (E.out.trans (by omega)).symm, ?_⟩
              repeat (first | exact hb'.out | refine below_drewN ?_ _ | refine Below.drew ?_ | refine Below.setCell ?_ (by first | omega | (simp <;> omega)) _ | refine Below.alloc ?_ (by first | omega | (simp <;> omega)) _)
          · have E := Lib.hid (hE.out.next HX.out (by omega))
            go_wp2
            go_roundw
            case rel =>
              refine ⟨k + 1, by omega, by go_num, E, Lib.hid ?_, ?_⟩
              · repeat (first | exact hb'.out | refine below_drewN ?_ _ | refine Below.drew ?_ | refine Below.setCell ?_ (by first | omega | (simp <;> omega)) _ | refine Below.alloc ?_ (by first | omega | (simp <;> omega)) _)
              · simp <;> omega
            case measure => simp [intOf]; omega
set_option maxHeartbeats 4000000 in
theorem specNextMinute (v : Value) (l : List WindowD) (t : Int) (w : World) (h : SlWindow w v l) :
    Calls Tryz.prog 87 #[v, .int .i64 t] w fun e w' => e = .returned (.int .i64 (nextI l t)) ∧ Below w.heap.size w w' := by
  have H := Lib.hid h
  cases hok : winB l with
  | false =>
    have E := Lib.hid (nextI_bad (l := l) (t := t) hok)
    have HOK := Lib.hid hok
    obtain ⟨A, c, rfl⟩ := h.at
    clear hok h
    go_enter Tryz.func87, Tryz.ntmps87
    go_wp2_with fail
    refine (specWindowsOk _ l _ H.out).mono ?_
    rw [HOK.out]
    rintro e w1 ⟨rfl, hb1⟩
    have B1 := Lib.hid hb1
    clear hb1
    go_wp2
    go_ret
    exact ⟨ret_int E.out.symm, B1.out⟩
  | true =>
    have HF := Lib.hid (winB_true hok)
    have HOK := Lib.hid hok
    clear hok
    obtain ⟨hl, h⟩ := h
    rcases h with ⟨rfl, A, c, rfl⟩ | ⟨g, o, c, rfl, hp, hcap, hc⟩
    · have E := Lib.hid (nextI_none (l := []) (t := t) HOK.out (fun x hx => absurd hx (by simp)))
      go_enter Tryz.func87, Tryz.ntmps87
      go_wp2_with fail
      refine (specWindowsOk _ [] _ H.out).mono ?_
      rw [HOK.out]
      rintro e w1 ⟨rfl, hb1⟩
      have B1 := Lib.hid hb1
      clear hb1
      go_wp2
      refine wp_loop_rounds 1 ?_
      rw [rounds_succ]
      go_wp2
      go_ret
      exact ⟨ret_int E.out.symm, B1.out⟩
    · have HC := Lib.hid hc
      clear hc
      go_enter Tryz.func87, Tryz.ntmps87
      go_wp2_with fail
      refine (specWindowsOk _ l _ H.out).mono ?_
      rw [HOK.out]
      rintro e w1 ⟨rfl, hb1⟩
      have B1 := Lib.hid hb1
      have hz1 := hb1.size
      clear hb1
      go_wp2
      go_loopw [12] (fun i wr => ∃ k : Nat, k ≤ l.length ∧ i = .int .i64 k ∧ Hid (FirstE l t k) ∧ Hid (Below w.heap.size w wr) ∧ w.heap.size ≤ wr.heap.size) (fun i _ => l.length - (intOf i).toNat)
      case atStart => exact ⟨0, Nat.zero_le _, rfl, Lib.hid (fun x hx => absurd hx (by simp)), B1, hz1⟩
      case round =>
        obtain ⟨k, hk, rfl, hE, hb', hsz⟩ := hrel
        by_cases hlt : k < l.length
        rotate_left
        · obtain rfl : k = l.length := by omega
          have E := Lib.hid (nextI_none (l := l) (t := t) HOK.out hE.out)
          go_wp2
          go_ret
          exact ⟨ret_int E.out.symm, hb'.out⟩
        · obtain ⟨x, hx⟩ : ∃ x, l[k]? = some x := ⟨_, List.getElem?_eq_getElem hlt⟩
          obtain ⟨p0, p1⟩ := SlWindow.cells HC.out k x hx
          have hg : g < w.heap.size := World.block_lt_of_cell? w ⟨g, o + k * 2, none⟩ p0
          have a0 := (hb'.out.cell (p := ⟨g, o + k * 2, none⟩) hg).trans p0
          have a1 := (hb'.out.cell (p := ⟨g, o + k * 2 + 1, none⟩) hg).trans p1
          have HX := Lib.hid hx
          obtain ⟨t0, t1, t2⟩ := HF.out.time hlt hx
          have hgr : g < wr.heap.size := by omega
          clear p0 p1 hx
          by_cases ht : t ≤ x.tt
          · have E := Lib.hid (nextI_at HOK.out hE.out HX.out ht)
            go_wp2
            all_goals
              go_ret
              refine ⟨ret_int (E.out.trans (by omega)).symm, ?_⟩
              repeat (first | exact hb'.out | refine below_drewN ?_ _ | refine Below.drew ?_ | refine Below.setCell ?_ (by first | omega | (simp <;> omega)) _ | refine Below.alloc ?_ (by first | omega | (simp <;> omega)) _)
          · have E := Lib.hid (hE.out.next HX.out (by omega))
            go_wp2
            go_roundw
            case rel =>
              refine ⟨k + 1, by omega, by go_num, E, Lib.hid ?_, ?_⟩
              · repeat (first | exact hb'.out | refine below_drewN ?_ _ | refine Below.drew ?_ | refine Below.setCell ?_ (by first | omega | (simp <;> omega)) _ | refine Below.alloc ?_ (by first | omega | (simp <;> omega)) _)
              · simp <;> omega
            case measure => simp [intOf]; omega
end Go.Proofs.YtooeikimoheecaaGreat
namespace Go.Proofs.YtooeikimoheecaaGreat
open Go.ChangeShapes Go.WideShapes Go.ChangeAt Go.Deep Go.RowKit
set_option maxRecDepth 100000
/-- Two slices in different blocks. -/
def Apart (v u : Value) : Prop := ∀ g, v.ownBlock = some g → u.ownBlock ≠ some g
theorem toTide_own (m : Int) (v : Value) (l : List PartD) (w : World) (h : SlP w v l) :
    Calls Tryz.prog 36 #[.agg #[.int .i64 m, v]] w fun e w' => ∃ v', e = .returned (.agg #[.int .i64 m, v']) ∧ OwnP w' w.heap.size v' l ∧ Below w.heap.size w w' := by
  have H := Lib.hid h
  have hl := h.1
  obtain ⟨A, c, rfl⟩ := h.at
  clear h
  go_enter Tryz.func36, Tryz.ntmps36
  go_wp2_with fail
  refine (toPartS_any _ l _ (H.out.below ?_)).mono ?_
  · repeat (first | exact Below.refl _ _ | refine Below.setCell ?_ (by simp <;> omega) _ | refine Below.alloc ?_ (by simp <;> omega) _)
  rintro e w1 ⟨v1, rfl, ho, hb⟩
  obtain ⟨A1, c1, rfl⟩ := own_form ho
  have S1 := Lib.hid ho
  obtain ⟨hc, hf⟩ := bcell hb
  have hz : w.heap.size + 2 < w1.heap.size := by have := hb.size; simp at this; omega
  clear ho
  go_wp2
  refine bodyPost_ret (v := .agg #[.int .i64 m, .slice A1 l.length c1]) (by simp [results, Tryz.results36, go_sem, hc]) rfl ⟨_, rfl, ?_, ?_⟩
  · refine own_lo (base := w.heap.size + 3) ?_ (by omega)
    repeat (first | exact Joins.ownsRow_le S1.out (by simp) | refine set_under ?_ (by simp <;> omega) _)
  · repeat (first | exact Below.refl _ _ | refine Below.setCell ?_ (by simp <;> omega) _ | refine Below.alloc ?_ (by simp <;> omega) _ | refine Below.trans ?_ (hb.mono (by simp <;> omega)))
/-- What toForecast leaves: a forecast over two new lists. -/
def NewFc (m : Int) (l : List PartD) (s : List SurgeD) (w : World) (e : Ending) (w' : World) : Prop :=
  ∃ v u, e = .returned (.agg #[.int .i64 m, v, u]) ∧ OwnP w' w.heap.size v l ∧ OwnSurge w' w.heap.size u s ∧ Apart v u ∧ Below w.heap.size w w'
set_option maxHeartbeats 1000000 in
theorem toForecast_any (m : Int) (v u : Value) (l : List PartD) (s : List SurgeD) (w : World) (h : SlP w v l) (h' : SlSurge w u s) :
    Calls Tryz.prog 10 #[.agg #[.int .i64 m, v, u]] w (NewFc m l s w) := by
  have H := Lib.hid h
  have H' := Lib.hid h'
  obtain ⟨A, c, rfl⟩ := h.at
  obtain ⟨A', c', rfl⟩ := h'.at
  clear h h'
  go_enter Tryz.func10, Tryz.ntmps10
  go_wp2_with fail
  refine (toTide_own m _ l _ (H.out.below ?_)).mono ?_
  · repeat (first | exact Below.refl _ _ | refine Below.setCell ?_ (by simp <;> omega) _ | refine Below.alloc ?_ (by simp <;> omega) _)
  rintro e w1 ⟨v1, rfl, ho, hb⟩
  obtain ⟨A1, c1, rfl⟩ := own_form ho
  have S1 := Lib.hid (own_lo ho (base' := w.heap.size + 3) (by simp))
  have L1 := Lib.hid (World.ownsRow.lt ho)
  obtain ⟨hc, hf⟩ := bcell hb
  have hz : w.heap.size + 2 < w1.heap.size := by have := hb.size; simp at this; omega
  have hz1 : w.heap.size + 1 < w1.heap.size := by omega
  have B1 : Hid (Below w.heap.size w w1) := by
    refine Lib.hid ?_
    repeat (first | exact Below.refl _ _ | refine Below.setCell ?_ (by simp <;> omega) _ | refine Below.alloc ?_ (by simp <;> omega) _ | refine Below.trans ?_ (hb.mono (by simp <;> omega)))
  clear ho
  go_wp2_with fail
  refine (toSurgeS_any _ s _ (H'.out.below ?_)).mono ?_
  · repeat (first | exact B1.out | refine Below.setCell ?_ (by simp <;> omega) _ | refine Below.alloc ?_ (by simp <;> omega) _)
  rintro e w2 ⟨v2, rfl, ho2, hb2⟩
  obtain ⟨A2, c2, rfl⟩ := own_form ho2
  have S2 := Lib.hid (own_lo ho2 (base' := w.heap.size + 3) (by simp; omega))
  have L2 := Lib.hid (World.ownsRow.lt ho2)
  obtain ⟨hc2, hf2⟩ := bcell hb2
  have hz2 : w1.heap.size ≤ w2.heap.size := by have := hb2.size; simp at this; omega
  clear ho2
  go_wp2
  refine bodyPost_ret (v := .agg #[.int .i64 m, .slice A1 l.length c1, .slice A2 s.length c2]) (by simp [results, Tryz.results10, go_sem, *]) rfl ⟨_, _, rfl, ?_, ?_, ?_, ?_⟩
  · refine own_lo (base := w.heap.size + 3) ?_ (by omega)
    repeat (first | exact S1.out | refine set_under ?_ (by simp <;> omega) _ | refine own_below ?_ hb2)
  · refine own_lo (base := w.heap.size + 3) ?_ (by omega)
    repeat (first | exact S2.out | refine own_set_under ?_ (by simp <;> omega) _)
  · intro g hg hg'
    have h1 := (L1.out g hg).2
    have h2 := (L2.out g hg').1
    simp at h2
    omega
  · repeat (first | exact B1.out | refine Below.setCell ?_ (by simp <;> omega) _ | refine Below.alloc ?_ (by simp <;> omega) _ | refine Below.trans ?_ (hb2.mono (by simp <;> omega)))
set_option maxHeartbeats 1000000 in
theorem eqForecast_same (m : Int) (va ua vb ub : Value) (l : List PartD) (s : List SurgeD) (w : World) (ha : SlP w va l) (ha' : SlSurge w ua s) (hb : SlP w vb l) (hb' : SlSurge w ub s) :
    Calls Tryz.prog 15 #[.agg #[.int .i64 m, va, ua], .agg #[.int .i64 m, vb, ub]] w fun e w' => e = .returned (.bool true) ∧ Below w.heap.size w w' := by
  have HA := Lib.hid ha
  have HB := Lib.hid hb
  have HA' := Lib.hid ha'
  have HB' := Lib.hid hb'
  obtain ⟨A, c, rfl⟩ := ha.at
  obtain ⟨A', c', rfl⟩ := hb.at
  obtain ⟨D, d, rfl⟩ := ha'.at
  obtain ⟨D', d', rfl⟩ := hb'.at
  clear ha hb ha' hb'
  have hb0 := Joins.below_alloc2 w (.cells #[.int .i64 m, .slice A l.length c, .slice D s.length d] 44) (.cells #[.int .i64 m, .slice A' l.length c', .slice D' s.length d'] 44)
  have B0 := Lib.hid hb0
  clear hb0
  go_enter Tryz.func15, Tryz.ntmps15
  go_wp2_with fail
  refine (eqTide_same m _ _ l _ (HA.out.below B0.out) (HB.out.below B0.out)).mono ?_
  rintro e w1 ⟨rfl, hb1⟩
  have B1 := Lib.hid (B0.out.trans (hb1.mono B0.out.size))
  obtain ⟨hc, hf⟩ := bcell hb1
  clear hb1
  go_wp2_with fail
  refine (eqSurgeS_same _ _ s _ (HA'.out.below B1.out) (HB'.out.below B1.out)).mono ?_
  rintro e w2 ⟨rfl, hb2⟩
  have B2 := Lib.hid (B1.out.trans (hb2.mono B1.out.size))
  clear hb2 hc hf
  go_wp2
  go_ret
  exact ⟨rfl, B2.out⟩
/-- The block b holds the forecast of mean m over the slices v and u, which read as l and s. -/
def FBox (w : World) (b : Nat) (m : Int) (v u : Value) (l : List PartD) (s : List SurgeD) : Prop :=
  w.cell? ⟨b, 0, none⟩ = some (.int .i64 m) ∧ w.cell? ⟨b, 1, none⟩ = some v ∧ w.cell? ⟨b, 2, none⟩ = some u ∧ SlP w v l ∧ SlSurge w u s
theorem FBox.below {w w' : World} {b : Nat} {m : Int} {v u : Value} {l : List PartD} {s : List SurgeD} (h : FBox w b m v u l s) (hb : Below w.heap.size w w') : FBox w' b m v u l s := by
  obtain ⟨h0, h1, h2, h3, h4⟩ := h
  exact ⟨(hb.cell (World.block_lt_of_cell? w _ h0)).trans h0, (hb.cell (World.block_lt_of_cell? w _ h1)).trans h1, (hb.cell (World.block_lt_of_cell? w _ h2)).trans h2, h3.below hb, h4.below hb⟩
theorem FBox.new {w : World} {m : Int} {v u : Value} {l : List PartD} {s : List SurgeD} (t : TypeId) (h : SlP w v l) (h' : SlSurge w u s) : FBox (w.alloc (.cells #[.int .i64 m, v, u] t)) w.heap.size m v u l s := by
  refine ⟨?_, ?_, ?_, h.below (Joins.below_alloc1 _ _), h'.below (Joins.below_alloc1 _ _)⟩
  · rw [World.cell?_alloc_at _ _ _ _ rfl]; rfl
  · rw [World.cell?_alloc_at _ _ _ _ rfl]; rfl
  · rw [World.cell?_alloc_at _ _ _ _ rfl]; rfl
theorem NewFc.sl {m : Int} {l : List PartD} {s : List SurgeD} {w w' : World} {e : Ending} (h : NewFc m l s w e w') (hl : l.length ≤ 1000000000) (hs : s.length ≤ 1000000000) :
    ∃ A c A' c', e = .returned (.agg #[.int .i64 m, .slice A l.length c, .slice A' s.length c']) ∧ SlP w' (.slice A l.length c) l ∧ SlSurge w' (.slice A' s.length c') s ∧ Below w.heap.size w w' := by
  obtain ⟨v, u, rfl, h1, h2, _, hb⟩ := h
  obtain ⟨A, c, rfl⟩ := own_form h1
  obtain ⟨A', c', rfl⟩ := own_form h2
  exact ⟨A, c, A', c', rfl, h1.sl hl, h2.sl hs, hb⟩
section
variable {H : Type} {enc : TypeId × Value → H} {w : World} {base : Nat} {spare : Nat → Bool} {held : Bool}
def FcIn (w : World) (m : Int) (A : Option Addr) (c : Nat) (l : List PartD) (A' : Option Addr) (c' : Nat) (s : List SurgeD) : Prop :=
  (Lit.int .i64 m).wf = true ∧ l.length ≤ maxLen ∧ s.length ≤ maxLen ∧ (l.length ≤ 1000000000 → SlP w (.slice A l.length c) l) ∧ (s.length ≤ 1000000000 → SlSurge w (.slice A' s.length c') s) ∧ (∀ d ∈ l, PartD.wf d) ∧ ∀ d ∈ s, SurgeD.wf d
end
end Go.Proofs.YtooeikimoheecaaGreat
