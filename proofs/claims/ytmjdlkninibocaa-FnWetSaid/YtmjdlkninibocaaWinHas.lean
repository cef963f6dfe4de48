
/- HasMinute of the program and of the model: contracts. -/
import Derived.Test.YtmjdlkninibocaaWinOkSpec
namespace Go.Proofs.Ytmjdlkninibocaa
open Go.RowKit
set_option maxRecDepth 100000

def atB (t : Int) (x : WindowD) : Bool := inB t x.fr x.tt
def hasB (l : List WindowD) (t : Int) : Bool := l.any (atB t)
/-- None of the first k windows holds the minute. -/
def FirstN (l : List WindowD) (t : Int) (k : Nat) : Prop := ∀ x ∈ l.take k, atB t x = false
theorem FirstN.zero {l : List WindowD} {t : Int} {z : Nat} (hz : z = 0 := by simp) : FirstN l t z := by subst hz; intro x hx; simp at hx
theorem FirstN.next {l : List WindowD} {t : Int} {k : Nat} {x : WindowD} (h : FirstN l t k) (hx : l[k]? = some x) (hp : atB t x = false) : FirstN l t (k + 1) := by
  intro y hy
  rw [take_snoc' l k x hx, List.mem_append, List.mem_singleton] at hy
  rcases hy with hy | rfl
  · exact h y hy
  · exact hp
theorem hasB_no {l : List WindowD} {t : Int} (h : FirstN l t l.length) : hasB l t = false := by
  unfold hasB
  rw [List.any_eq_false]
  intro x hx
  have := h x (by rw [List.take_length]; exact hx)
  simp [this]
theorem hasB_yes {l : List WindowD} {t : Int} {k : Nat} {x : WindowD} (hx : l[k]? = some x) (hp : atB t x = true) : hasB l t = true := by
  unfold hasB
  rw [List.any_eq_true]
  exact ⟨x, List.mem_of_getElem? hx, hp⟩


set_option maxHeartbeats 2000000 in
theorem hasClosure (x : WindowD) (t : Int) (B : Nat) (w : World) (hB : B < w.heap.size) (hc : w.cell? ⟨B, 0, none⟩ = some (.int .i64 t)) :
    Calls Try.prog 36 #[.agg #[.int .i64 x.fr, .int .i64 x.tt], .pointer (some ⟨B, 0, none⟩)] w fun e w' => e = .returned (.bool (atB t x)) ∧ Below w.heap.size w w' := by
  have hne : B ≠ w.heap.size := by omega
  have EB : Hid (atB t x = (decide (x.fr ≤ t) && decide (t ≤ x.tt))) := Lib.hid (by unfold atB inB; simp [Bool.decide_and])
  by_cases h1 : x.fr ≤ t
  · by_cases h2 : t ≤ x.tt
    · have E : Hid (atB t x = true) := Lib.hid (by rw [EB.out]; simp [h1, h2])
      go_enter Try.func36, Try.ntmps36
      go_wp2
      go_ret
      exact ⟨ret_bool E.out.symm, Joins.below_alloc1 w _⟩
    · have E : Hid (atB t x = false) := Lib.hid (by rw [EB.out]; simp [h2])
      go_enter Try.func36, Try.ntmps36
      go_wp2
      go_ret
      exact ⟨ret_bool E.out.symm, Joins.below_alloc1 w _⟩
  · have E : Hid (atB t x = false) := Lib.hid (by rw [EB.out]; simp [h1])
    go_enter Try.func36, Try.ntmps36
    go_wp2
    go_ret
    exact ⟨ret_bool E.out.symm, Joins.below_alloc1 w _⟩

/-- What the search leaves: a place, or -1. -/
def IdxPost (l : List WindowD) (t : Int) (w : World) (e : Ending) (w' : World) : Prop := ∃ r : Int, e = .returned (.int .i64 r) ∧ decide (0 ≤ r) = hasB l t ∧ Below w.heap.size w w'

set_option maxHeartbeats 4000000 in
theorem hasIndex (v : Value) (l : List WindowD) (t : Int) (B : Nat) (w : World) (h : SlWindow w v l) (hB : B < w.heap.size) (hc : w.cell? ⟨B, 0, none⟩ = some (.int .i64 t)) :
    Calls Try.prog 51 #[v, .func (.func 36) #[] #[.pointer (some ⟨B, 0, none⟩)]] w (IdxPost l t w) := by
  have HB := Lib.hid hc
  clear hc
  obtain ⟨hl, h⟩ := h
  rcases h with ⟨rfl, A, c, rfl⟩ | ⟨g, o, c, rfl, hp, hcap, hc⟩
  · go_enter Try.func51, Try.ntmps51
    go_wp2
    refine wp_loop_rounds 1 ?_
    rw [rounds_succ]
    go_wp2
    go_ret
    exact ⟨-1, rfl, rfl, Below.refl _ _⟩
  · have HC := Lib.hid hc
    clear hc
    go_enter Try.func51, Try.ntmps51
    go_wp2
    go_loopw [5, 8] (fun _ i wr => ∃ k : Nat, k ≤ l.length ∧ i = .int .i64 k ∧ Hid (FirstN l t k) ∧ Hid (Below w.heap.size w wr) ∧ w.heap.size ≤ wr.heap.size) (fun _ i _ => l.length - (intOf i).toNat)
    case atStart => exact ⟨0, Nat.zero_le _, rfl, Lib.hid FirstN.zero, Lib.hid (Below.refl _ _), Nat.le_refl _⟩
    case round =>
      obtain ⟨k, hk, rfl, hN, hb', hsz⟩ := hrel
      by_cases hlt : k < l.length
      rotate_left
      · obtain rfl : k = l.length := by omega
        have E := Lib.hid (hasB_no hN.out)
        go_wp2
        go_ret
        exact ⟨-1, rfl, by rw [E.out]; rfl, hb'.out⟩
      · obtain ⟨x, hx⟩ : ∃ x, l[k]? = some x := ⟨_, List.getElem?_eq_getElem hlt⟩
        obtain ⟨p0, p1⟩ := SlWindow.cells HC.out k x hx
        have hg : g < w.heap.size := World.block_lt_of_cell? w ⟨g, o + k * 2, none⟩ p0
        have a0 := (hb'.out.cell (p := ⟨g, o + k * 2, none⟩) hg).trans p0
        have a1 := (hb'.out.cell (p := ⟨g, o + k * 2 + 1, none⟩) hg).trans p1
        have HX := Lib.hid hx
        have hgr : g < wr.heap.size := by omega
        have HBW := Lib.hid ((hb'.out.cell (p := ⟨B, 0, none⟩) hB).trans HB.out)
        clear p0 p1 hx
        have HCL := fun W h1 h2 => Lib.hid (hasClosure x t B W h1 h2)
        cases hq : atB t x with
        | true =>
          have E := Lib.hid (hasB_yes HX.out hq)
          rw [hq] at HCL
          clear hq
          go_wp2_with fail
          refine (HCL _ (by omega) HBW.out).out.mono ?_
          rintro e w1 ⟨rfl, hb1⟩
          have B1 := Lib.hid (hb'.out.trans (hb1.mono hsz))
          clear hb1
          go_wp2
          go_ret
          exact ⟨k, rfl, by rw [E.out]; simp, B1.out⟩
        | false =>
          have HN2 := Lib.hid (hN.out.next HX.out hq)
          rw [hq] at HCL
          clear hq
          go_wp2_with fail
          refine (HCL _ (by omega) HBW.out).out.mono ?_
          rintro e w1 ⟨rfl, hb1⟩
          have B1 := Lib.hid (hb'.out.trans (hb1.mono hsz))
          have hz1 := hb1.size
          clear hb1
          go_wp2
          go_roundw
          case rel => exact ⟨k + 1, by omega, by go_num, HN2, B1, by omega⟩
          case measure => simp [intOf]; omega

set_option maxHeartbeats 2000000 in
theorem hasContains (v : Value) (l : List WindowD) (t : Int) (B : Nat) (w : World) (h : SlWindow w v l) (hB : B < w.heap.size) (hc : w.cell? ⟨B, 0, none⟩ = some (.int .i64 t)) :
    Calls Try.prog 35 #[v, .func (.func 36) #[] #[.pointer (some ⟨B, 0, none⟩)]] w fun e w' => e = .returned (.bool (hasB l t)) ∧ Below w.heap.size w w' := by
  have HI := Lib.hid (hasIndex v l t B w h hB hc)
  obtain ⟨A, c, rfl⟩ := h.at
  clear h hc
  go_enter Try.func35, Try.ntmps35
  go_wp2_with fail
  refine HI.out.mono ?_
  rintro e w1 ⟨r, rfl, hr, hb1⟩
  have B1 := Lib.hid hb1
  have HR := Lib.hid hr
  clear hb1 hr
  go_wp2
  go_ret
  exact ⟨ret_bool HR.out, B1.out⟩

set_option maxHeartbeats 2000000 in
theorem implHasMinute (v : Value) (l : List WindowD) (t : Int) (w : World) (h : SlWindow w v l) :
    Calls Try.prog 13 #[v, .int .i64 t] w fun e w' => e = .returned (.bool (hasB l t)) ∧ Below w.heap.size w w' := by
  have hal := Joins.below_alloc1 w (.cells #[.int .i64 t] 3)
  have HI := Lib.hid (hasContains v l t w.heap.size _ (h.below hal) (by simp) (by simp))
  have B0 := Lib.hid hal
  obtain ⟨A, c, rfl⟩ := h.at
  clear h hal
  go_enter Try.func13, Try.ntmps13
  go_wp2_with fail
  refine HI.out.mono ?_
  rintro e w1 ⟨rfl, hb1⟩
  have B1 := Lib.hid (B0.out.trans (hb1.mono B0.out.size))
  clear hb1
  go_wp2
  go_ret
  exact ⟨rfl, B1.out⟩

end Go.Proofs.Ytmjdlkninibocaa
