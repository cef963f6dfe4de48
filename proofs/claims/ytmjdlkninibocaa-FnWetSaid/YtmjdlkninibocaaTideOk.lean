
/- TideOk of the program and of the model: contracts. -/
import Derived.Test.YtmjdlkninibocaaTide
namespace Go.Proofs.Ytmjdlkninibocaa
open Go.RowKit
set_option maxRecDepth 100000

theorem take_all_parts {l : List PartD} {k : Nat} (h : ∀ j x, j < k → l[j]? = some x → partB x = true) (hk : l.length ≤ k) : ∀ x ∈ l, partB x = true := by
  intro x hx
  obtain ⟨j, hj⟩ := List.getElem?_of_mem hx
  exact h j x (Nat.lt_of_lt_of_le (List.getElem?_eq_some_iff.1 hj).1 hk) hj
/-- The first k parts are valid. -/
def FirstOk (l : List PartD) (k : Nat) : Prop := ∀ j x, j < k → l[j]? = some x → partB x = true
theorem FirstOk.next {l : List PartD} {k : Nat} {x : PartD} (h : FirstOk l k) (hx : l[k]? = some x) (hp : partB x = true) : FirstOk l (k + 1) := by
  intro j y hj hy
  by_cases e : j = k
  · subst e; rw [hx] at hy; rw [← Option.some.inj hy]; exact hp
  · exact h j y (by omega) hy

set_option maxHeartbeats 1000000 in
theorem implTideOk (m : Int) (v : Value) (l : List PartD) (w : World) (h : SlP w v l) :
    Calls Try.prog 41 #[.agg #[.int .i64 m, v]] w fun e w' => e = .returned (.bool (tideB m l)) ∧ Below w.heap.size w w' := by
  have H := Lib.hid h
  have hl := h.1
  by_cases h1 : m < -1000
  · obtain ⟨A, c, rfl⟩ := h.at
    have E := Lib.hid (tideB_no (m := m) (l := l) (by omega))
    clear h
    go_enter Try.func41, Try.ntmps41
    go_wp2
    go_ret
    exact ⟨ret_bool E.out.symm, Joins.below_alloc1 _ _⟩
  · by_cases h2 : 1000 < m
    · obtain ⟨A, c, rfl⟩ := h.at
      have E := Lib.hid (tideB_no (m := m) (l := l) (by omega))
      clear h
      go_enter Try.func41, Try.ntmps41
      go_wp2
      go_ret
      exact ⟨ret_bool E.out.symm, Joins.below_alloc1 _ _⟩
    · by_cases h3 : 4 < l.length
      · obtain ⟨A, c, rfl⟩ := h.at
        have E := Lib.hid (tideB_no (m := m) (l := l) (by omega))
        clear h
        go_enter Try.func41, Try.ntmps41
        go_wp2
        go_ret
        exact ⟨ret_bool E.out.symm, Joins.below_alloc1 _ _⟩
      · obtain ⟨_, h⟩ := h
        rcases h with ⟨rfl, A, c, rfl⟩ | ⟨g, o, c, rfl, hp, hcap, hc⟩
        · have E := Lib.hid (tideB_mk (m := m) (l := []) ⟨by omega, by omega, by simp, by simp⟩)
          go_enter Try.func41, Try.ntmps41
          go_wp2
          refine wp_loop_rounds 1 ?_
          rw [rounds_succ]
          go_wp2
          go_ret
          exact ⟨ret_bool E.out.symm, Joins.below_alloc1 _ _⟩
        · have HC := Lib.hid hc
          clear hc
          go_enter Try.func41, Try.ntmps41
          go_wp2
          go_loopw [22] (fun i wr => ∃ k : Nat, k ≤ l.length ∧ i = .int .i64 k ∧ Hid (FirstOk l k) ∧ Below w.heap.size w wr) (fun i _ => l.length - (intOf i).toNat)
          case atStart => exact ⟨0, Nat.zero_le _, rfl, Lib.hid (fun j x hj => absurd hj (by omega)), Joins.below_alloc1 _ _⟩
          case round =>
            obtain ⟨k, hk, rfl, hF, hb⟩ := hrel
            by_cases hlt : k < l.length
            · obtain ⟨x, hx⟩ : ∃ x, l[k]? = some x := ⟨_, List.getElem?_eq_getElem hlt⟩
              obtain ⟨p0, p1, p2⟩ := SlP.cells HC.out k x hx
              have hg : g < w.heap.size := World.block_lt_of_cell? w ⟨g, o + k * 3, none⟩ p0
              have a0 := (hb.cell (p := ⟨g, o + k * 3, none⟩) hg).trans p0
              have a1 := (hb.cell (p := ⟨g, o + k * 3 + 1, none⟩) hg).trans p1
              have a2 := (hb.cell (p := ⟨g, o + k * 3 + 2, none⟩) hg).trans p2
              have hbs := hb.size
              have HX := Lib.hid hx
              have hb' := Lib.hid hb
              clear p0 p1 p2 hx hb
              cases hpx : partB x with
              | false =>
                have E := Lib.hid (tideB_bad (m := m) x k HX.out hpx)
                have HPX := Lib.hid hpx
                clear hpx
                go_wp2_with fail
                refine (implPartOk x _).mono ?_
                rw [HPX.out]
                rintro e w1 ⟨rfl, hb1⟩
                have HB1 := Lib.hid hb1
                clear hb1
                go_wp2
                go_ret
                refine ⟨ret_bool E.out.symm, ?_⟩
                repeat (first | exact hb'.out | refine Below.setCell ?_ (by first | omega | (simp <;> omega)) _ | refine Below.alloc ?_ (by first | omega | (simp <;> omega)) _ | refine Below.trans ?_ (HB1.out.mono (by first | omega | (simp <;> omega))))
              | true =>
                have F := Lib.hid (hF.out.next HX.out hpx)
                have HPX := Lib.hid hpx
                clear hpx
                go_wp2_with fail
                refine (implPartOk x _).mono ?_
                rw [HPX.out]
                rintro e w1 ⟨rfl, hb1⟩
                have HB1 := Lib.hid hb1
                clear hb1
                go_wp2
                go_roundw
                case rel =>
                  refine ⟨k + 1, by omega, by go_num, F, ?_⟩
                  repeat (first | exact hb'.out | refine Below.setCell ?_ (by first | omega | (simp <;> omega)) _ | refine Below.alloc ?_ (by first | omega | (simp <;> omega)) _ | refine Below.trans ?_ (HB1.out.mono (by first | omega | (simp <;> omega))))
                case measure => simp [intOf]; omega
            · have E := Lib.hid (tideB_mk (m := m) (l := l) ⟨by omega, by omega, by omega, take_all_parts hF.out (by omega)⟩)
              go_wp2
              go_ret
              exact ⟨ret_bool E.out.symm, hb⟩

end Go.Proofs.Ytmjdlkninibocaa
