
/- CountMinutes and NextMinute of the program and of the model: contracts. -/
import Derived.Test.YtmjdlkninibocaaWinOkSpec
namespace Go.Proofs.Ytmjdlkninibocaa
open Go.RowKit
set_option maxRecDepth 100000

def sumW (l : List WindowD) : Int := l.foldl (fun s x => s + (x.tt - x.fr + 1)) 0
def countI (l : List WindowD) : Int := if winB l then sumW l else -1
theorem sumW_snoc (l : List WindowD) (x : WindowD) : sumW (l ++ [x]) = sumW l + (x.tt - x.fr + 1) := by unfold sumW; simp
theorem sumW_take {l : List WindowD} (h : FirstW l l.length) : ∀ k, k ≤ l.length → 0 ≤ sumW (l.take k) ∧ sumW (l.take k) ≤ 2881 * (k : Int) := by
  intro k
  induction k with
  | zero => intro _; simp [sumW]
  | succ k ih =>
    intro hk
    obtain ⟨x, hx⟩ : ∃ x, l[k]? = some x := ⟨_, List.getElem?_eq_getElem (by omega)⟩
    have t := h.time (show k < l.length by omega) hx
    have := ih (by omega)
    rw [take_snoc' l k x hx, sumW_snoc]
    omega
theorem countI_bad {l : List WindowD} (h : winB l = false) : countI l = -1 := by unfold countI; rw [h]; rfl
theorem countI_ok {l : List WindowD} (h : winB l = true) : countI l = sumW (l.take l.length) := by unfold countI; rw [h, List.take_length]; rfl
def nextI (l : List WindowD) (t : Int) : Int := if winB l then (match l.find? (fun x => decide (t ≤ x.tt)) with | some x => max t x.fr | none => -1) else -1
/-- The first k windows end before a minute. -/
def FirstE (l : List WindowD) (t : Int) (k : Nat) : Prop := ∀ x ∈ l.take k, x.tt < t
theorem FirstE.next {l : List WindowD} {t : Int} {k : Nat} {x : WindowD} (h : FirstE l t k) (hx : l[k]? = some x) (hp : x.tt < t) : FirstE l t (k + 1) := by
  intro y hy
  rw [take_snoc' l k x hx, List.mem_append, List.mem_singleton] at hy
  rcases hy with hy | rfl
  · exact h y hy
  · exact hp
theorem nextI_bad {l : List WindowD} {t : Int} (h : winB l = false) : nextI l t = -1 := by unfold nextI; rw [h]; rfl
theorem nextI_none {l : List WindowD} {t : Int} (h : winB l = true) (hF : FirstE l t l.length) : nextI l t = -1 := by
  unfold nextI
  rw [h, List.find?_eq_none.2 (fun x hx => by have := hF x (by rw [List.take_length]; exact hx); simp; omega)]
  rfl
theorem nextI_at {l : List WindowD} {t : Int} {k : Nat} {x : WindowD} (h : winB l = true) (hF : FirstE l t k) (hx : l[k]? = some x) (hp : t ≤ x.tt) : nextI l t = max t x.fr := by
  have hk : k < l.length := (List.getElem?_eq_some_iff.1 hx).1
  have e : l = l.take k ++ (x :: l.drop (k + 1)) := by
    rw [← (List.getElem?_eq_some_iff.1 hx).2, List.getElem_cons_drop, List.take_append_drop]
  have hn : (l.take k).find? (fun x => decide (t ≤ x.tt)) = none := List.find?_eq_none.2 (fun y hy => by have := hF y hy; simp; omega)
  have e2 : l.find? (fun x => decide (t ≤ x.tt)) = some x := by
    rw [e, List.find?_append, hn, List.find?_cons_of_pos (by simpa using hp)]
    rfl
  unfold nextI
  rw [h, e2]
  rfl

set_option maxHeartbeats 4000000 in
theorem implCountMinutes (v : Value) (l : List WindowD) (w : World) (h : SlWindow w v l) :
    Calls Try.prog 12 #[v] w fun e w' => e = .returned (.int .i64 (countI l)) ∧ Below w.heap.size w w' := by
  have H := Lib.hid h
  cases hok : winB l with
  | false =>
    have E := Lib.hid (countI_bad (l := l) hok)
    have HOK := Lib.hid hok
    obtain ⟨A, c, rfl⟩ := h.at
    clear hok h
    go_enter Try.func12, Try.ntmps12
    go_wp2_with fail
    refine (implWindowsOk _ l _ H.out).mono ?_
    rw [HOK.out]
    rintro e w1 ⟨rfl, hb1⟩
    have B1 := Lib.hid hb1
    clear hb1
    go_wp2
    go_ret
    exact ⟨ret_int E.out.symm, B1.out⟩
  | true =>
    have HF := Lib.hid (winB_true hok)
    have HOK := Lib.hid hok
    clear hok
    obtain ⟨hl, h⟩ := h
    rcases h with ⟨rfl, A, c, rfl⟩ | ⟨g, o, c, rfl, hp, hcap, hc⟩
    · have E := Lib.hid (countI_ok (l := []) HOK.out)
      go_enter Try.func12, Try.ntmps12
      go_wp2_with fail
      refine (implWindowsOk _ [] _ H.out).mono ?_
      rw [HOK.out]
      rintro e w1 ⟨rfl, hb1⟩
      have B1 := Lib.hid hb1
      clear hb1
      go_wp2
      refine wp_loop_rounds 1 ?_
      rw [rounds_succ]
      go_wp2
      go_ret
      exact ⟨ret_int E.out.symm, B1.out⟩
    · have HC := Lib.hid hc
      clear hc
      go_enter Try.func12, Try.ntmps12
      go_wp2_with fail
      refine (implWindowsOk _ l _ H.out).mono ?_
      rw [HOK.out]
      rintro e w1 ⟨rfl, hb1⟩
      have B1 := Lib.hid hb1
      have hz1 := hb1.size
      clear hb1
      go_wp2
      go_loopw [3, 11] (fun s i wr => ∃ k : Nat, k ≤ l.length ∧ i = .int .i64 k ∧ s = .int .i64 (sumW (l.take k)) ∧ Hid (Below w.heap.size w wr) ∧ w.heap.size ≤ wr.heap.size) (fun _ i _ => l.length - (intOf i).toNat)
      case atStart => exact ⟨0, Nat.zero_le _, rfl, rfl, B1, hz1⟩
      case round =>
        obtain ⟨k, hk, rfl, rfl, hb', hsz⟩ := hrel
        by_cases hlt : k < l.length
        rotate_left
        · obtain rfl : k = l.length := by omega
          have E := Lib.hid (countI_ok (l := l) HOK.out)
          go_wp2
          go_ret
          exact ⟨ret_int E.out.symm, hb'.out⟩
        · obtain ⟨x, hx⟩ : ∃ x, l[k]? = some x := ⟨_, List.getElem?_eq_getElem hlt⟩
          obtain ⟨p0, p1⟩ := SlWindow.cells HC.out k x hx
          have hg : g < w.heap.size := World.block_lt_of_cell? w ⟨g, o + k * 2, none⟩ p0
          have a0 := (hb'.out.cell (p := ⟨g, o + k * 2, none⟩) hg).trans p0
          have a1 := (hb'.out.cell (p := ⟨g, o + k * 2 + 1, none⟩) hg).trans p1
          have HX := Lib.hid hx
          obtain ⟨t0, t1, t2⟩ := HF.out.time hlt hx
          have hgr : g < wr.heap.size := by omega
          clear p0 p1 hx
          obtain ⟨s0, s1⟩ := sumW_take HF.out k hk
          have HS := Lib.hid ((congrArg sumW (take_snoc' l k x HX.out)).trans (sumW_snoc (l.take k) x))
          go_wp2
          go_roundw
          case rel =>
            refine ⟨k + 1, by omega, by go_num, ?_, Lib.hid ?_, ?_⟩
            · first | (rw [HS.out]; done) | (rw [HS.out]; congr 1; omega)
            · repeat (first | exact hb'.out | refine below_drewN ?_ _ | refine Below.drew ?_ | refine Below.setCell ?_ (by first | omega | (simp <;> omega)) _ | refine Below.alloc ?_ (by first | omega | (simp <;> omega)) _)
            · simp <;> omega
          case measure => simp [intOf]; omega

set_option maxHeartbeats 4000000 in
theorem implNextMinute (v : Value) (l : List WindowD) (t : Int) (w : World) (h : SlWindow w v l) :
    Calls Try.prog 16 #[v, .int .i64 t] w fun e w' => e = .returned (.int .i64 (nextI l t)) ∧ Below w.heap.size w w' := by
  have H := Lib.hid h
  cases hok : winB l with
  | false =>
    have E := Lib.hid (nextI_bad (l := l) (t := t) hok)
    have HOK := Lib.hid hok
    obtain ⟨A, c, rfl⟩ := h.at
    clear hok h
    go_enter Try.func16, Try.ntmps16
    go_wp2_with fail
    refine (implWindowsOk _ l _ H.out).mono ?_
    rw [HOK.out]
    rintro e w1 ⟨rfl, hb1⟩
    have B1 := Lib.hid hb1
    clear hb1
    go_wp2
    go_ret
    exact ⟨ret_int E.out.symm, B1.out⟩
  | true =>
    have HF := Lib.hid (winB_true hok)
    have HOK := Lib.hid hok
    clear hok
    obtain ⟨hl, h⟩ := h
    rcases h with ⟨rfl, A, c, rfl⟩ | ⟨g, o, c, rfl, hp, hcap, hc⟩
    · have E := Lib.hid (nextI_none (l := []) (t := t) HOK.out (fun x hx => absurd hx (by simp)))
      go_enter Try.func16, Try.ntmps16
      go_wp2_with fail
      refine (implWindowsOk _ [] _ H.out).mono ?_
      rw [HOK.out]
      rintro e w1 ⟨rfl, hb1⟩
      have B1 := Lib.hid hb1
      clear hb1
      go_wp2
      refine wp_loop_rounds 1 ?_
      rw [rounds_succ]
      go_wp2
      go_ret
      exact ⟨ret_int E.out.symm, B1.out⟩
    · have HC := Lib.hid hc
      clear hc
      go_enter Try.func16, Try.ntmps16
      go_wp2_with fail
      refine (implWindowsOk _ l _ H.out).mono ?_
      rw [HOK.out]
      rintro e w1 ⟨rfl, hb1⟩
      have B1 := Lib.hid hb1
      have hz1 := hb1.size
      clear hb1
      go_wp2
      go_loopw [12] (fun i wr => ∃ k : Nat, k ≤ l.length ∧ i = .int .i64 k ∧ Hid (FirstE l t k) ∧ Hid (Below w.heap.size w wr) ∧ w.heap.size ≤ wr.heap.size) (fun i _ => l.length - (intOf i).toNat)
      case atStart => exact ⟨0, Nat.zero_le _, rfl, Lib.hid (fun x hx => absurd hx (by simp)), B1, hz1⟩
      case round =>
        obtain ⟨k, hk, rfl, hE, hb', hsz⟩ := hrel
        by_cases hlt : k < l.length
        rotate_left
        · obtain rfl : k = l.length := by omega
          have E := Lib.hid (nextI_none (l := l) (t := t) HOK.out hE.out)
          go_wp2
          go_ret
          exact ⟨ret_int E.out.symm, hb'.out⟩
        · obtain ⟨x, hx⟩ : ∃ x, l[k]? = some x := ⟨_, List.getElem?_eq_getElem hlt⟩
          obtain ⟨p0, p1⟩ := SlWindow.cells HC.out k x hx
          have hg : g < w.heap.size := World.block_lt_of_cell? w ⟨g, o + k * 2, none⟩ p0
          have a0 := (hb'.out.cell (p := ⟨g, o + k * 2, none⟩) hg).trans p0
          have a1 := (hb'.out.cell (p := ⟨g, o + k * 2 + 1, none⟩) hg).trans p1
          have HX := Lib.hid hx
          obtain ⟨t0, t1, t2⟩ := HF.out.time hlt hx
          have hgr : g < wr.heap.size := by omega
          clear p0 p1 hx
          by_cases ht : t ≤ x.tt
          · have E := Lib.hid (nextI_at HOK.out hE.out HX.out ht)
            go_wp2
            all_goals
              go_ret
              refine ⟨ret_int (E.out.trans (by omega)).symm, ?_⟩
              repeat (first | exact hb'.out | refine below_drewN ?_ _ | refine Below.drew ?_ | refine Below.setCell ?_ (by first | omega | (simp <;> omega)) _ | refine Below.alloc ?_ (by first | omega | (simp <;> omega)) _)
          · have E := Lib.hid (hE.out.next HX.out (by omega))
            go_wp2
            go_roundw
            case rel =>
              refine ⟨k + 1, by omega, by go_num, E, Lib.hid ?_, ?_⟩
              · repeat (first | exact hb'.out | refine below_drewN ?_ _ | refine Below.drew ?_ | refine Below.setCell ?_ (by first | omega | (simp <;> omega)) _ | refine Below.alloc ?_ (by first | omega | (simp <;> omega)) _)
              · simp <;> omega
            case measure => simp [intOf]; omega

end Go.Proofs.Ytmjdlkninibocaa
