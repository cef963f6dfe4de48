
/- WindowsOk of the model: contract. -/
import Derived.Test.YtdpidbkkhmombaaWinOk
namespace Go.Proofs.Ytdpidbkkhmombaa
open Go.RowKit
set_option maxRecDepth 100000

set_option maxHeartbeats 10000000 in
theorem specWindowsOk (v : Value) (l : List WindowD) (w : World) (h : SlWindow w v l) :
    Calls Try.prog 34 #[v] w fun e w' => e = .returned (.bool (winB l)) ∧ Below w.heap.size w w' := by
  obtain ⟨hl, h⟩ := h
  rcases h with ⟨rfl, A, c, rfl⟩ | ⟨g, o, c, rfl, hp, hcap, hc⟩
  · have E := Lib.hid (winB_mk (l := []) (FirstW.zero _))
    go_enter Try.func34, Try.ntmps34
    go_wp2
    refine wp_loop_rounds 1 ?_
    rw [rounds_succ]
    go_wp2
    go_ret
    exact ⟨ret_bool E.out.symm, Below.refl _ _⟩
  · have HC := Lib.hid hc
    clear hc
    go_enter Try.func34, Try.ntmps34
    go_wp2
    go_loopw [7] (fun i wr => ∃ k : Nat, k ≤ l.length ∧ i = .int .i64 k ∧ Hid (FirstW l k) ∧ Hid (Below w.heap.size w wr) ∧ w.heap.size ≤ wr.heap.size) (fun i _ => l.length - (intOf i).toNat)
    case atStart => exact ⟨0, Nat.zero_le _, rfl, Lib.hid (FirstW.zero _), Lib.hid (Below.refl _ _), Nat.le_refl _⟩
    case round =>
      obtain ⟨k, hk, rfl, hF, hb', hsz⟩ := hrel
      by_cases hlt : k < l.length
      rotate_left
      · obtain rfl : k = l.length := by omega
        have E := Lib.hid (winB_mk hF.out)
        go_wp2
        go_ret
        exact ⟨ret_bool E.out.symm, hb'.out⟩
      · obtain ⟨x, hx⟩ : ∃ x, l[k]? = some x := ⟨_, List.getElem?_eq_getElem hlt⟩
        obtain ⟨p0, p1⟩ := SlWindow.cells HC.out k x hx
        have hg : g < w.heap.size := World.block_lt_of_cell? w ⟨g, o + k * 2, none⟩ p0
        have a0 := (hb'.out.cell (p := ⟨g, o + k * 2, none⟩) hg).trans p0
        have a1 := (hb'.out.cell (p := ⟨g, o + k * 2 + 1, none⟩) hg).trans p1
        have HX := Lib.hid hx
        have hgr : g < wr.heap.size := by omega
        clear p0 p1 hx
        by_cases h1 : x.fr < 0 ∨ 2880 < x.fr
        · have E := Lib.hid (winB_bad k hlt (wokB_bad HX.out (by omega)))
          have E1 := Lib.hid (inB_no (x := x.fr) (lo := 0) (hi := 2880) h1)
          have E2 := Lib.hid (inB_no (x := x.fr) (lo := 0) (hi := 2880) h1)
          clear h1
          go_wp2
          go_quiet (first | (go_at_call 73; exact Calls.quiet_of_same (l01InQ _ _ _ _ (by first | exact E1.out | exact E2.out) _)) | fail)
          go_wp2
          go_ret
          refine ⟨ret_bool E.out.symm, ?_⟩
          repeat (first | exact hb'.out | refine below_drewN ?_ _ | refine Below.drew ?_ | refine Below.setCell ?_ (by first | omega | (simp <;> omega)) _ | refine Below.alloc ?_ (by first | omega | (simp <;> omega)) _)
        by_cases h2 : x.tt < x.fr ∨ 2880 < x.tt
        · have E := Lib.hid (winB_bad k hlt (wokB_bad HX.out (by omega)))
          have E1 := Lib.hid (inB_mk (x := x.fr) (lo := 0) (hi := 2880) (by omega) (by omega))
          have E2 := Lib.hid (inB_no (x := x.tt) (lo := x.fr) (hi := 2880) h2)
          clear h2
          go_wp2
          go_quiet (first | (go_at_call 73; exact Calls.quiet_of_same (l01InQ _ _ _ _ (by first | exact E1.out | exact E2.out) _)) | fail)
          go_wp2
          go_ret
          refine ⟨ret_bool E.out.symm, ?_⟩
          repeat (first | exact hb'.out | refine below_drewN ?_ _ | refine Below.drew ?_ | refine Below.setCell ?_ (by first | omega | (simp <;> omega)) _ | refine Below.alloc ?_ (by first | omega | (simp <;> omega)) _)
        have E1 := Lib.hid (inB_mk (x := x.fr) (lo := 0) (hi := 2880) (by omega) (by omega))
        have E2 := Lib.hid (inB_mk (x := x.tt) (lo := x.fr) (hi := 2880) (by omega) (by omega))
        have ok : 0 ≤ x.fr ∧ x.fr ≤ x.tt ∧ x.tt ≤ 2880 := by omega
        have OK := Lib.hid ok
        clear ok h1 h2
        by_cases hk0 : k = 0
        · have FF := Lib.hid (hF.out.next (wokB_zero hk0 HX.out OK.out))
          have hd : decide (0 < k) = false := decide_eq_false (by omega)
          clear hk0
          go_wp2
          go_quiet (first | (go_at_call 73; exact Calls.quiet_of_same (l01InQ _ _ _ _ (by first | exact E1.out | exact E2.out) _)) | fail)
          go_wp2
          go_roundw
          case rel =>
            refine ⟨k + 1, by omega, by go_num, FF, Lib.hid ?_, ?_⟩
            · repeat (first | exact hb'.out | refine below_drewN ?_ _ | refine Below.drew ?_ | refine Below.setCell ?_ (by first | omega | (simp <;> omega)) _ | refine Below.alloc ?_ (by first | omega | (simp <;> omega)) _)
            · simp <;> omega
          case measure => simp [intOf]; omega
        obtain ⟨j, hj⟩ : ∃ j, k = j + 1 := ⟨k - 1, by omega⟩
        obtain ⟨y, hy⟩ : ∃ y, l[j]? = some y := ⟨_, List.getElem?_eq_getElem (by omega)⟩
        obtain ⟨_, r1⟩ := SlWindow.cells HC.out j y hy
        have y1 := (hb'.out.cell (p := ⟨g, o + j * 2 + 1, none⟩) hg).trans r1
        obtain ⟨t0, t1, t2⟩ := hF.out.time (show j < k by omega) hy
        have hw1 : IntKind.i64.wrap ((k : Int) - 1) = (j : Int) := by rw [IntWalk.i64_in _ (by omega)]; omega
        have hw2 : IntKind.i64.wrap (y.tt + 1) = y.tt + 1 := IntWalk.i64_in _ (by omega)
        have HE := Lib.hid (wokB_succ hj HX.out hy OK.out)
        have hd : decide (0 < k) = true := decide_eq_true (by omega)
        have hjl : j < l.length := by omega
        have HJ := Lib.hid hj
        clear hj hy r1 hk0 t0 t1 t2
        by_cases hyx : x.fr ≤ y.tt + 1
        · have hd2 : decide (x.fr ≤ y.tt + 1) = true := decide_eq_true hyx
          have E := Lib.hid (winB_bad k hlt (HE.out.trans (decide_eq_false (by omega))))
          go_wp2
          go_quiet (first | (go_at_call 73; exact Calls.quiet_of_same (l01InQ _ _ _ _ (by first | exact E1.out | exact E2.out) _)) | fail)
          go_wp2
          go_ret
          refine ⟨ret_bool E.out.symm, ?_⟩
          repeat (first | exact hb'.out | refine below_drewN ?_ _ | refine Below.drew ?_ | refine Below.setCell ?_ (by first | omega | (simp <;> omega)) _ | refine Below.alloc ?_ (by first | omega | (simp <;> omega)) _)
        · have hd2 : decide (x.fr ≤ y.tt + 1) = false := decide_eq_false hyx
          have FF := Lib.hid (hF.out.next (HE.out.trans (decide_eq_true (by omega))))
          go_wp2
          go_quiet (first | (go_at_call 73; exact Calls.quiet_of_same (l01InQ _ _ _ _ (by first | exact E1.out | exact E2.out) _)) | fail)
          go_wp2
          go_roundw
          case rel =>
            refine ⟨k + 1, by omega, by go_num, FF, Lib.hid ?_, ?_⟩
            · repeat (first | exact hb'.out | refine below_drewN ?_ _ | refine Below.drew ?_ | refine Below.setCell ?_ (by first | omega | (simp <;> omega)) _ | refine Below.alloc ?_ (by first | omega | (simp <;> omega)) _)
            · simp <;> omega
          case measure => simp [intOf]; omega

end Go.Proofs.Ytdpidbkkhmombaa
