
/- Duties and covers, the model's side: LeastCover, StayingMoves: contracts. -/
import Derived.Test.YtfofbnpgjdagkaaCoverSpec
namespace Go.Proofs.Ytfofbnpgjdagkaa
open Go.RowKit
set_option maxRecDepth 100000

def covW (R : Option (List Nat × Nat)) : List Int := castL ((R.map Prod.fst).getD [])
def covN (R : Option (List Nat × Nat)) : Int := (((R.map Prod.snd).getD 0 : Nat) : Int)
/-- What LeastCover leaves. -/
def NewCover (R : Option (List Nat × Nat)) (w : World) (e : Ending) (w' : World) : Prop := ∃ v, e = .returned (.tuple #[v, .int .i64 (covN R), .bool R.isSome]) ∧ OwnInt w' w.heap.size v (covW R) ∧ Below w.heap.size w w'
def covF (B : Nat → Nat → Bool) (m most : Nat) : Option (List Nat × Nat) := (searchR B most m []).map (fun w => (w, most))
theorem leastCov_bad {p : Int} {mv : List Int} {l : List DutyD} (h : ¬ (dutiesB l = true ∧ tableB p mv = true)) : leastCov p mv l = none := if_neg h
theorem leastCov_ok {p : Int} {mv : List Int} {l : List DutyD} (h1 : dutiesB l = true) (h2 : tableB p mv = true) : leastCov p mv l = (List.range (l.length + 1)).findSome? (covF (bothAt p mv l) l.length) := if_pos ⟨h1, h2⟩
theorem covW_len (p : Int) (mv : List Int) (l : List DutyD) : (covW (leastCov p mv l)).length ≤ 12 := by
  unfold covW leastCov
  split
  · rename_i h
    obtain ⟨w, n, e, _, hw, _⟩ := cover_some (bothAt p mv l) l.length
    rw [e, castL_len]
    show w.length ≤ 12
    have := (dutiesB_all h.1).1
    omega
  · exact Nat.zero_le _
set_option maxHeartbeats 16000000 in
theorem specLeastCover (p : Int) (ymv : Value) (mv : List Int) (yl : Value) (l : List DutyD) (w : World) (rmv : SlInt w ymv mv) (rl : SlDuty w yl l) :
    Calls Try.prog 31 #[.int .i64 p, ymv, yl] w (NewCover (leastCov p mv l) w) := by
  have Rmv := Lib.hid rmv
  have HS := Lib.hid rl
  have hll := rl.1
  obtain ⟨A0, c0, rfl⟩ := SlOf.form rmv
  obtain ⟨A1, c1, rfl⟩ := SlOf.form rl
  obtain ⟨nm, hnm⟩ : ∃ n, mv.length = n := ⟨_, rfl⟩
  obtain ⟨m, hm⟩ : ∃ n, l.length = n := ⟨_, rfl⟩
  have HM := Lib.hid hm
  rw [hnm] at Rmv
  rw [hm] at hll HS
  rw [hnm, hm]
  clear rmv rl hnm hm
  obtain ⟨b1, hb1⟩ : ∃ b, dutiesB l = b := ⟨_, rfl⟩
  have H1 := Lib.hid hb1
  obtain ⟨b2, hb2⟩ : ∃ b, tableB p mv = b := ⟨_, rfl⟩
  have H2 := Lib.hid hb2
  clear hb1 hb2
  go_enter Try.func31, Try.ntmps31
  go_wp2_with fail
  refine (specDutiesOk _ l _ HS.out).mono ?_
  rw [H1.out]
  rintro e w1 ⟨rfl, hb1⟩
  have B1 := Lib.hid hb1
  clear hb1
  cases b1 with
  | false =>
    have E := Lib.hid (leastCov_bad (p := p) (mv := mv) (l := l) (by rw [H1.out]; simp))
    go_wp2
    refine bodyPost_ret (v := .tuple #[.slice none 0 0, .int .i64 0, .bool false]) (by simp [results, Try.results31, go_sem]) rfl ⟨.slice none 0 0, by rw [E.out]; rfl, by rw [E.out]; exact World.ownsRow_nil _ _ _ _, B1.out⟩
  | true =>
  go_wp2_with fail
  refine (specTable p _ mv _ (Rmv.out.below B1.out)).mono ?_
  rw [H2.out]
  rintro e w2 ⟨rfl, hb2⟩
  have B2 := Lib.hid (B1.out.trans (hb2.mono B1.out.size))
  clear hb2
  cases b2 with
  | false =>
    have E := Lib.hid (leastCov_bad (p := p) (mv := mv) (l := l) (by rw [H2.out]; simp))
    go_wp2
    refine bodyPost_ret (v := .tuple #[.slice none 0 0, .int .i64 0, .bool false]) (by simp [results, Try.results31, go_sem]) rfl ⟨.slice none 0 0, by rw [E.out]; rfl, by rw [E.out]; exact World.ownsRow_nil _ _ _ _, B2.out⟩
  | true =>
  have h12 : m ≤ 12 := by have := (dutiesB_all H1.out).1; have := HM.out; omega
  have E0 := Lib.hid (show leastCov p mv l = (List.range (m + 1)).findSome? (covF (bothAt p mv l) m) by rw [leastCov_ok H1.out H2.out, HM.out])
  go_wp2_with fail
  refine (specBoth p _ mv _ l _ (Rmv.out.below B2.out) (HS.out.below B2.out) (by rw [HM.out]; exact h12)).mono ?_
  rintro e w3 ⟨vb, rs, rfl, hrb, hrs, hb3⟩
  have B3 := Lib.hid (B2.out.trans (hb3.mono B2.out.size))
  have HRB := Lib.hid hrb
  have HRS := Lib.hid hrs
  obtain ⟨A3, c3, rfl⟩ := hrb.form
  obtain ⟨nr, hnr⟩ : ∃ n, rs.length = n := ⟨_, rfl⟩
  rw [hnr] at HRB ⊢
  clear hrb hrs hb3 hnr
  go_wp2
  go_loopw [10] (fun t wr => ∃ i : Nat, i ≤ m + 1 ∧ t = .int .i64 (i : Int) ∧ Hid (((List.range (m + 1)).take i).findSome? (covF (bothAt p mv l) m) = none) ∧ Hid (Below w3.heap.size w3 wr)) (fun t _ => m + 1 - (intOf t).toNat)
  case atStart => exact ⟨0, Nat.zero_le _, rfl, Lib.hid rfl, Lib.hid (Below.refl _ _)⟩
  case round =>
    obtain ⟨i, hi, rfl, hF, hb⟩ := hrel
    have BR := Lib.hid (B3.out.trans (hb.out.mono B3.out.size))
    by_cases hlt : i ≤ m
    rotate_left
    · obtain rfl : i = m + 1 := by omega
      have E := Lib.hid (E0.out.trans (show _ = none by have h := hF.out; rw [List.take_of_length_le (by simp)] at h; exact h))
      have g1 : decide (((m + 1 : Nat) : Int) ≤ (m : Int)) = false := decide_eq_false (by omega)
      go_wp2
      refine bodyPost_ret (v := .tuple #[.slice none 0 0, .int .i64 0, .bool false]) (by simp [results, Try.results31, go_sem]) rfl ⟨.slice none 0 0, by rw [E.out]; rfl, by rw [E.out]; exact World.ownsRow_nil _ _ _ _, BR.out⟩
    have HRN := Lib.hid (show (List.range (m + 1))[i]? = some i from List.getElem?_range (by omega))
    have L1 := Liv.build (Liv.nil wr) 0 [] (by simp)
    obtain ⟨w4, hw4⟩ : ∃ W, W = wr.alloc (.cells #[] 3) := ⟨_, rfl⟩
    have hL : Liv wr w4 [(0, .slice (some ⟨wr.heap.size, 0, none⟩) 0 0, [])] := by rw [hw4]; exact L1
    have HW4 := Lib.hid hw4
    have B4 := Lib.hid (BR.out.trans (hL.low.mono BR.out.size))
    have CS := Lib.hid (specSearch p mv l (by rw [HM.out]; exact h12) (.slice A3 nr c3) rs HRS.out i (by omega) m (.slice (some ⟨wr.heap.size, 0, none⟩) 0 0) [] wr.heap.size w4 (HRB.out.below ((hb.out.trans (hL.low.mono hb.out.size)))) (hL.own _ List.mem_cons_self) hL.low.size (by rw [HM.out]; simp) (fun n hn => by simp at hn))
    obtain ⟨R, hR⟩ : ∃ R, searchR (bothAt p mv l) i m [] = R := ⟨_, rfl⟩
    rw [hR] at CS
    have ER := Lib.hid (show covF (bothAt p mv l) m i = R.map (fun w => (w, i)) by unfold covF; rw [hR])
    obtain ⟨r, hr⟩ : ∃ b, R.isSome = b := ⟨_, rfl⟩
    have HRR := Lib.hid hr
    clear L1 hL hw4 hR hr
    go_wp2_with fail
    rw [← HW4.out]
    refine CS.out.mono ?_
    rintro e w5 ⟨v5, rfl, ho5, hb5⟩
    rw [HRR.out]
    have B5 := Lib.hid (B4.out.trans (hb5.mono B4.out.size))
    have B5' := Lib.hid (show Below w3.heap.size w3 w5 from by
      have h4 : Below w3.heap.size w3 w4 := hb.out.trans ((show Below wr.heap.size wr w4 by rw [HW4.out]; exact Joins.below_alloc1 wr _).mono hb.out.size)
      exact h4.trans (hb5.mono h4.size))
    have O5 := Lib.hid (own_lo ho5 BR.out.size)
    obtain ⟨A5, c5, hv5⟩ := own_form ho5
    obtain ⟨n5, hn5⟩ : ∃ n, (castL (R.getD [])).length = n := ⟨_, rfl⟩
    rw [hn5] at hv5
    subst hv5
    clear ho5 hb5 hn5 CS
    cases r with
    | false =>
      have F2 := Lib.hid (find_next hF.out HRN.out (ER.out.trans (by have := HRR.out; cases R with | none => rfl | some x => cases this)))
      go_wp2
      go_roundw
      case rel => exact ⟨i + 1, by omega, by go_num, F2, B5'⟩
      case measure => simp [intOf]; omega
    | true =>
      obtain ⟨out, hout⟩ := Option.isSome_iff_exists.1 HRR.out
      have E := Lib.hid (show leastCov p mv l = some (out, i) from E0.out.trans (find_at hF.out HRN.out (ER.out.trans (by rw [hout]; rfl))))
      have O9 := Lib.hid (show OwnInt w5 w.heap.size (.slice A5 n5 c5) (castL out) by have h := O5.out; rw [hout] at h; exact h)
      clear hout
      go_wp2
      refine bodyPost_ret (v := .tuple #[.slice A5 n5 c5, .int .i64 (i : Int), .bool true]) (by simp [results, Try.results31, go_sem]) rfl ⟨.slice A5 n5 c5, by rw [E.out]; rfl, by rw [E.out]; exact O9.out, B5.out⟩
end Go.Proofs.Ytfofbnpgjdagkaa
