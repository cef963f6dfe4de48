
/- Duties, the program's side: canTake, IsCover: contracts. -/
import Derived.Test.YtfofbnpgjdagkaaPairsImpl
import Derived.Test.YtfofbnpgjdagkaaCoverSpec
namespace Go.Proofs.Ytfofbnpgjdagkaa
open Go.RowKit
set_option maxRecDepth 100000

/-- The duty behind who may be given to n. -/
def takeB (B : Nat → Nat → Bool) (who : List Int) (n : Int) : Bool := (List.range who.length).all (fun k => !(who[k]? == some n) || B who.length k)
def TakeTo (B : Nat → Nat → Bool) (who : List Int) (n : Int) (k : Nat) : Prop := (List.range k).all (fun j => !(who[j]? == some n) || B who.length j) = true
theorem TakeTo.zero (B : Nat → Nat → Bool) (who : List Int) (n : Int) : TakeTo B who n 0 := rfl
theorem TakeTo.next {B : Nat → Nat → Bool} {who : List Int} {n : Int} {k : Nat} (h : TakeTo B who n k) (h1 : (!(who[k]? == some n) || B who.length k) = true) : TakeTo B who n (k + 1) := by
  unfold TakeTo at h ⊢
  rw [List.range_succ, List.all_append, h]
  simpa using h1
theorem takeB_no {B : Nat → Nat → Bool} {who : List Int} {n : Int} {k : Nat} (hk : k < who.length) (h1 : (!(who[k]? == some n) || B who.length k) = false) : takeB B who n = false := by
  unfold takeB
  rw [List.all_eq_false.2 ⟨k, List.mem_range.2 hk, by rw [h1]; simp⟩]
theorem pCover_take (p : Int) (mv : List Int) (l : List DutyD) (done : List Int) (n : Int) : pCover p mv l done n = (inB n 0 ((l.length : Int) - 1) && takeB (bothAt p mv l) done n) := rfl
set_option maxHeartbeats 8000000 in
theorem canTake_any {B : Nat → Nat → Bool} (hB : ∀ i j, B i j = B j i) (b m : Nat) (yw : Value) (who : List Int) (n : Int) (w : World) (hp : PairAt w b m B) (rw' : SlInt w yw who) (hlen : who.length < m) :
    Calls Try.prog 49 #[.map (some b), yw, .int .i64 n] w fun e w' => e = .returned (.bool (takeB B who n)) ∧ w = w' := by
  have RW := Lib.hid rw'
  have HP := Lib.hid hp
  have HBS := Lib.hid hB
  have hm12 := hp.1
  obtain ⟨A2, c2, rfl⟩ := SlOf.form rw'
  obtain ⟨q, hq⟩ : ∃ n, who.length = n := ⟨_, rfl⟩
  have HQ := Lib.hid hq
  rw [hq] at RW hlen
  rw [hq]
  clear rw' hp hq hB
  go_enter Try.func49, Try.ntmps49
  go_wp2
  go_loopw [11] (fun t wr => ∃ i : Nat, i ≤ q ∧ t = .int .i64 (i : Int) ∧ Hid (TakeTo B who n i) ∧ Hid (w = wr)) (fun t _ => q - (intOf t).toNat)
  case atStart => exact ⟨0, Nat.zero_le _, rfl, Lib.hid (TakeTo.zero _ _ _), Lib.hid rfl⟩
  case round =>
    obtain ⟨i, hi, rfl, hT, hw⟩ := hrel
    obtain rfl := hw.out
    by_cases hlt : i < q
    rotate_left
    · obtain rfl : i = q := by omega
      have E := Lib.hid (show takeB B who n = true from by have := hT.out; unfold TakeTo at this; unfold takeB; rw [HQ.out]; rw [HQ.out] at this; exact this)
      go_wp2
      go_ret
      exact ⟨ret_bool E.out.symm, rfl⟩
    obtain ⟨x, hx⟩ : ∃ x, who[i]? = some x := ⟨_, List.getElem?_eq_getElem (by have := HQ.out; omega)⟩
    have HX := Lib.hid hx
    rcases RW.out.2 with ⟨he, _⟩ | ⟨g, o, c', e, lpos, lcap, lc⟩
    · rw [he] at hx; simp at hx
    injection e with ea e2 e3
    subst ea
    clear e2 e3 lpos lcap
    have y0 := SlInt.cells lc i x hx
    clear lc hx
    by_cases hxn : x = n
    · subst hxn
      have gx : (x == x) = true := beq_self_eq_true x
      have HLK := HP.out.look hlt hlen
      obtain ⟨c, hc⟩ : ∃ c, B i q = c := ⟨_, rfl⟩
      have HC := Lib.hid hc
      rw [hc] at HLK
      clear hc
      cases c with
      | true =>
        have TN := Lib.hid (hT.out.next (show (!(who[i]? == some x) || B who.length i) = true by rw [HQ.out, HBS.out, HC.out, Bool.or_true]))
        go_wp2
        go_roundw
        case rel => exact ⟨i + 1, by omega, by go_num, TN, by first | exact Lib.hid rfl | exact Lib.hid trivial⟩
        case measure => simp [intOf]; omega
      | false =>
        have E := Lib.hid (takeB_no (B := B) (who := who) (n := x) (k := i) (by rw [HQ.out]; exact hlt) (by rw [HQ.out, HBS.out, HC.out, HX.out]; simp))
        go_wp2
        go_ret
        exact ⟨ret_bool E.out.symm, rfl⟩
    · have gx : (x == n) = false := by simpa using hxn
      have TN := Lib.hid (hT.out.next (show (!(who[i]? == some n) || B who.length i) = true by rw [HX.out, some_ne gx]; rfl))
      clear hxn
      go_wp2
      go_roundw
      case rel => exact ⟨i + 1, by omega, by go_num, TN, by first | exact Lib.hid rfl | exact Lib.hid trivial⟩
      case measure => simp [intOf]; omega

set_option maxHeartbeats 16000000 in
theorem implIsCover (p : Int) (ymv : Value) (mv : List Int) (yl : Value) (l : List DutyD) (yw : Value) (who : List Int) (w : World) (rmv : SlInt w ymv mv) (rl : SlDuty w yl l) (rw' : SlInt w yw who) :
    Calls Try.prog 16 #[.int .i64 p, ymv, yl, yw] w fun e w' => e = .returned (.bool (isCovB p mv l who)) ∧ Below w.heap.size w w' := by
  have Rmv := Lib.hid rmv
  have HS := Lib.hid rl
  have RW := Lib.hid rw'
  have hlw := rw'.1
  have hll := rl.1
  obtain ⟨A0, c0, rfl⟩ := SlOf.form rmv
  obtain ⟨A1, c1, rfl⟩ := SlOf.form rl
  obtain ⟨A2, c2, rfl⟩ := SlOf.form rw'
  obtain ⟨nm, hnm⟩ : ∃ n, mv.length = n := ⟨_, rfl⟩
  obtain ⟨m, hm⟩ : ∃ n, l.length = n := ⟨_, rfl⟩
  have HM := Lib.hid hm
  obtain ⟨q, hq⟩ : ∃ n, who.length = n := ⟨_, rfl⟩
  have HQ := Lib.hid hq
  rw [hnm] at Rmv
  rw [hm] at hll HS
  rw [hq] at hlw RW
  rw [hnm, hm, hq]
  clear rmv rl rw' hnm hm hq
  obtain ⟨b1, hb1⟩ : ∃ b, dutiesB l = b := ⟨_, rfl⟩
  have H1 := Lib.hid hb1
  clear hb1
  have E0 := Lib.hid (show isCovB p mv l who = (b1 && (q == m) && runB (pCover p mv l) [] who) by unfold isCovB; rw [H1.out, HM.out, HQ.out])
  go_enter Try.func16, Try.ntmps16
  go_wp2_with fail
  refine (implDutiesOk _ l _ HS.out).mono ?_
  rw [H1.out]
  rintro e w1 ⟨rfl, hb1⟩
  have B1 := Lib.hid hb1
  clear hb1
  cases b1 with
  | false =>
    have E := Lib.hid (E0.out.trans (show _ = false by simp))
    go_wp2
    go_ret
    exact ⟨ret_bool E.out.symm, B1.out⟩
  | true =>
  have h12 : m ≤ 12 := by have := (dutiesB_all H1.out).1; have := HM.out; omega
  by_cases hqm : q = m
  rotate_left
  · have gq : ((q : Int) != (m : Int)) = true := by simp; omega
    have E := Lib.hid (E0.out.trans (show _ = false by rw [show (q == m) = false by simpa using hqm]; simp))
    go_wp2
    go_ret
    exact ⟨ret_bool E.out.symm, B1.out⟩
  subst hqm
  have E1 := Lib.hid (E0.out.trans (show _ = runB (pCover p mv l) [] who by simp))
  have gq : ((q : Int) != (q : Int)) = false := by simp
  go_wp2_with fail
  refine (implPairs p _ mv _ l _ (Rmv.out.below B1.out) (HS.out.below B1.out) (by rw [HM.out]; exact h12)).mono ?_
  rintro e w2 ⟨bp, rfl, hbp, hpa, hb2⟩
  rw [HM.out] at hpa
  have B2 := Lib.hid (B1.out.trans (hb2.mono B1.out.size))
  have PA := Lib.hid hpa
  clear hpa hb2 hbp
  go_wp2
  go_loopw [28] (fun t wr => ∃ i : Nat, i ≤ q ∧ t = .int .i64 (i : Int) ∧ Hid (RunTo (pCover p mv l) who i) ∧ Hid (w2 = wr)) (fun t _ => q - (intOf t).toNat)
  case atStart => exact ⟨0, Nat.zero_le _, rfl, Lib.hid (RunTo.zero _ _), Lib.hid rfl⟩
  case round =>
    obtain ⟨i, hi, rfl, hT, hw⟩ := hrel
    obtain rfl := hw.out
    by_cases hlt : i < q
    rotate_left
    · obtain rfl : i = q := by omega
      have E := Lib.hid (E1.out.trans (RunTo.all (by rw [HQ.out]; exact hT.out)))
      go_wp2
      go_ret
      exact ⟨ret_bool E.out.symm, B2.out⟩
    obtain ⟨n, hn⟩ : ∃ x, who[i]? = some x := ⟨_, List.getElem?_eq_getElem (by have := HQ.out; omega)⟩
    have HX := Lib.hid hn
    have HTL := Lib.hid (show (who.take i).length = i by rw [List.length_take, HQ.out]; omega)
    have TK := Lib.hid (SlOf.takeP (k := i) (by rw [HQ.out]; exact RW.out.below B2.out) (by rw [HQ.out]; omega))
    rcases RW.out.2 with ⟨he, _⟩ | ⟨g, o, c', e, lpos, lcap, lc⟩
    · rw [he] at hn; simp at hn
    injection e with ea e2 e3
    subst ea e3
    have hic : i ≤ c2 := by have := HQ.out; omega
    clear e2 lpos lcap
    have y0 := cell_onV (SlInt.cells lc _ _ hn) B2.out
    obtain ⟨c, hc⟩ : ∃ b, inB n 0 ((q : Int) - 1) = b := ⟨_, rfl⟩
    have HC := Lib.hid hc
    clear hc hn lc
    go_wp2_with fail
    refine (isIndex_any _ _ _).mono ?_
    rw [HC.out]
    rintro e w3 ⟨rfl, rfl⟩
    clear y0
    cases c with
    | false =>
      have E := Lib.hid (E1.out.trans (run_no HX.out (by rw [pCover_take, HM.out, HC.out]; rfl)))
      go_wp2
      go_ret
      exact ⟨ret_bool E.out.symm, B2.out⟩
    | true =>
    obtain ⟨c, hc⟩ : ∃ b, takeB (bothAt p mv l) (who.take i) n = b := ⟨_, rfl⟩
    have HK := Lib.hid hc
    clear hc
    go_wp2_with fail
    refine (canTake_any (bothAt_comm p mv l) bp q _ (who.take i) n _ PA.out TK.out (by rw [HTL.out]; exact hlt)).mono ?_
    rw [HK.out]
    rintro e w3 ⟨rfl, rfl⟩
    cases c with
    | false =>
      have E := Lib.hid (E1.out.trans (run_no HX.out (by rw [pCover_take, HK.out, Bool.and_false])))
      go_wp2
      go_ret
      exact ⟨ret_bool E.out.symm, B2.out⟩
    | true =>
      have TN := Lib.hid (hT.out.next HX.out (by rw [pCover_take, HM.out, HC.out, HK.out]; rfl))
      go_wp2
      go_roundw
      case rel => exact ⟨i + 1, by omega, by go_num, TN, by first | exact Lib.hid rfl | exact Lib.hid trivial⟩
      case measure => simp [intOf]; omega
end Go.Proofs.Ytfofbnpgjdagkaa
