
/- What ExactRivalDuties and Dilworth and CoversLaw rests on, part 17: contracts and mathematics. -/
import Derived.Test.YtfofbnpgjdagkaaCv16
import Derived.Test.YtfofbnpgjdagkaaCv13
namespace Go.Proofs.Ytfofbnpgjdagkaa
open Go.RowKit
set_option maxRecDepth 100000
theorem own_zeros (w : World) (m base : Nat) (hm : m ≤ 1000000000) (hb : base ≤ w.heap.size) : OwnInt (w.alloc (.cells (madeCells #[.int .i64 0] (m * 1)) 3)) base (.slice (some ⟨w.heap.size, 0, none⟩) m m) (List.replicate m 0) := by
  have h := World.ownsRow_lit (base := base) (e := 3) (size := 1) w (madeCells #[.int .i64 0] (m * 1)) m hb (by unfold maxLen; omega) (by rw [size_madeCells])
  have e : (madeCells #[Value.int .i64 0] (m * 1)).toList = (List.replicate m (0 : Int)).flatMap intCells := (made_flat #[Value.int .i64 0] m).trans (by rw [List.flatMap_def, List.map_replicate]; rfl)
  unfold OwnInt OwnOf
  rw [← e, List.length_replicate]
  exact h
theorem own_nil (w : World) (base : Nat) : OwnInt w base (.slice none 0 0) (castL []) := World.ownsRow_nil _ _ _ _
theorem keep_nil {w w' : World} (h : KeepX (fun i => (Value.slice none 0 0).ownBlock = some i) w w') : Below w.heap.size w w' := h.toBelow (Below.refl _ _) (Nat.le_refl _) (fun i _ e => by simp [Value.ownBlock] at e)
theorem rivalD_no {p : Int} {mv : List Int} {l : List DutyD} (h : (tableB p mv && dutiesB l) = false) : rivalD p mv l = [] := if_neg (fun h' => by rw [h'.1, h'.2] at h; cases h)
theorem rivalD_yes {p : Int} {mv : List Int} {l : List DutyD} (h1 : dutiesB l = true) (h2 : tableB p mv = true) : rivalD p mv l = castL (rivalL (bothAt p mv l) l.length) := if_pos ⟨h1, h2⟩
set_option maxHeartbeats 8000000 in
theorem implRivalDuties (p : Int) (ymv : Value) (mv : List Int) (yl : Value) (l : List DutyD) (w : World) (rmv : SlInt w ymv mv) (rl : SlDuty w yl l) :
    Calls Try.prog 14 #[.int .i64 p, ymv, yl] w (NewInt (rivalD p mv l) w) := by
  have Rmv := Lib.hid rmv
  have HS := Lib.hid rl
  obtain ⟨A0, c0, rfl⟩ := SlOf.form rmv
  obtain ⟨A1, c1, rfl⟩ := SlOf.form rl
  obtain ⟨nm, hnm⟩ : ∃ n, mv.length = n := ⟨_, rfl⟩
  obtain ⟨m, hm⟩ : ∃ n, l.length = n := ⟨_, rfl⟩
  have HM := Lib.hid hm
  rw [hnm] at Rmv
  rw [hm] at HS
  rw [hnm, hm]
  clear rmv rl hnm hm
  obtain ⟨b0, hb0⟩ : ∃ b, (tableB p mv && dutiesB l) = b := ⟨_, rfl⟩
  have H0 := Lib.hid hb0
  clear hb0
  go_enter Try.func14, Try.ntmps14
  go_wp2_with fail
  refine (canCover_any p _ mv _ l _ Rmv.out HS.out).mono ?_
  rw [H0.out]
  rintro e w1 ⟨rfl, hb1⟩
  have B1 := Lib.hid hb1
  clear hb1
  cases b0 with
  | false =>
    have E := Lib.hid (rivalD_no H0.out)
    go_wp2
    go_ret
    exact ⟨.slice none 0 0, rfl, by rw [E.out]; exact own_nil _ _, B1.out⟩
  | true =>
  obtain ⟨h2, h1⟩ := Bool.and_eq_true_iff.1 H0.out
  have E := Lib.hid (rivalD_yes h1 h2)
  have h12 : m ≤ 12 := by have := (dutiesB_all h1).1; have := HM.out; omega
  clear h1 h2
  go_wp2_with fail
  refine (implPairs p _ mv _ l _ (Rmv.out.below B1.out) (HS.out.below B1.out) (by rw [HM.out]; exact h12)).mono ?_
  rintro e w2 ⟨b, rfl, _, hpa, hb2⟩
  rw [HM.out] at hpa
  have B2 := Lib.hid (B1.out.trans (hb2.mono B1.out.size))
  have PA := Lib.hid hpa
  clear hpa hb2
  go_wp2_with fail
  refine (mostRivals_any (bothAt_comm p mv l) b m w2.heap.size h12 PA.out.lt m 0 (.slice none 0 0) [] 0 w2 PA.out (own_nil _ _) (Nat.le_refl _) List.Pairwise.nil (fun x hx => by simp at hx) (Nat.le_refl _) rfl (Nat.zero_le _) (by omega)).mono ?_
  rintro e w3 ⟨u, out, rfl, ho, hbest, hk, -⟩
  have HB3 := Lib.hid (B2.out.trans ((keep_nil hk).mono B2.out.size))
  have OO := Lib.hid (own_lo ho B2.out.size)
  have EB := Lib.hid (best_all hbest)
  clear ho hbest hk
  go_wp2
  go_ret
  exact ⟨_, rfl, by rw [E.out, HM.out, ← EB.out]; exact OO.out, HB3.out⟩
theorem leastCov_no {p : Int} {mv : List Int} {l : List DutyD} (h : (tableB p mv && dutiesB l) = false) : leastCov p mv l = none := if_neg (fun h' => by rw [h'.1, h'.2] at h; cases h)
theorem leastCov_yes {p : Int} {mv : List Int} {l : List DutyD} (h1 : dutiesB l = true) (h2 : tableB p mv = true) : leastCov p mv l = coverO (bothAt p mv l) l.length := if_pos ⟨h1, h2⟩
theorem none_le {B : Nat → Nat → Bool} {m q : Nat} (h : ∀ n, n < q → searchR B n m [] = none) : q ≤ m := by
  rcases Nat.lt_or_ge m q with hlt | hge
  · have h1 := search_top B m
    rw [h m hlt] at h1
    cases h1
  · exact hge
set_option maxHeartbeats 16000000 in
theorem implLeastCover (p : Int) (ymv : Value) (mv : List Int) (yl : Value) (l : List DutyD) (w : World) (rmv : SlInt w ymv mv) (rl : SlDuty w yl l) :
    Calls Try.prog 13 #[.int .i64 p, ymv, yl] w (NewCover (leastCov p mv l) w) := by
  have Rmv := Lib.hid rmv
  have HS := Lib.hid rl
  obtain ⟨A0, c0, rfl⟩ := SlOf.form rmv
  obtain ⟨A1, c1, rfl⟩ := SlOf.form rl
  obtain ⟨nm, hnm⟩ : ∃ n, mv.length = n := ⟨_, rfl⟩
  obtain ⟨m, hm⟩ : ∃ n, l.length = n := ⟨_, rfl⟩
  have HM := Lib.hid hm
  rw [hnm] at Rmv
  rw [hm] at HS
  rw [hnm, hm]
  clear rmv rl hnm hm
  obtain ⟨b0, hb0⟩ : ∃ b, (tableB p mv && dutiesB l) = b := ⟨_, rfl⟩
  have H0 := Lib.hid hb0
  clear hb0
  go_enter Try.func13, Try.ntmps13
  go_wp2_with fail
  refine (canCover_any p _ mv _ l _ Rmv.out HS.out).mono ?_
  rw [H0.out]
  rintro e w1 ⟨rfl, hb1⟩
  have B1 := Lib.hid hb1
  clear hb1
  cases b0 with
  | false =>
    have E := Lib.hid (leastCov_no H0.out)
    go_wp2
    refine bodyPost_ret (v := .tuple #[.slice none 0 0, .int .i64 0, .bool false]) (by simp [results, Try.results13, go_sem]) rfl ⟨.slice none 0 0, by rw [E.out]; rfl, by rw [E.out]; exact World.ownsRow_nil _ _ _ _, B1.out⟩
  | true =>
  obtain ⟨h2, h1⟩ := Bool.and_eq_true_iff.1 H0.out
  have h12 : m ≤ 12 := by have := (dutiesB_all h1).1; have := HM.out; omega
  have E := Lib.hid (show leastCov p mv l = coverO (bothAt p mv l) m by rw [leastCov_yes h1 h2, HM.out])
  clear h1 h2
  have HBC := Lib.hid (bothAt_comm p mv l)
  go_wp2_with fail
  refine (implPairs p _ mv _ l _ (Rmv.out.below B1.out) (HS.out.below B1.out) (by rw [HM.out]; exact h12)).mono ?_
  rintro e w2 ⟨b, rfl, _, hpa, hb2⟩
  rw [HM.out] at hpa
  obtain ⟨B, hB⟩ : ∃ B, bothAt p mv l = B := ⟨_, rfl⟩
  rw [hB] at hpa E HBC
  have B2 := Lib.hid (B1.out.trans (hb2.mono B1.out.size))
  have PA := Lib.hid hpa
  have hmk := make_ints m (by omega) w2
  obtain ⟨W3, hW3⟩ : ∃ W, W = w2.alloc (.cells (madeCells #[.int .i64 0] (m * 1)) 3) := ⟨_, rfl⟩
  have hb3 : Below w2.heap.size w2 W3 := by rw [hW3]; exact Joins.below_alloc1 w2 _
  have OZ := Lib.hid (show OwnInt W3 w.heap.size (.slice (some ⟨w2.heap.size, 0, none⟩) m m) (List.replicate m 0) by rw [hW3]; exact own_zeros w2 m w.heap.size (by omega) B2.out.size)
  have HZ3 := Lib.hid (show W3.heap.size = w2.heap.size + 1 by rw [hW3]; simp)
  have B3 := Lib.hid (B2.out.trans (hb3.mono B2.out.size))
  have P3 := Lib.hid (PA.out.below hb3)
  have HBN := Lib.hid (show b ≠ w2.heap.size from fun e => by have := PA.out.lt; omega)
  have hge := Lib.hid B2.out.size
  rw [← hW3] at hmk
  clear hpa hb2 hb3 hB hW3
  go_wp2_with fail
  refine (mostRivals_any HBC.out b m W3.heap.size h12 P3.out.lt m 0 (.slice none 0 0) [] 0 W3 P3.out (own_nil _ _) (Nat.le_refl _) List.Pairwise.nil (fun x hx => by simp at hx) (Nat.le_refl _) rfl (Nat.zero_le _) (by omega)).mono ?_
  rintro e w4 ⟨u, out, rfl, ho, hbest, hk, -⟩
  have hb4 := keep_nil hk
  have B4 := Lib.hid (B3.out.trans (hb4.mono B3.out.size))
  have P4 := Lib.hid (P3.out.below hb4)
  have W4 := Lib.hid (show WhoS m w.heap.size (.slice (some ⟨w2.heap.size, 0, none⟩) m m) [] w4 from ⟨_, own_below OZ.out hb4, by simp, rfl⟩)
  have EB := best_all hbest
  obtain ⟨A5, c5, hu⟩ := own_form ho
  rw [castL_len] at hu
  obtain ⟨q0, hq0⟩ : ∃ q, out.length = q := ⟨_, rfl⟩
  have F0 := Lib.hid (show ∀ n, n < q0 → searchR B n m [] = none from fun n hn => few_none HBC.out (by rw [← EB, hq0]; exact hn))
  rw [hq0] at hu
  subst hu
  clear ho hbest hk hb4 EB hq0 hmk
  go_wp2
  go_loopw [11] (fun t wr => ∃ q : Nat, t = .int .i64 (q : Int) ∧ Hid (∀ n, n < q → searchR B n m [] = none) ∧ Hid (WhoS m w.heap.size (.slice (some ⟨w2.heap.size, 0, none⟩) m m) [] wr) ∧ Hid (PairAt wr b m B) ∧ Hid (Below w.heap.size w wr)) (fun t _ => m + 1 - (intOf t).toNat)
  case atStart => exact ⟨q0, rfl, F0, W4, P4, B4⟩
  case round =>
    obtain ⟨q, rfl, hF, hW, hP, hBw⟩ := hrel
    have hqm := none_le hF.out
    have hq12 : q ≤ 12 := by omega
    obtain ⟨R, hR⟩ : ∃ R, searchR B q m [] = R := ⟨_, rfl⟩
    have HR := Lib.hid hR
    obtain ⟨r, hr⟩ : ∃ r, R.isSome = r := ⟨_, rfl⟩
    have HRS := Lib.hid hr
    have CI := Lib.hid (coverFrom_any HBC.out b m q w.heap.size w2.heap.size m h12 hq12 HBN.out (Nat.le_refl _) m [] 0 wr hP.out hW.out rfl (by simp) (CovOk.nil B q))
    rw [hR] at CI
    clear hR hr
    go_wp2_with fail
    refine CI.out.mono ?_
    rintro e w5 ⟨he, hk5, hs5, ho5⟩
    rw [HRS.out] at he
    subst he
    have B5 := Lib.hid (hk5.toBelow hBw.out (Nat.le_refl _) (fun i hi e => by have := hge.out; omega))
    have S5 := Lib.hid hs5
    have P5 := Lib.hid (hP.out.keep hk5 HBN.out)
    have O5 := Lib.hid ho5
    clear hk5 hs5 ho5
    cases r with
    | true =>
      obtain ⟨o, ho⟩ : ∃ o, R = some o := Option.isSome_iff_exists.1 HRS.out
      have EC := Lib.hid (E.out.trans (cover_first hqm (HR.out.trans ho) hF.out))
      obtain ⟨hw6, hl6⟩ := O5.out o ho
      have OW := Lib.hid (hw6.all hl6)
      clear ho hw6 hl6
      go_wp2
      refine bodyPost_ret (v := .tuple #[.slice (some ⟨w2.heap.size, 0, none⟩) m m, .int .i64 (q : Int), .bool true]) (by simp [results, Try.results13, go_sem]) rfl ⟨_, by rw [EC.out]; rfl, by rw [EC.out]; exact OW.out, B5.out⟩
    | false =>
      have FN := Lib.hid (show ∀ n, n < q + 1 → searchR B n m [] = none from fun n hn => by
        by_cases e : n = q
        · rw [e, HR.out]
          cases h : R with
          | none => rfl
          | some x => have := HRS.out; rw [h] at this; cases this
        · exact hF.out n (by omega))
      go_wp2
      go_roundw
      case rel => exact ⟨q + 1, by go_num, FN, S5, P5, B5⟩
      case measure => simp [intOf]; omega
end Go.Proofs.Ytfofbnpgjdagkaa
