
/- Duties and covers, the model's side: IsCover, l13Search, LeastCover: contracts. -/
import Derived.Test.YtfofbnpgjdagkaaBothSpec
import Derived.Test.YtfofbnpgjdagkaaLivLib
namespace Go.Proofs.Ytfofbnpgjdagkaa
open Go.RowKit
set_option maxRecDepth 100000

/-! ### IsCover -/
/-- The numbers before k allow n for the i-th duty. -/
def FitI (p : Int) (mv : List Int) (l : List DutyD) (done : List Int) (n : Int) (k : Nat) : Prop := (List.range k).all (fun j => !(done[j]? == some n) || bothAt p mv l done.length j) = true
theorem FitI.zero (p : Int) (mv : List Int) (l : List DutyD) (done : List Int) (n : Int) : FitI p mv l done n 0 := rfl
theorem FitI.next {p : Int} {mv : List Int} {l : List DutyD} {done : List Int} {n : Int} {k : Nat} (h : FitI p mv l done n k) (h1 : (!(done[k]? == some n) || bothAt p mv l done.length k) = true) : FitI p mv l done n (k + 1) := by
  unfold FitI at h ⊢
  rw [List.range_succ, List.all_append, h]
  simpa using h1
theorem pCover_no {p : Int} {mv : List Int} {l : List DutyD} {done : List Int} {n : Int} {k : Nat} (hk : k < done.length) (h1 : (!(done[k]? == some n) || bothAt p mv l done.length k) = false) : pCover p mv l done n = false := by
  unfold pCover
  rw [List.all_eq_false.2 ⟨k, List.mem_range.2 hk, by rw [h1]; simp⟩, Bool.and_false]
theorem pCover_out {p : Int} {mv : List Int} {l : List DutyD} {done : List Int} {n : Int} (h : inB n 0 ((l.length : Int) - 1) = false) : pCover p mv l done n = false := by unfold pCover; rw [h]; rfl
theorem pCover_yes {p : Int} {mv : List Int} {l : List DutyD} {done : List Int} {n : Int} (h : inB n 0 ((l.length : Int) - 1) = true) (hF : FitI p mv l done n done.length) : pCover p mv l done n = true := by unfold pCover; rw [h]; exact hF
theorem some_ne {a b : Int} (h : (a == b) = false) : ((some a : Option Int) == some b) = false := by simpa using h
theorem some_eq' {a b : Int} (h : (a == b) = true) : ((some a : Option Int) == some b) = true := by simpa using h
set_option maxHeartbeats 16000000 in
theorem specIsCover (p : Int) (ymv : Value) (mv : List Int) (yl : Value) (l : List DutyD) (yw : Value) (who : List Int) (w : World) (rmv : SlInt w ymv mv) (rl : SlDuty w yl l) (rw' : SlInt w yw who) :
    Calls Try.prog 30 #[.int .i64 p, ymv, yl, yw] w fun e w' => e = .returned (.bool (isCovB p mv l who)) ∧ Below w.heap.size w w' := by
  have Rmv := Lib.hid rmv
  have HS := Lib.hid rl
  have RW := Lib.hid rw'
  have hlw := rw'.1
  have hll := rl.1
  obtain ⟨A0, c0, rfl⟩ := SlOf.form rmv
  obtain ⟨A1, c1, rfl⟩ := SlOf.form rl
  obtain ⟨A2, c2, rfl⟩ := SlOf.form rw'
  obtain ⟨nm, hnm⟩ : ∃ n, mv.length = n := ⟨_, rfl⟩
  obtain ⟨m, hm⟩ : ∃ n, l.length = n := ⟨_, rfl⟩
  have HM := Lib.hid hm
  obtain ⟨q, hq⟩ : ∃ n, who.length = n := ⟨_, rfl⟩
  have HQ := Lib.hid hq
  rw [hnm] at Rmv
  rw [hm] at hll HS
  rw [hq] at hlw RW
  rw [hnm, hm, hq]
  clear rmv rl rw' hnm hm hq
  obtain ⟨b1, hb1⟩ : ∃ b, dutiesB l = b := ⟨_, rfl⟩
  have H1 := Lib.hid hb1
  clear hb1
  have E0 := Lib.hid (show isCovB p mv l who = (b1 && (q == m) && runB (pCover p mv l) [] who) by unfold isCovB; rw [H1.out, HM.out, HQ.out])
  go_enter Try.func30, Try.ntmps30
  go_wp2_with fail
  refine (specDutiesOk _ l _ HS.out).mono ?_
  rw [H1.out]
  rintro e w1 ⟨rfl, hb1⟩
  have B1 := Lib.hid hb1
  clear hb1
  cases b1 with
  | false =>
    have E := Lib.hid (E0.out.trans (show _ = false by simp))
    go_wp2
    go_ret
    exact ⟨ret_bool E.out.symm, B1.out⟩
  | true =>
  have h12 : m ≤ 12 := by have := (dutiesB_all H1.out).1; have := HM.out; omega
  by_cases hqm : q = m
  rotate_left
  · have gq : ((q : Int) != (m : Int)) = true := by simp; omega
    have E := Lib.hid (E0.out.trans (show _ = false by rw [show (q == m) = false by simpa using hqm]; simp))
    go_wp2
    go_ret
    exact ⟨ret_bool E.out.symm, B1.out⟩
  subst hqm
  have E1 := Lib.hid (E0.out.trans (show _ = runB (pCover p mv l) [] who by simp))
  have gq : ((q : Int) != (q : Int)) = false := by simp
  go_wp2_with fail
  refine (specBoth p _ mv _ l _ (Rmv.out.below B1.out) (HS.out.below B1.out) (by rw [HM.out]; exact h12)).mono ?_
  rintro e w2 ⟨vb, rs, rfl, hrb, hrs, hb2⟩
  have B2 := Lib.hid (B1.out.trans (hb2.mono B1.out.size))
  obtain ⟨hrl, hrat⟩ := bothM_at hrs
  have HRB := Lib.hid hrb
  have HRAT := Lib.hid hrat
  have HRL := Lib.hid (hrl.trans HM.out)
  obtain ⟨A3, c3, rfl⟩ := hrb.form
  obtain ⟨nr, hnr⟩ : ∃ n, rs.length = n := ⟨_, rfl⟩
  have hnrq : nr = q := by rw [← hnr]; exact HRL.out
  subst hnrq
  rw [hnr]
  clear hrb hrs hb2 hrl hrat hnr
  go_wp2
  go_loopw [29] (fun t wr => ∃ i : Nat, i ≤ nr ∧ t = .int .i64 (i : Int) ∧ Hid (RunTo (pCover p mv l) who i) ∧ Hid (Below w2.heap.size w2 wr)) (fun t _ => nr - (intOf t).toNat)
  case atStart => exact ⟨0, Nat.zero_le _, rfl, Lib.hid (RunTo.zero _ _), Lib.hid (Below.refl _ _)⟩
  case round =>
    obtain ⟨i, hi, rfl, hT, hb⟩ := hrel
    obtain ⟨wo, rfl⟩ : ∃ W, W = wr := ⟨_, rfl⟩
    have BR := Lib.hid (B2.out.trans (hb.out.mono B2.out.size))
    by_cases hlt : i < nr
    rotate_left
    · obtain rfl : i = nr := by omega
      have E := Lib.hid (E1.out.trans (RunTo.all (by rw [HQ.out]; exact hT.out)))
      go_wp2
      go_ret
      exact ⟨ret_bool E.out.symm, BR.out⟩
    obtain ⟨n, hn⟩ : ∃ x, who[i]? = some x := ⟨_, List.getElem?_eq_getElem (by have := HQ.out; omega)⟩
    have HX := Lib.hid hn
    have HTL := Lib.hid (show (who.take i).length = i by rw [List.length_take, HQ.out]; omega)
    obtain ⟨r, hr, hrlen, hrx⟩ := HRAT.out i (by rw [HM.out]; exact hlt)
    rw [HM.out] at hrlen hrx
    have HRX := Lib.hid hrx
    have hsb := HRB.out.2 r (List.mem_of_getElem? hr)
    obtain ⟨A4, c4, hv4⟩ := SlOf.form hsb
    rw [hrlen] at hv4
    rcases RW.out.2 with ⟨he, _⟩ | ⟨g, o, c', e, lpos, lcap, lc⟩
    · rw [he] at hn; simp at hn
    injection e with ea e2 e3
    subst ea
    clear e2 e3 lpos lcap
    rcases HRB.out.1.2 with ⟨he, _⟩ | ⟨gb, ob, cb', e, bpos, bcap, bc⟩
    · rw [he] at hr; simp at hr
    injection e with ea e2 e3
    subst ea
    clear e2 e3 bpos bcap
    have hrv := browAt bc hr
    rw [hv4] at hrv hsb
    have HRV := Lib.hid hrv
    rcases hsb.2 with ⟨he, _⟩ | ⟨gr, or, cr', e, rpos, rcap, rc⟩
    · rw [he] at hrlen; simp at hrlen; omega
    injection e with ea e2 e3
    subst ea
    have HRC := Lib.hid (fun (j : Nat) (hj : j < nr) => boolAt rc (HRX.out j hj))
    clear e2 e3 rpos rcap rc hsb hrv hr hrlen hrx hv4 bc
    have HLC := Lib.hid lc
    have y0 := cell_onV (SlInt.cells lc _ _ hn) BR.out
    obtain ⟨c, hc⟩ : ∃ b, inB n 0 ((nr : Int) - 1) = b := ⟨_, rfl⟩
    have HC := Lib.hid hc
    have ws : IntKind.i64.wrap ((nr : Int) - 1) = (nr : Int) - 1 := by rw [IntKind.wrap_i64]; omega
    clear hc hn lc
    go_wp2_with fail
    refine (l01In_any _ _ _ _).mono ?_
    rw [HC.out]
    rintro e w3 ⟨rfl, rfl⟩
    clear y0
    cases c with
    | false =>
      have E := Lib.hid (E1.out.trans (run_no HX.out (pCover_out (by rw [HM.out]; exact HC.out))))
      go_wp2
      go_ret
      exact ⟨ret_bool E.out.symm, BR.out⟩
    | true =>
    clear ws
    go_wp2
    go_loopw [12] (fun t wx => ∃ j : Nat, j ≤ i ∧ t = .int .i64 (j : Int) ∧ Hid (FitI p mv l (who.take i) n j) ∧ Hid (Below wo.heap.size wo wx)) (fun t _ => i - (intOf t).toNat)
    case atStart => exact ⟨0, Nat.zero_le _, rfl, Lib.hid (FitI.zero _ _ _ _ _), Lib.hid (Below.refl _ _)⟩
    case round =>
      obtain ⟨j, hj, rfl, hF, hbx⟩ := hrel
      have BX := Lib.hid (BR.out.trans (hbx.out.mono BR.out.size))
      by_cases hji : j < i
      rotate_left
      · obtain rfl : j = i := by omega
        have T2 := Lib.hid (hT.out.next HX.out (pCover_yes (by rw [HM.out]; exact HC.out) (by rw [HTL.out]; exact hF.out)))
        have hb9 := Lib.hid (hb.out.trans (hbx.out.mono hb.out.size))
        go_wp2
        go_roundw
        case rel => exact ⟨j + 1, by omega, by go_num, T2, hb9⟩
        case measure => simp [intOf]; omega
      obtain ⟨n', hn'⟩ : ∃ x, who[j]? = some x := ⟨_, List.getElem?_eq_getElem (by have := HQ.out; omega)⟩
      have HTJ := Lib.hid (show (who.take i)[j]? = some n' by rw [List.getElem?_take_of_lt hji]; exact hn')
      have y1 := cell_onV (SlInt.cells HLC.out _ _ hn') BX.out
      clear hn'
      cases he : (n' == n) with
      | false =>
        have F2 := Lib.hid (hF.out.next (by rw [HTJ.out, some_ne he]; rfl))
        go_wp2
        go_roundw
        case rel => exact ⟨j + 1, by omega, by go_num, F2, hbx⟩
        case measure => simp [intOf]; omega
      | true =>
        obtain ⟨b, hbb⟩ : ∃ b, bothAt p mv l i j = b := ⟨_, rfl⟩
        have HBB := Lib.hid hbb
        have hjn : j < nr := by omega
        have x0 := cell_onV HRV.out (hb.out.trans (hbx.out.mono hb.out.size))
        have x1 := cell_onV (HRC.out j hjn) (hb.out.trans (hbx.out.mono hb.out.size))
        rw [HBB.out] at x1
        clear hbb
        cases b with
        | true =>
          have F2 := Lib.hid (hF.out.next (by rw [HTL.out, HBB.out, Bool.or_true]))
          go_wp2
          go_roundw
          case rel => exact ⟨j + 1, by omega, by go_num, F2, hbx⟩
          case measure => simp [intOf]; omega
        | false =>
          have E := Lib.hid (E1.out.trans (run_no HX.out (pCover_no (k := j) (by rw [HTL.out]; exact hji) (by rw [HTL.out, HBB.out, HTJ.out, some_eq' he]; rfl))))
          go_wp2
          go_ret
          exact ⟨ret_bool E.out.symm, BX.out⟩


/-! ### The search -/
def srchF (B : Nat → Nat → Bool) (most k : Nat) (who : List Nat) (n : Nat) : Option (List Nat) := if fitsP B who n = true then searchR B most k (who ++ [n]) else none
theorem searchR_succ (B : Nat → Nat → Bool) (most k : Nat) (who : List Nat) : searchR B most (k + 1) who = (List.range (min (usedP who + 1) most)).findSome? (srchF B most k who) := rfl
theorem usedP_bound {l : List Nat} {M : Nat} (h : ∀ n ∈ l, n < M) : usedP l ≤ M := by
  have : ∀ (l : List Nat) (u : Nat), u ≤ M → (∀ n ∈ l, n < M) → l.foldl (fun u n => max u (n + 1)) u ≤ M := by
    intro l
    induction l with
    | nil => intro u hu _; exact hu
    | cons y l ih =>
      intro u hu hl
      rw [List.foldl_cons]
      have := hl y List.mem_cons_self
      exact ih _ (by omega) (fun n hn => hl n (List.mem_cons_of_mem _ hn))
  exact this l 0 (Nat.zero_le _) h
theorem usedP_next {who : List Nat} {i n : Nat} (h : who[i]? = some n) : usedP (who.take (i + 1)) = max (usedP (who.take i)) (n + 1) := by rw [take_snoc' who i n h, usedP_snoc]
def fitTo (B : Nat → Nat → Bool) (who : List Nat) (n k : Nat) : Bool := (List.range k).all (fun j => !(who[j]? == some n) || B who.length j)
theorem fitTo_next (B : Nat → Nat → Bool) (who : List Nat) (n k : Nat) : fitTo B who n (k + 1) = (fitTo B who n k && (!(who[k]? == some n) || B who.length k)) := by unfold fitTo; rw [List.range_succ, List.all_append]; simp
theorem castL_at {l : List Nat} {i n : Nat} (h : l[i]? = some n) : (castL l)[i]? = some (n : Int) := by unfold castL; rw [List.getElem?_map, h]; rfl
theorem castL_len (l : List Nat) : (castL l).length = l.length := by unfold castL; rw [List.length_map]
theorem castL_snoc (l : List Nat) (n : Nat) : castL (l ++ [n]) = castL l ++ [(n : Int)] := by unfold castL; rw [List.map_append]; rfl
theorem find_at {α β : Type} {f : α → Option β} {l : List α} {k : Nat} {x : α} {y : β} (h : (l.take k).findSome? f = none) (hx : l[k]? = some x) (hy : f x = some y) : l.findSome? f = some y := by
  have e : l = l.take k ++ (x :: l.drop (k + 1)) := by
    rw [← (List.getElem?_eq_some_iff.1 hx).2, List.getElem_cons_drop, List.take_append_drop]
  rw [e, List.findSome?_append, h, List.findSome?_cons, hy]
  rfl
theorem find_next {α β : Type} {f : α → Option β} {l : List α} {k : Nat} {x : α} (h : (l.take k).findSome? f = none) (hx : l[k]? = some x) (hy : f x = none) : (l.take (k + 1)).findSome? f = none := by
  rw [take_snoc' l k x hx, List.findSome?_append, h, List.findSome?_cons, hy]
  rfl
/-- What l13Search leaves. -/
def NewSearch (R : Option (List Nat)) (base : Nat) (w : World) (e : Ending) (w' : World) : Prop := ∃ v, e = .returned (.tuple #[v, .bool R.isSome]) ∧ OwnInt w' base v (castL (R.getD [])) ∧ Below w.heap.size w w'
set_option maxHeartbeats 32000000 in
theorem specSearch (p : Int) (mv : List Int) (l : List DutyD) (h12 : l.length ≤ 12) (vb : Value) (rs : List BRow) (hrs : rs.map BRow.l = bothM p mv l) (most : Nat) (hm12 : most ≤ 12) : ∀ (k : Nat) (vw : Value) (who : List Nat) (base : Nat) (w : World), SlRows w vb rs → OwnInt w base vw (castL who) → base ≤ w.heap.size → who.length + k = l.length → (∀ n ∈ who, n < most) →
    Calls Try.prog 56 #[vb, vw, .int .i64 (most : Int)] w (NewSearch (searchR (bothAt p mv l) most k who) base w) := by
  intro k
  induction k with
  | zero =>
    intro vw who base w hrb how hbase hlen hlt
    have HO := Lib.hid how
    obtain ⟨hrl, -⟩ := bothM_at hrs
    obtain ⟨A3, c3, rfl⟩ := hrb.form
    obtain ⟨A1, c1, rfl⟩ := own_form how
    have HL := Lib.hid (show (castL who).length = l.length by rw [castL_len]; omega)
    rw [castL_len, hrl, show who.length = l.length by omega]
    clear hrb how hbase hlen hlt hrl
    go_enter Try.func56, Try.ntmps56
    go_wp2
    refine bodyPost_ret (v := .tuple #[.slice A1 l.length c1, .bool true]) (by simp [results, Try.results56, go_sem]) rfl ⟨.slice A1 l.length c1, rfl, ?_, Below.refl _ _⟩
    have h := HO.out
    rw [HL.out] at h
    exact h
  | succ k ih =>
    intro vw who base w hrb how hbase hlen hlt
    have IH := Lib.hid ih
    have HRB := Lib.hid hrb
    have HO := Lib.hid how
    have HLT := Lib.hid hlt
    obtain ⟨hrl, hrat⟩ := bothM_at hrs
    have E0 := Lib.hid (searchR_succ (bothAt p mv l) most k who)
    have hbu : ∀ i, usedP (who.take i) ≤ 12 := fun i => Nat.le_trans (usedP_bound (fun n hn => hlt n (List.mem_of_mem_take hn))) hm12
    have HBU := Lib.hid hbu
    obtain ⟨A3, c3, rfl⟩ := hrb.form
    obtain ⟨A1, c1, rfl⟩ := own_form how
    rw [castL_len] at HO ⊢
    obtain ⟨nr, hnr⟩ : ∃ n, rs.length = n := ⟨_, rfl⟩
    obtain ⟨m, hm⟩ : ∃ n, who.length = n := ⟨_, rfl⟩
    obtain ⟨N, hN⟩ : ∃ n, l.length = n := ⟨_, rfl⟩
    have HM := Lib.hid hm
    have HN := Lib.hid hN
    have hnN : nr = N := by omega
    subst hnN
    have hmn : m < nr := by omega
    have HMK := Lib.hid (show m + (k + 1) = nr by omega)
    have SW := Lib.hid (show SlInt w (.slice A1 m c1) (castL who) from own_sl intLen (by rw [hm] at HO; exact HO.out) (by rw [castL_len]; omega))
    -- the row behind who
    obtain ⟨r, hr, hrlen, hrx⟩ := hrat m (by omega)
    rw [hN] at hrlen hrx h12
    have HRX := Lib.hid hrx
    have hsb := hrb.2 r (List.mem_of_getElem? hr)
    obtain ⟨A4, c4, hv4⟩ := SlOf.form hsb
    rw [hrlen] at hv4
    rcases hrb.1.2 with ⟨he, _⟩ | ⟨gb, ob, cb', e, bpos, bcap, bc⟩
    · rw [he] at hr; simp at hr
    injection e with ea e2 e3
    subst ea
    clear e2 e3 bpos bcap
    have hrv := browAt bc hr
    rw [hv4] at hrv hsb
    have HRV := Lib.hid hrv
    rcases hsb.2 with ⟨he, _⟩ | ⟨gr, or, cr', e, rpos, rcap, rc⟩
    · rw [he] at hrlen; simp at hrlen; omega
    injection e with ea e2 e3
    subst ea
    have HRC := Lib.hid (fun (j : Nat) (hj : j < nr) => boolAt rc (HRX.out j hj))
    clear e2 e3 rpos rcap rc hsb hrv hr hrlen hrx hv4 bc
    have HWC := Lib.hid (fun (i n : Nat) (h : who[i]? = some n) => show ∃ g o c, A1 = some ⟨g, o, none⟩ ∧ c1 = c ∧ w.cell? ⟨g, o + i, none⟩ = some (.int .i64 (n : Int)) from by
      rcases SW.out.2 with ⟨he, _⟩ | ⟨g, o, c', e, _, _, lc⟩
      · have := castL_at h; rw [he] at this; simp at this
      · injection e with e1 e2 e3
        exact ⟨g, o, c', e1, e3, SlInt.cells lc _ _ (castL_at h)⟩)
    rw [hN] at IH
    rw [hnr] at IH HRB
    rw [hm] at HO ⊢
    rw [hnr]
    have dn2 : ((m : Int) == (nr : Int)) = false := by simp; omega
    clear hrb how hlen hlt ih hrl hrat hnr hm hN hbu
    go_enter Try.func56, Try.ntmps56
    go_wp2
    go_loopw [8, 25] (fun q t wr => ∃ i : Nat, i ≤ m ∧ t = .int .i64 (i : Int) ∧ q = .int .i64 ((usedP (who.take i) : Nat) : Int) ∧ Hid (Below w.heap.size w wr)) (fun _ t _ => m - (intOf t).toNat)
    case atStart => exact ⟨0, Nat.zero_le _, rfl, rfl, Lib.hid (Below.refl _ _)⟩
    case round =>
      obtain ⟨i, hi, rfl, rfl, hb⟩ := hrel
      by_cases hlt : i < m
      · obtain ⟨n, hn⟩ : ∃ n, who[i]? = some n := ⟨_, List.getElem?_eq_getElem (by have := HM.out; omega)⟩
        obtain ⟨g, o, c', rfl, _, hc⟩ := HWC.out i n hn
        have y0 := cell_onV hc hb.out
        have hn12 : n < 12 := by have := HLT.out n (List.mem_of_getElem? hn); omega
        have EU := Lib.hid (usedP_next hn)
        have hu12 := HBU.out i
        obtain ⟨U, hU⟩ : ∃ u, usedP (who.take i) = u := ⟨_, rfl⟩
        rw [hU] at hu12 EU ⊢
        have wn : IntKind.i64.wrap ((n : Int) + 1) = (n : Int) + 1 := by rw [IntKind.wrap_i64]; omega
        obtain ⟨M, hM⟩ : ∃ M : Nat, max U (n + 1) = M := ⟨_, rfl⟩
        have q1 : (if (U : Int) < (n : Int) + 1 then (n : Int) + 1 else (U : Int)) = (M : Int) := by rw [← hM]; split <;> omega
        have q2 : (if (n : Int) + 1 < (U : Int) then (U : Int) else (n : Int) + 1) = (M : Int) := by rw [← hM]; split <;> omega
        have q3 : max (U : Int) ((n : Int) + 1) = (M : Int) := by rw [← hM]; omega
        have EM := Lib.hid (EU.out.trans hM)
        clear hc hn hU hM EU hu12 hn12
        go_wp2
        go_roundw
        case rel => exact ⟨i + 1, by omega, by go_num, by rw [EM.out], hb⟩
        case measure => simp [intOf]; omega
      obtain rfl : i = m := by omega
      obtain ⟨U, hU⟩ : ∃ u, usedP who = u := ⟨_, rfl⟩
      have EU := Lib.hid (show usedP (who.take i) = U by rw [List.take_of_length_le (by rw [HM.out]; omega), hU])
      have hu12 : U ≤ 12 := by have := HBU.out i; have := EU.out; omega
      obtain ⟨Z, hZ⟩ : ∃ z, min (U + 1) most = z := ⟨_, rfl⟩
      have E1 := Lib.hid (E0.out.trans (show _ = (List.range Z).findSome? (srchF (bothAt p mv l) most k who) by rw [hU, hZ]))
      have HZ := Lib.hid hZ
      have hz13 : Z ≤ 13 := by omega
      rw [EU.out]
      have B1 := Lib.hid hb.out
      clear hU hZ hb
      go_wp2
      go_loopw [11] (fun t wx => ∃ n : Nat, n ≤ Z ∧ t = .int .i64 (n : Int) ∧ Hid (((List.range Z).take n).findSome? (srchF (bothAt p mv l) most k who) = none) ∧ Hid (Below w.heap.size w wx)) (fun t _ => Z - (intOf t).toNat)
      case atStart => exact ⟨0, Nat.zero_le _, rfl, Lib.hid rfl, B1⟩
      case round =>
        obtain ⟨n, hn, rfl, hF, hb⟩ := hrel
        obtain ⟨wo, rfl⟩ : ∃ W, W = wr := ⟨_, rfl⟩
        by_cases hlt2 : n < Z
        rotate_left
        · obtain rfl : n = Z := by omega
          have E := Lib.hid (E1.out.trans (show _ = none by have h := hF.out; rw [List.take_of_length_le (by simp)] at h; exact h))
          by_cases hnu : n ≤ U
          · have g1 : decide ((n : Int) ≤ (U : Int)) = true := decide_eq_true (by omega)
            have hnm : ¬ n < most := by have := HZ.out; omega
            have g2 : decide (n < most) = false := decide_eq_false hnm
            go_wp2
            refine bodyPost_ret (v := .tuple #[.slice none 0 0, .bool false]) (by simp [results, Try.results56, go_sem]) rfl ⟨.slice none 0 0, by rw [E.out]; rfl, by rw [E.out]; exact World.ownsRow_nil _ _ _ _, hb.out⟩
          · have g1 : decide ((n : Int) ≤ (U : Int)) = false := decide_eq_false (by omega)
            go_wp2
            refine bodyPost_ret (v := .tuple #[.slice none 0 0, .bool false]) (by simp [results, Try.results56, go_sem]) rfl ⟨.slice none 0 0, by rw [E.out]; rfl, by rw [E.out]; exact World.ownsRow_nil _ _ _ _, hb.out⟩
        have g1 : decide ((n : Int) ≤ (U : Int)) = true := decide_eq_true (by have := HZ.out; omega)
        have hnm : n < most := by have := HZ.out; omega
        have g2 : decide (n < most) = true := decide_eq_true hnm
        have g3 : decide (n ≤ U) = true := decide_eq_true (by have := HZ.out; omega)
        have HNM := Lib.hid hnm
        have HRN := Lib.hid (show (List.range Z)[n]? = some n from List.getElem?_range hlt2)
        go_wp2
        go_loopw [12, 46] (fun q t wx => ∃ j : Nat, j ≤ i ∧ t = .int .i64 (j : Int) ∧ q = .bool (fitTo (bothAt p mv l) who n j) ∧ Hid (Below w.heap.size w wx)) (fun _ t _ => i - (intOf t).toNat)
        case atStart => exact ⟨0, Nat.zero_le _, rfl, rfl, hb⟩
        case round =>
          obtain ⟨j, hj, rfl, rfl, hbx⟩ := hrel
          have EF := Lib.hid (fitTo_next (bothAt p mv l) who n j)
          obtain ⟨ft, hft⟩ : ∃ b, fitTo (bothAt p mv l) who n j = b := ⟨_, rfl⟩
          have HFT := Lib.hid hft
          rw [hft] at EF ⊢
          clear hft
          by_cases hji : j < i
          · obtain ⟨x, hx⟩ : ∃ x, who[j]? = some x := ⟨_, List.getElem?_eq_getElem (by have := HM.out; omega)⟩
            obtain ⟨g, o, c', rfl, _, hc⟩ := HWC.out j x hx
            have y0 := cell_onV hc hbx.out
            rw [hx] at EF
            clear hc hx
            by_cases hxn : x = n
            · have gx : ((x : Int) == (n : Int)) = true := by simp; omega
              obtain ⟨b, hbb⟩ : ∃ b, bothAt p mv l i j = b := ⟨_, rfl⟩
              have HBB := Lib.hid hbb
              have hjn : j < nr := by omega
              have x0 := cell_onV HRV.out hbx.out
              have x1 := cell_onV (HRC.out j hjn) hbx.out
              rw [HBB.out] at x1
              have EG := Lib.hid (EF.out.trans (show _ = (ft && b) by rw [HM.out, HBB.out, show ((some x : Option Nat) == some n) = true by simpa using hxn]; rfl))
              clear hbb hxn EF
              cases b with
              | true =>
                have EH := Lib.hid (EG.out.trans (Bool.and_true _))
                go_wp2
                go_roundw
                case rel => exact ⟨j + 1, by omega, by go_num, by rw [EH.out], hbx⟩
                case measure => simp [intOf]; omega
              | false =>
                have EH := Lib.hid (EG.out.trans (Bool.and_false _))
                go_wp2
                go_roundw
                case rel => exact ⟨j + 1, by omega, by go_num, by rw [EH.out], hbx⟩
                case measure => simp [intOf]; omega
            · have gx : ((x : Int) == (n : Int)) = false := by simp; omega
              have EH := Lib.hid (EF.out.trans (show _ = ft by rw [show ((some x : Option Nat) == some n) = false by simpa using hxn]; simp))
              clear hxn EF
              go_wp2
              go_roundw
              case rel => exact ⟨j + 1, by omega, by go_num, by rw [EH.out], hbx⟩
              case measure => simp [intOf]; omega
          obtain rfl : j = i := by omega
          have HP := Lib.hid (show fitsP (bothAt p mv l) who n = ft by rw [← HFT.out]; unfold fitsP fitTo; rw [HM.out])
          cases ft with
          | false =>
            have F2 := Lib.hid (find_next hF.out HRN.out (show srchF (bothAt p mv l) most k who n = none from if_neg (by rw [HP.out]; simp)))
            go_wp2
            go_roundw
            case rel => exact ⟨n + 1, by omega, by go_num, F2, hbx⟩
            case measure => simp [intOf]; omega
          | true =>
            have EF2 := Lib.hid (show srchF (bothAt p mv l) most k who n = searchR (bothAt p mv l) most k (who ++ [n]) from if_pos HP.out)
            have L1 := Lib.hid (show Liv wr (wr.alloc (.cells #[] 3)) [(0, .slice (some ⟨wr.heap.size, 0, none⟩) 0 0, [])] from Liv.build (Liv.nil wr) 0 [] (by simp))
            have RS := Lib.hid (show SlInt (wr.alloc (.cells #[] 3)) (.slice A1 j c1) (castL who) from SlInt.below SW.out (hbx.out.trans ((Joins.below_alloc1 wr _).mono hbx.out.size)))
            have HCL := Lib.hid (show (castL who).length = j by rw [castL_len, HM.out])
            have hbz : base ≤ wr.heap.size := Nat.le_trans hbase hbx.out.size
            clear g1 g2 g3 hnm
            go_wp2_with (first | (at_builtin; refine wpList_plain rfl fun K hK => wp_of_step (ops := #[]) rfl (step_liv L1.out (L' := []) (τ := 0) (v := .slice (some ⟨wr.heap.size, 0, none⟩) 0 0) (u := .slice A1 j c1) (l := []) (m := castL who) 0 rfl (.tmp 70) (.tmp 71) rfl rfl rfl List.mem_cons_self RS.out (by rw [HCL.out]; simp; omega) (fun q hq => by cases hq) ?_); intro v5 x5 hl5; refine hK _ _ ?_; have L6 := Lib.hid (show Liv wr (x5.alloc (.cells #[.int .i64 (n : Int)] 3)) ((1, .slice (some ⟨x5.heap.size, 0, none⟩) 1 1, [(n : Int)]) :: [(0, v5, castL who)]) from Liv.build hl5 1 [(n : Int)] (by simp)); clear hl5) | (at_builtin; refine wpList_plain rfl fun K hK => wp_of_step (ops := #[]) rfl (step_liv L6.out (L' := []) (τ := 0) (v := v5) (u := .slice (some ⟨x5.heap.size, 0, none⟩) 1 1) (l := castL who) (m := [(n : Int)]) 0 rfl (.tmp 72) (.tmp 74) rfl rfl rfl (List.mem_cons_of_mem _ List.mem_cons_self) (own_sl intLen (L6.out.own _ List.mem_cons_self) (by simp)) (by rw [HCL.out]; simp; omega) (fun q hq => by cases hq) ?_); intro v7 x7 hl7; refine hK _ _ ?_; have L7 := Lib.hid hl7; clear hl7) | fail)
            have B7 := Lib.hid (hbx.out.trans (L7.out.low.mono hbx.out.size))
            have O7 := Lib.hid (show OwnInt x7 base v7 (castL (who ++ [n])) by rw [castL_snoc]; exact own_lo (L7.out.own _ List.mem_cons_self) hbz)
            have CI := Lib.hid (IH.out v7 (who ++ [n]) base x7 (HRB.out.below B7.out) O7.out (Nat.le_trans hbase B7.out.size) (by rw [List.length_append, HM.out]; have := HMK.out; simp; omega) (fun y hy => by rcases List.mem_append.1 hy with h | h; exact HLT.out y h; simp at h; rw [h]; exact HNM.out))
            obtain ⟨R, hR⟩ : ∃ R, searchR (bothAt p mv l) most k (who ++ [n]) = R := ⟨_, rfl⟩
            rw [hR] at CI EF2
            obtain ⟨rr, hrr⟩ : ∃ b, R.isSome = b := ⟨_, rfl⟩
            have HRR := Lib.hid hrr
            clear hR hrr
            refine CI.out.mono ?_
            rintro e w8 ⟨v8, rfl, ho8, hb8⟩
            rw [HRR.out]
            have B8 := Lib.hid (B7.out.trans (hb8.mono B7.out.size))
            have O8 := Lib.hid ho8
            obtain ⟨A8, c8, hv8⟩ := own_form ho8
            obtain ⟨n8, hn8⟩ : ∃ n, (castL (R.getD [])).length = n := ⟨_, rfl⟩
            rw [hn8] at hv8
            subst hv8
            clear ho8 hb8 hn8 CI L7 L6 L1
            cases rr with
            | false =>
              have F2 := Lib.hid (find_next hF.out HRN.out (EF2.out.trans (by have := HRR.out; simpa using this)))
              go_wp2
              go_roundw
              case rel => exact ⟨n + 1, by omega, by go_num, F2, B8⟩
              case measure => simp [intOf]; omega
            | true =>
              obtain ⟨out, hout⟩ := Option.isSome_iff_exists.1 HRR.out
              have E := Lib.hid (show searchR (bothAt p mv l) most (k + 1) who = some out from E1.out.trans (find_at hF.out HRN.out (EF2.out.trans hout)))
              have O9 := Lib.hid (show OwnInt w8 base (.slice A8 n8 c8) (castL out) by have h := O8.out; rw [hout] at h; exact h)
              clear hout
              go_wp2
              refine bodyPost_ret (v := .tuple #[.slice A8 n8 c8, .bool true]) (by simp [results, Try.results56, go_sem]) rfl ⟨.slice A8 n8 c8, by rw [E.out]; rfl, by rw [E.out]; exact O9.out, B8.out⟩

end Go.Proofs.Ytfofbnpgjdagkaa
