
/- What LocksLaw rests on, part 10: contracts and mathematics. -/
import Derived.Test.YtlddampjbmklkaaLk6
import Derived.Test.YtlddampjbmklkaaLk5
import Derived.Test.YtlddampjbmklkaaLk1
import Derived.Deep.DeepCutAuto
namespace Go.Proofs.Ytlddampjbmklkaa
open Go.RowKit
set_option maxRecDepth 100000
def BackAt (L : Int) (n : Nat) (l : List Int) : Prop :=
  ∀ (wd w : World) (g cap : Nat) (vs : List Value) (ls : List (List Int)) (yl : Value), LanesAt wd w g vs ls → ls.length = n → l.length ≤ 8 → (∀ x ∈ l, 1 ≤ x ∧ x ≤ 400) → (∀ k ∈ ls, (∀ x ∈ k, 1 ≤ x ∧ x ≤ 400) ∧ k.length + l.length ≤ 8 ∧ sumZ k ≤ L) →
    (∀ i j : Nat, i ≤ j → j < n → ls[i]? = some [] → ls[j]? = some []) → SlInt wd yl l →
    Calls Try.prog 86 #[.slice (some ⟨g, 0, none⟩) n cap, yl, .int .i64 L] w fun e w' => ∃ v vs', e = .returned (.tuple #[v, .bool (packR L n l (ls.map sumZ)).isSome]) ∧ LanesAt wd w' g vs' ls ∧
      OwnInt w' wd.heap.size v ((packR L n l (ls.map sumZ)).getD []) ∧ v.ownBlock ≠ some g
theorem getD_sums {ls : List (List Int)} {j : Nat} {k : List Int} (h : ls[j]? = some k) : (ls.map sumZ).getD j 0 = sumZ k := by simp [List.getD, h]
theorem set_sums (ls : List (List Int)) (j : Nat) (k : List Int) (x : Int) : (ls.set j (k ++ [x])).map sumZ = (ls.map sumZ).set j (sumZ k + x) := by rw [List.map_set, sumZ_snoc]
theorem packR_len {L : Int} {n : Nat} : ∀ {l us s : List Int}, packR L n l us = some s → s.length = l.length
  | [], us, s, h => by injection h with h; subst h; rfl
  | x :: l, us, s, h => by
    obtain ⟨i, out, -, -, rfl, -, ho⟩ := laneR_some h
    simp [packR_len ho]
set_option maxHeartbeats 16000000 in
theorem backStep (L : Int) (n : Nat) (hn : n ≤ 24) (l0 : List Int) (ih0 : ∀ x l, l0 = x :: l → BackAt L n l) : BackAt L n l0 := by
  intro wd w g cap vs ls yl hA hls hl8 hll hlk hz hy
  have HIH := Lib.hid ih0
  have HLS := Lib.hid hls
  have HLL := Lib.hid hll
  have HLK := Lib.hid hlk
  have HZ := Lib.hid hz
  have HY := Lib.hid hy
  have HA := Lib.hid hA
  obtain ⟨A, c, rfl⟩ := SlOf.form hy
  cases l0 with
  | nil =>
    clear hA hls hll hlk hz hy ih0
    go_enter Try.func86, Try.ntmps86
    go_wp2
    refine bodyPost_ret (v := .tuple #[.slice none 0 0, .bool true]) (by simp [results, Try.results86, go_sem]) rfl ⟨_, vs, rfl, HA.out, World.ownsRow_nil _ _ _ _, by simp [Value.ownBlock]⟩
  | cons x l =>
    obtain ⟨x1, x2⟩ := hll x (by simp)
    rcases hy.2 with ⟨he, _⟩ | ⟨gl, ol, cl, e, -, hcap, hc⟩
    · cases he
    injection e with eA _ ec
    subst eA ec
    have YX := Lib.hid (SlInt.cells hc 0 x rfl)
    have YT0 := SlOf.dropP hy (k := 1) (by simp)
    obtain ⟨m, hm⟩ : ∃ m, l.length = m := ⟨_, rfl⟩
    have e1 : (x :: l).length = m + 1 := by simp [hm]
    rw [e1, show m + 1 - 1 = m by omega, ← hm] at YT0
    have YT := Lib.hid (show SlInt wd (.slice (some ⟨gl, ol + 1, none⟩) l.length (c - 1)) l from YT0)
    have hm8 : m ≤ 7 := by simp at hl8; omega
    rw [e1] at hcap ⊢
    obtain ⟨R, hR⟩ : ∃ R, packR L n l = R := ⟨_, rfl⟩
    obtain ⟨us, hus⟩ : ∃ us, ls.map sumZ = us := ⟨_, rfl⟩
    have E1 := Lib.hid (show packR L n (x :: l) us = laneR L x us R 0 n by rw [← hR]; rfl)
    have HR := Lib.hid hR
    have HUS := Lib.hid hus
    have HM := Lib.hid hm
    rw [hus]
    clear hA hls hll hlk hz hy ih0 hc hR hus hm e1 YT0 hl8
    go_enter Try.func86, Try.ntmps86
    go_wp2
    go_loopw [16] (fun t wr => ∃ (j : Nat) (ws : List Value), j ≤ n ∧ t = .int .i64 (j : Int) ∧ Hid (packR L n (x :: l) us = laneR L x us R j (n - j)) ∧ Hid (LanesAt wd wr g ws ls) ∧ Hid (∀ i : Nat, i < j → ls[i]? ≠ some [] ∨ L < x)) (fun t _ => n - (intOf t).toNat)
    case atStart => exact ⟨0, vs, Nat.zero_le _, rfl, E1, HA, Lib.hid (fun i hi => by omega)⟩
    case round =>
      obtain ⟨j, ws, hj, rfl, hE, hA, hN⟩ := hrel
      by_cases hjn : j < n
      rotate_left
      · obtain rfl : j = n := by omega
        have E := Lib.hid (show packR L j (x :: l) us = none by rw [hE.out, Nat.sub_self]; rfl)
        go_wp2
        refine bodyPost_ret (v := .tuple #[.slice none 0 0, .bool false]) (by simp [results, Try.results86, go_sem]) rfl ⟨.slice none 0 0, ws, by rw [E.out]; rfl, hA.out, by rw [E.out]; exact World.ownsRow_nil _ _ _ _, by simp [Value.ownBlock]⟩
      obtain ⟨v, k, hv, hk⟩ := hA.out.at (i := j) (by have := HLS.out; omega)
      obtain ⟨Av, cv, rfl⟩ := own_form (hA.out.own j v k hv hk)
      obtain ⟨hkv, hkl, hkL⟩ := HLK.out k (List.mem_of_getElem? hk)
      have hk8 : k.length + m + 1 ≤ 8 := by have := HM.out; simp at hkl; omega
      have HV := Lib.hid hv
      have HK := Lib.hid hk
      have HKV := Lib.hid hkv
      have yv : wr.cell? ⟨g, j, none⟩ = some (.slice Av k.length cv) := hA.out.cell hv
      have yx : wr.cell? ⟨gl, ol, none⟩ = some (.int .i64 x) := cell_onV YX.out hA.out.low
      have HUJ := Lib.hid (show us.getD j 0 = sumZ k by rw [← HUS.out]; exact getD_sums hk)
      have A2 := Lib.hid hA.out.drew
      obtain ⟨q, hq⟩ : ∃ q, k.length = q := ⟨_, rfl⟩
      have HQ := Lib.hid hq
      rw [hq] at yv hk8 HV
      have hjni : (j : Int) < (n : Int) := by omega
      clear hv hk hkv hkl hq
      go_upto_region 6 with fail
      go_still_tail 8, (by kernel_rfl)
      change wpList _ _ _ _ _ wr.drew
      obtain ⟨w2, hw2⟩ : ∃ W, W = wr.drew := ⟨_, rfl⟩
      rw [← hw2] at A2 ⊢
      clear hw2 yv yx hA
      obtain ⟨t, ht⟩ : ∃ t, decide (sumZ k + x ≤ L) = t := ⟨_, rfl⟩
      have HT := Lib.hid ht
      have SV := Lib.hid (own_sl intLen (show OwnInt w2 wd.heap.size (.slice Av q cv) k from A2.out.own j _ k HV.out HK.out) (by have := HQ.out; omega))
      have HJN := Lib.hid hjn
      obtain ⟨mj, hmj⟩ : ∃ mj, n - j = mj + 1 := ⟨n - j - 1, by omega⟩
      have HMJ' := Lib.hid (show n - (j + 1) = mj by omega)
      have HMJ := Lib.hid hmj
      have E6 := Lib.hid (show packR L n (x :: l) us = laneR L x us R j (mj + 1) by rw [hE.out, HMJ.out])
      clear ht hmj
      go_wp2_with fail
      refine (implHasRoom (.slice Av q cv) k x L _ SV.out HKV.out (by have := HQ.out; omega) (by omega) x2).mono ?_
      rw [HT.out]
      rintro e w3 ⟨rfl, hb3⟩
      have A3 := Lib.hid (A2.out.below hb3)
      clear hb3 A2 SV
      cases t with
      | false =>
        have hov : ¬ us.getD j 0 + x ≤ L := by rw [HUJ.out]; exact of_decide_eq_false HT.out
        have EN := Lib.hid (show packR L n (x :: l) us = laneR L x us R (j + 1) (n - (j + 1)) by rw [E6.out, laneP_over hov, HMJ'.out])
        have NN := Lib.hid (show ∀ i : Nat, i < j + 1 → ls[i]? ≠ some [] ∨ L < x by
          intro i hi
          by_cases e : i = j
          · subst e
            by_cases e2 : k = []
            · right; rw [HUJ.out, e2] at hov; simp [sumZ] at hov; omega
            · left; rw [HK.out]; exact fun e3 => e2 (Option.some.inj e3)
          · exact hN.out i (by omega))
        clear hov
        go_wp2
        go_roundw
        case rel => exact ⟨j + 1, ws, by have := HJN.out; omega, by go_num, EN, A3, NN⟩
        case measure => have := HJN.out; simp [intOf]; omega
      | true =>
        have hov := Lib.hid (show us.getD j 0 + x ≤ L by rw [HUJ.out]; exact of_decide_eq_true HT.out)
        have yx : w3.cell? ⟨gl, ol, none⟩ = some (.int .i64 x) := cell_onV YX.out A3.out.low
        have A4 := Lib.hid A3.out.drew
        have hcap' : 0 < c := by omega
        go_upto_region 7 with fail
        go_still_tail 6, (by kernel_rfl)
        change wpList _ _ _ _ _ w3.drew
        obtain ⟨w4, hw4⟩ : ∃ W, W = w3.drew := ⟨_, rfl⟩
        rw [← hw4] at A4 ⊢
        clear hw4 yx A3
        go_wp2_with fail
        refine (implPush x A4.out HK.out (by have := HQ.out; omega)).mono ?_
        rintro e w5 ⟨v5, rfl, hA5⟩
        have A5 := Lib.hid hA5
        have IH := fun yl' (hyl : SlInt wd yl' l) => HIH.out x l rfl wd w5 g cap _ _ yl' hA5 (by have := HLS.out; simpa using this) (by have := HM.out; omega) (fun y hy => HLL.out y (by simp [hy])) (fun k' hk' => by
          rcases List.mem_or_eq_of_mem_set hk' with h | rfl
          · have := HLK.out k' h
            simp at this
            exact ⟨this.1, by omega, this.2.2⟩
          · refine ⟨fun y hy => ?_, by have := HQ.out; have := HM.out; simp; omega, by rw [sumZ_snoc, ← HUJ.out]; exact hov.out⟩
            rcases List.mem_append.1 hy with h | h
            · exact HKV.out y h
            · simp at h; omega) (fun i i2 hii hi2 he => by
          have hij : i ≠ j := fun e => by
            subst e
            rw [List.getElem?_set_self (by have := HLS.out; omega)] at he
            simp at he
          rw [List.getElem?_set_ne (fun e => hij e.symm)] at he
          have hji : j < i := by
            rcases Nat.lt_or_ge j i with h | h
            · exact h
            · exfalso
              rcases hN.out i (by omega) with h1 | h1
              · exact h1 he
              · have h2 := hov.out
                rw [HUJ.out] at h2
                have := (sumZ_bound HKV.out).1
                omega
          rw [List.getElem?_set_ne (by omega)]
          exact HZ.out i i2 hii hi2 he) hyl
        rw [set_sums, HUS.out, HR.out, ← HUJ.out] at IH
        obtain ⟨rs, hrs⟩ : ∃ rs, R (us.set j (us.getD j 0 + x)) = rs := ⟨_, rfl⟩
        rw [hrs] at IH
        have HRS := Lib.hid hrs
        have IHH := Lib.hid IH
        clear hA5 A4 hrs IH
        go_upto_region 8 with fail
        go_cut [9, 10] (fun s9 s10 wx => ∃ v vs7, s9 = v ∧ s10 = .bool rs.isSome ∧ Hid (LanesAt wd wx g vs7 (ls.set j (k ++ [x]))) ∧ Hid (OwnInt wx wd.heap.size v (rs.getD [])) ∧ Hid (v.ownBlock ≠ some g))
        case first =>
          by_cases hc1 : c = 1
          · subst hc1
            have hm0 : m = 0 := by omega
            subst hm0
            have hl0 : l = [] := List.eq_nil_of_length_eq_zero HM.out
            go_wp2_with fail
            refine (IHH.out _ ⟨by simp [hl0], .inl ⟨hl0, _, _, rfl⟩⟩).mono ?_
            rintro e w7 ⟨v, vs7, rfl, hA7, hO7, hf7⟩
            have A7 := Lib.hid hA7
            have O7 := Lib.hid hO7
            have F7 := Lib.hid hf7
            clear hA7 hO7 hf7
            go_wp2_with fail
            go_meet
            exact ⟨v, vs7, rfl, rfl, A7, O7, F7⟩
          · have hc2 : c - 1 ≠ 0 := by omega
            have hc3 : (c - 1 == 0) = false := by simp; omega
            have YT2 := YT.out
            rw [HM.out] at YT2
            have YT3 := Lib.hid YT2
            clear YT2
            go_wp2_with fail
            refine (IHH.out _ YT3.out).mono ?_
            rintro e w7 ⟨v, vs7, rfl, hA7, hO7, hf7⟩
            have A7 := Lib.hid hA7
            have O7 := Lib.hid hO7
            have F7 := Lib.hid hf7
            clear hA7 hO7 hf7
            go_wp2_with fail
            go_meet
            exact ⟨v, vs7, rfl, rfl, A7, O7, F7⟩
        case rest =>
          obtain ⟨v, vs7, h9, rfl, A7, O7, F7⟩ := hcut
          have h9' := h9.symm
          clear h9
          subst h9'
          obtain ⟨w7, rfl⟩ : ∃ X, X = wc := ⟨_, rfl⟩
          clear IHH A5
          have HKX := Lib.hid (show (ls.set j (k ++ [x]))[j]? = some (k ++ [x]) from List.getElem?_set_self (by have := HLS.out; have := HJN.out; omega))
          go_wp2_with fail
          refine (implPop x A7.out HKX.out (by have := HQ.out; omega)).mono ?_
          rintro e w8 ⟨v8, rfl, hA8, hblk8, hsz8⟩
          have hlb : (ls.set j (k ++ [x])).set j k = ls := by
            have h1 := HK.out
            obtain ⟨h2, h3⟩ := List.getElem?_eq_some_iff.1 h1
            rw [List.set_set, ← h3, List.set_getElem_self]
          rw [hlb] at hA8
          have hk8 : KeepX (fun b => b = g) w7 w8 := ⟨hA8.low.os.trans A7.out.low.os.symm, hA8.low.tape.trans A7.out.low.tape.symm, hA8.low.output.trans A7.out.low.output.symm, by omega, fun i _ hi => hblk8 i hi⟩
          have O8 := Lib.hid (own_keep O7.out hk8 (fun b hb e => F7.out (by rw [hb, e])))
          have A8 := Lib.hid hA8
          clear hA8 hblk8 hsz8 hk8 hlb A7 O7
          cases hrs : rs with
          | some out =>
            have E := Lib.hid (show packR L n (x :: l) us = some ((j : Int) :: out) by rw [E6.out]; exact laneP_yes hov.out (by rw [HRS.out, hrs]))
            rw [hrs] at O8
            have hob : out.length ≤ 1000 := by
              have h1 : packR L n l (us.set j (us.getD j 0 + x)) = some out := by rw [HR.out, HRS.out, hrs]
              have h2 := packR_len h1
              have := HM.out
              omega
            obtain ⟨V, c9, hV⟩ := own_form O8.out
            subst hV
            have RR := Lib.hid (own_sl intLen O8.out (show out.length ≤ 1000000000 by omega))
            have L0 := Lib.hid (Liv.build (Liv.nil w8) 0 [(j : Int)] (by simp))
            clear hrs
            go_wp2_with (at_builtin; refine wpList_plain rfl fun K hK => wp_of_step (ops := #[]) rfl (step_liv L0.out (L' := []) (τ := 0) (v := .slice (some ⟨w8.heap.size, 0, none⟩) 1 1) (u := .slice V out.length c9) (l := [(j : Int)]) (m := out) 1 rfl (.tmp 50) (.tmp 51) rfl rfl rfl List.mem_cons_self (SlOf.below RR.out (Joins.below_alloc1 w8 _)) (by simp; omega) (fun q hq => by cases hq) ?_); intro v5 x5 hl5; refine hK _ _ ?_; have hr5 := hl5.own _ (List.mem_cons_self); have LB := Lib.hid hl5.low; obtain ⟨V5, c5, e5⟩ := own_form hr5; simp only at e5; subst e5; have OR := Lib.hid hr5; clear hr5 hl5)
            have hor := own_range OR.out
            have hgl := A8.out.blk.lt
            have hws := A8.out.low.size
            refine bodyPost_ret (v := .tuple #[.slice V5 (out.length + 1) c5, .bool true]) (by simp [results, Try.results86, go_sem]) rfl ⟨.slice V5 (out.length + 1) c5, by rw [E.out]; rfl, ⟨_, A8.out.below LB.out⟩, ?_, ?_⟩
            · rw [E.out]
              have h1 : OwnInt x5 wd.heap.size (.slice V5 (out.length + 1) c5) ((j : Int) :: out) := own_lo OR.out hws
              exact h1
            · intro e
              have := hor g (by simpa using e)
              omega
          | none =>
            have HR0 := Lib.hid (show R (us.set j (us.getD j 0 + x)) = none by rw [HRS.out, hrs])
            clear hrs O8
            go_wp2_with fail
            refine (implIsEmpty A8.out HK.out (by have := HQ.out; omega)).mono ?_
            by_cases hke : k = []
            · have E := Lib.hid (show packR L n (x :: l) us = none by
                have hu0 : us.getD j 0 = 0 := by rw [HUJ.out, hke]; rfl
                rw [E6.out, laneP_no hov.out HR0.out]
                refine laneP_none fun i hi1 hi2 hi3 => ?_
                have hin : i < n := by have := HMJ.out; omega
                have hil : ls[i]? = some [] := HZ.out j i (by omega) hin (by rw [HK.out, hke])
                have hui : us.getD i 0 = 0 := by rw [← HUS.out, getD_sums hil]; rfl
                have hr := HR0.out
                rw [← HR.out] at hr ⊢
                rw [hu0, Int.zero_add] at hr
                rw [hui, Int.zero_add] at hi3 ⊢
                refine empty_same (by rw [← HUS.out]; simpa using HLS.out) hin HJN.out (by omega) hui hu0 (fun k' hk' => ?_) hi3 (fun y hy => by have := HLL.out y (by simp [hy]); omega) hr
                obtain ⟨kk, hkk⟩ : ∃ kk, ls[k']? = some kk := ⟨_, List.getElem?_eq_getElem (by have := HLS.out; omega)⟩
                rw [← HUS.out, getD_sums hkk]
                exact (HLK.out kk (List.mem_of_getElem? hkk)).2.2)
              rw [decide_eq_true hke]
              rintro e w9 ⟨rfl, rfl⟩
              go_wp2
              refine bodyPost_ret (v := .tuple #[.slice none 0 0, .bool false]) (by simp [results, Try.results86, go_sem]) rfl ⟨.slice none 0 0, _, by rw [E.out]; rfl, A8.out, by rw [E.out]; exact World.ownsRow_nil _ _ _ _, by simp [Value.ownBlock]⟩
            · rw [decide_eq_false hke]
              rintro e w9 ⟨rfl, rfl⟩
              have EN := Lib.hid (show packR L n (x :: l) us = laneR L x us R (j + 1) (n - (j + 1)) by rw [E6.out, laneP_no hov.out HR0.out, HMJ'.out])
              have NN := Lib.hid (show ∀ i : Nat, i < j + 1 → ls[i]? ≠ some [] ∨ L < x by
                intro i hi
                by_cases e : i = j
                · subst e
                  left; rw [HK.out]; exact fun e3 => hke (Option.some.inj e3)
                · exact hN.out i (by omega))
              clear hke
              go_wp2
              go_roundw
              case rel => exact ⟨j + 1, _, by have := HJN.out; omega, by go_num, EN, A8, NN⟩
              case measure => have := HJN.out; simp [intOf]; omega
theorem backAll (L : Int) (n : Nat) (hn : n ≤ 24) : ∀ l, BackAt L n l := by
  intro l
  induction l with
  | nil => exact backStep L n hn [] (fun x l e => by cases e)
  | cons x l ih => exact backStep L n hn (x :: l) (fun x' l' e => by injection e with e1 e2; subst e1 e2; exact ih)
end Go.Proofs.Ytlddampjbmklkaa
