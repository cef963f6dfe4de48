
/- FnCovers holds for every code: a least cover is a cover, and rivals need different persons. No condition. -/
import Derived.Test.YtfofbnpgjdagkaaCvTk
import Derived.Test.YtfofbnpgjdagkaaRows
import Derived.Test.YtfofbnpgjdagkaaCv3
import Derived.Test.YtfofbnpgjdagkaaCv0
import Derived.Test.YtfofbnpgjdagkaaCv16
import Derived.Test.YtfofbnpgjdagkaaCv8
import Derived.Test.YtfofbnpgjdagkaaCv17
import Derived.Test.YtfofbnpgjdagkaaCv14
import Derived.Deep.RegionHeld3
import Derived.Deep.DeepCutAuto
namespace Go.Proofs.Ytfofbnpgjdagkaa.lawCovers
open Go.ChangeShapes Go.WideShapes Go.ChangeAt Go.RowKit
set_option maxRecDepth 100000
theorem own : ownKnob Try.prog.godebug = none := by kernel_rfl
theorem laidOut : laidOutB Try.prog = true := by kernel_rfl
set_option maxHeartbeats 32000000 in
theorem law (A : Option Addr) (n c : Nat) (w : World) (hcode : n ≤ maxLen ∧ (n ≤ 1048576 → CodeAt w A n)) :
    Calls Try.prog 3 #[.slice A n c] w fun e w' => e = .returned (.bool true) ∧ Below w.heap.size w w' := by
  obtain ⟨hn, hcode⟩ := hcode
  have HC := Lib.hid hcode
  clear hcode
  unfold maxLen at hn
  by_cases hbig : 1048576 < n
  · go_enter Try.func3, Try.ntmps3
    go_wp2
    go_ret
    exact ⟨rfl, Below.refl _ _⟩
  have HC0 := Lib.hid (HC.out (by omega))
  clear HC
  go_enter Try.func3, Try.ntmps3
  go_wp2_with fail
  refine (makeDuties_any A n c w HC0.out).mono ?_
  rintro e w1 ⟨p, vm, mv, vl, l, rfl, hp, hm64, hm20, hl6, hgd, hom, hol, hb1⟩
  have hdl := duties_good (by omega) hgd
  obtain ⟨cw, k, hcov, hco, hwl, huk, hkm, hic, hrk, hrd, h00⟩ := covers_ok hdl (table_good hp hm64 hm20)
  have B1 := Lib.hid hb1
  have HDL := Lib.hid hdl
  have HCO := Lib.hid hco
  have HUK := Lib.hid huk
  have HIC := Lib.hid hic
  have HN := Lib.hid (show covN (leastCov p mv l) = (k : Int) by rw [hcov]; rfl)
  have HS := Lib.hid (show (leastCov p mv l).isSome = true by rw [hcov]; rfl)
  have HW := Lib.hid (show covW (leastCov p mv l) = castL cw by rw [hcov]; rfl)
  obtain ⟨rv, hrv⟩ : ∃ s, rivalL (bothAt p mv l) l.length = s := ⟨_, rfl⟩
  have HRV := Lib.hid hrv
  rw [hrv] at hrd hrk
  have HRD := Lib.hid hrd
  have SL := own_sl dutyLen hol (by omega)
  have SM := own_sl intLen hom (by omega)
  obtain ⟨Am, cm, rfl⟩ := own_form hom
  obtain ⟨Al, cl, rfl⟩ := own_form hol
  obtain ⟨m, hm⟩ : ∃ n, l.length = n := ⟨_, rfl⟩
  have HM := Lib.hid hm
  have HWL := Lib.hid (hwl.trans hm)
  rw [hm] at SL hl6 hkm h00 ⊢
  have SL1 := Lib.hid (show SlDuty w1 (.slice Al m cl) l from SL)
  have SM1 := Lib.hid (show SlInt w1 (.slice Am mv.length cm) mv from SM)
  obtain ⟨r, hr⟩ : ∃ n, rv.length = n := ⟨_, rfl⟩
  have HR := Lib.hid hr
  rw [hr] at hrk
  clear SL SM hm hcov hco hwl huk hic hrv hrd hr hm64 hm20 hgd hom hol hb1 hdl
  go_wp2_with fail
  refine (implLeastCover p _ mv _ l _ SM1.out SL1.out).mono ?_
  rintro e w2 ⟨v2, rfl, ho2, hb2⟩
  rw [HN.out, HS.out]
  have B2 := Lib.hid (B1.out.trans (hb2.mono B1.out.size))
  have SL2 := Lib.hid (SL1.out.below hb2)
  have SM2 := Lib.hid (SM1.out.below hb2)
  rw [HW.out] at ho2
  have SW2 := own_sl intLen ho2 (by rw [castL_len, HWL.out]; omega)
  obtain ⟨A2, c2, rfl⟩ := own_form ho2
  rw [castL_len, HWL.out] at SW2 ⊢
  have SW2 := Lib.hid (show SlInt w2 (.slice A2 m c2) (castL cw) from SW2)
  clear ho2 hb2
  go_wp2_with fail
  refine (implRivalDuties p _ mv _ l _ SM2.out SL2.out).mono ?_
  rw [HRD.out]
  rintro e w3 ⟨v3, rfl, ho3, hb3⟩
  have B3 := Lib.hid (B2.out.trans (hb3.mono B2.out.size))
  have SL3 := Lib.hid (SL2.out.below hb3)
  have SM3 := Lib.hid (SM2.out.below hb3)
  have SW3 := Lib.hid (SW2.out.below hb3)
  have SR3 := own_sl intLen ho3 (by rw [castL_len, HR.out]; omega)
  obtain ⟨A3, c3, rfl⟩ := own_form ho3
  rw [castL_len, HR.out] at SR3 ⊢
  have hcap : 0 < r → r ≤ c3 := fun h0 => by
    rcases SR3.2 with ⟨he, _⟩ | ⟨g, o, c, e, _, hc, _⟩
    · have := congrArg List.length he
      rw [castL_len, List.length_nil, HR.out] at this
      omega
    · injection e with _ _ e3
      rw [castL_len, HR.out] at hc
      omega
  have HCAP := Lib.hid hcap
  have SR3 := Lib.hid (show SlInt w3 (.slice A3 r c3) (castL rv) from SR3)
  clear ho3 hb3 hcap
  go_wp2_with fail
  refine (implDutiesOk _ l _ SL3.out).mono ?_
  rw [HDL.out]
  rintro e w4 ⟨rfl, hb4⟩
  have B4 := Lib.hid (B3.out.trans (hb4.mono B3.out.size))
  have SL4 := Lib.hid (SL3.out.below hb4)
  have SM4 := Lib.hid (SM3.out.below hb4)
  have SW4 := Lib.hid (SW3.out.below hb4)
  have SR4 := Lib.hid (SR3.out.below hb4)
  clear hb4
  go_wp2_with fail
  refine (implIsCover p _ mv _ l _ (castL cw) _ SM4.out SL4.out SW4.out).mono ?_
  rw [HIC.out]
  rintro e w5 ⟨rfl, hb5⟩
  have B5 := Lib.hid (B4.out.trans (hb5.mono B4.out.size))
  have SL5 := Lib.hid (SL4.out.below hb5)
  have SM5 := Lib.hid (SM4.out.below hb5)
  have SW5 := Lib.hid (SW4.out.below hb5)
  have SR5 := Lib.hid (SR4.out.below hb5)
  clear hb5
  have g1 : decide ((k : Int) < (r : Int)) = false := decide_eq_false (by omega)
  have g1n : decide (k < r) = false := decide_eq_false (by omega)
  have g2 : decide ((m : Int) < (k : Int)) = false := decide_eq_false (by omega)
  have g2n : decide (m < k) = false := decide_eq_false (by omega)
  obtain ⟨zb, hz1⟩ : ∃ b, ((m : Int) == 0) = b := ⟨_, rfl⟩
  have hz2 : ((k : Int) == 0) = zb := by
    rw [← hz1]
    by_cases hm0 : m = 0
    · have hk0 := h00.1 hm0
      subst hm0 hk0
      rfl
    · have hk0 : k ≠ 0 := fun h => hm0 (h00.2 h)
      rw [show ((m : Int) == 0) = false by simpa using hm0, show ((k : Int) == 0) = false by simpa using hk0]
  have hzz : (zb == zb) = true := by simp
  have g4 : ((m : Int) != (m : Int)) = false := by simp
  have g1' : ¬ k < r := by omega
  have g2' : ¬ m < k := by omega
  have L0 := Lib.hid (show Liv w5 (w5.alloc (.cells #[] 3)) [(0, .slice (some ⟨w5.heap.size, 0, none⟩) 0 0, castL [])] from Liv.build (Liv.nil w5) 0 [] (by simp))
  clear hp h00 hrk hkm
  go_wp2
  go_loopw [10, 83] (fun q t wr => ∃ (i : Nat) (s : List Nat) (u : Value), i ≤ m ∧ t = .int .i64 (i : Int) ∧ q = u ∧ Hid (SeenTo cw i s) ∧ Hid (Liv w5 wr [(0, u, castL s)])) (fun _ t _ => m - (intOf t).toNat)
  case atStart => exact ⟨0, [], _, Nat.zero_le _, rfl, rfl, Lib.hid (SeenTo.zero _), L0⟩
  case round =>
    obtain ⟨i, s, u, hi, rfl, rfl, hT, hL⟩ := hrel
    have HO := Lib.hid (hL.out.own _ List.mem_cons_self)
    have hsl : (castL s).length ≤ 6 := by have := hT.out.len; rw [castL_len]; have := HWL.out; omega
    have HSL := Lib.hid hsl
    clear hsl
    obtain ⟨Au, cu, eu⟩ := own_form HO.out
    obtain ⟨ns, hns⟩ : ∃ n, (castL s).length = n := ⟨_, rfl⟩
    simp only at eu
    rw [hns] at eu
    subst eu
    have SS := Lib.hid (show SlInt wr (.slice Au ns cu) (castL s) from own_sl intLen HO.out (by show (castL s).length ≤ _; have := HSL.out; omega))
    have HNS := Lib.hid (hns.symm.trans (castL_len s))
    clear hns
    by_cases hlt : i < m
    · obtain ⟨x, hx⟩ : ∃ x, cw[i]? = some x := ⟨_, List.getElem?_eq_getElem (by have := HWL.out; omega)⟩
      have HX := Lib.hid hx
      rcases SW5.out.2 with ⟨he, _⟩ | ⟨g, o, c', e, _, _, lc⟩
      · have := castL_at hx; rw [he] at this; simp at this
      injection e with ea e2 e3
      subst ea
      clear e2 e3
      have y0 := cell_onV (SlInt.cells lc _ _ (castL_at hx)) hL.out.low
      obtain ⟨t, ht⟩ : ∃ t, decide (x ∈ s) = t := ⟨_, rfl⟩
      have HT := Lib.hid ht
      clear hx lc ht
      go_wp2_with fail
      refine (has_any _ (castL s) (x : Int) _ SS.out).mono ?_
      rw [cast_any, HT.out]
      rintro e w6 ⟨rfl, rfl⟩
      cases t with
      | true =>
        have T2 := Lib.hid (hT.out.old HX.out (of_decide_eq_true HT.out))
        go_wp2
        go_roundw
        case rel => exact ⟨i + 1, s, _, by omega, by go_num, rfl, T2, hL⟩
        case measure => simp [intOf]; omega
      | false =>
        have T2 := Lib.hid (hT.out.more HX.out (of_decide_eq_false HT.out))
        have L2 := Lib.hid (show Liv w5 (wr.alloc (.cells #[.int .i64 (x : Int)] 3)) ((1, .slice (some ⟨wr.heap.size, 0, none⟩) 1 1, [(x : Int)]) :: [(0, .slice Au ns cu, castL s)]) from Liv.build hL.out 1 [(x : Int)] (by simp))
        go_wp2_with (at_builtin; refine wpList_plain rfl fun K hK => wp_of_step (ops := #[]) rfl (step_liv L2.out (L' := []) (τ := 0) (v := .slice Au ns cu) (u := .slice (some ⟨wr.heap.size, 0, none⟩) 1 1) (l := castL s) (m := [(x : Int)]) 0 rfl (.tmp 91) (.tmp 93) rfl rfl rfl (List.mem_cons_of_mem _ List.mem_cons_self) (own_sl intLen (L2.out.own _ List.mem_cons_self) (by simp)) (by have := HSL.out; simp; omega) (fun q hq => by cases hq) ?_); intro v5 x5 hl5; refine hK _ _ ?_; have L5 := Lib.hid hl5; clear hl5)
        go_roundw
        case rel => exact ⟨i + 1, s ++ [x], _, by omega, by go_num, rfl, T2, by rw [castL_snoc]; exact L5⟩
        case measure => simp [intOf]; omega
    obtain rfl : i = m := by omega
    have HEND := Lib.hid (show ns = k by rw [HNS.out]; exact seen_len HCO.out HUK.out hT.out.1 (fun x => by rw [hT.out.2 x, List.take_of_length_le (by rw [HWL.out]; omega)]))
    have B6 := Lib.hid (B5.out.trans (hL.out.low.mono B5.out.size))
    have SL6 := Lib.hid (SL5.out.below hL.out.low)
    have SM6 := Lib.hid (SM5.out.below hL.out.low)
    have SW6 := Lib.hid (SW5.out.below hL.out.low)
    have SR6 := Lib.hid (SR5.out.below hL.out.low)
    obtain ⟨w6, rfl⟩ : ∃ W, W = wr := ⟨_, rfl⟩
    go_wp2
    go_loopw [98] (fun t wx => ∃ j : Nat, j ≤ r ∧ t = .int .i64 (j : Int) ∧ Hid (Below w6.heap.size w6 wx)) (fun t _ => r - (intOf t).toNat)
    case atStart => exact ⟨0, Nat.zero_le _, rfl, Lib.hid (Below.refl _ _)⟩
    case round =>
      obtain ⟨j, hj, rfl, hb⟩ := hrel
      obtain ⟨w7, rfl⟩ : ∃ W, W = wr := ⟨_, rfl⟩
      have B7 := Lib.hid (B6.out.trans (hb.out.mono B6.out.size))
      by_cases hjr : j < r
      rotate_left
      · have hnk : ns = k := HEND.out
        have gk : ((ns : Int) == (k : Int)) = true := by rw [hnk]; simp
        clear hnk
        go_wp2
        go_ret
        exact ⟨rfl, B7.out⟩
      obtain ⟨a, ha⟩ : ∃ x, rv[j]? = some x := ⟨_, List.getElem?_eq_getElem (by have := HR.out; omega)⟩
      have HA := Lib.hid (show (rivalL (bothAt p mv l) l.length)[j]? = some a by rw [HRV.out]; exact ha)
      have ham : a < i := by
        have h1 := (rival_ok (B := bothAt p mv l) (m := l.length)).1 a (List.mem_of_getElem? HA.out)
        have := HM.out
        omega
      rcases SR6.out.2 with ⟨he, _⟩ | ⟨gr, or, cr', e, _, _, rc⟩
      · have := castL_at ha; rw [he] at this; simp at this
      injection e with ea e2 e3
      subst ea
      clear e2 e3
      have HRC := Lib.hid rc
      have y0 := cell_onV (SlInt.cells rc _ _ (castL_at ha)) hb.out
      have hcap := HCAP.out (by omega)
      have hkc : (0 : Int) ≤ (j : Int) ∧ (j : Int) ≤ (c3 : Int) := by omega
      have ga : decide ((a : Int) < 0) = false := decide_eq_false (by omega)
      have gm : decide ((i : Int) ≤ (a : Int)) = false := decide_eq_false (by omega)
      have gmn : decide (i ≤ a) = false := decide_eq_false (by omega)
      have gm' : ¬ i ≤ a := by omega
      clear rc ha
      go_wp2
      go_loopw [115] (fun t wx => ∃ q : Nat, q ≤ j ∧ t = .int .i64 (q : Int) ∧ Hid (Below w7.heap.size w7 wx)) (fun t _ => j - (intOf t).toNat)
      case atStart => exact ⟨0, Nat.zero_le _, rfl, Lib.hid (Below.refl _ _)⟩
      case round =>
        obtain ⟨q, hq, rfl, hbx⟩ := hrel
        obtain ⟨w8, rfl⟩ : ∃ W, W = wr := ⟨_, rfl⟩
        have BX := Lib.hid (hb.out.trans (hbx.out.mono hb.out.size))
        by_cases hqj : q < j
        rotate_left
        · obtain rfl : q = j := by omega
          go_wp2
          go_roundw
          case rel => exact ⟨q + 1, by omega, by go_num, BX⟩
          case measure => simp [intOf]; omega
        obtain ⟨b, hbb⟩ : ∃ x, rv[q]? = some x := ⟨_, List.getElem?_eq_getElem (by have := HR.out; omega)⟩
        obtain ⟨-, hbm, hab, hno⟩ := rivals_at HA.out (show (rivalL (bothAt p mv l) l.length)[q]? = some b by rw [HRV.out]; exact hbb) hqj
        rw [HM.out] at hbm
        have y1 := cell_onV (SlInt.cells HRC.out _ _ (castL_at hbb)) BX.out
        obtain ⟨d, hd⟩ : ∃ x, l[a]? = some x := ⟨_, List.getElem?_eq_getElem (by have := HM.out; omega)⟩
        obtain ⟨f, hf⟩ : ∃ x, l[b]? = some x := ⟨_, List.getElem?_eq_getElem (by have := HM.out; omega)⟩
        obtain ⟨x, hx⟩ : ∃ x, cw[a]? = some x := ⟨_, List.getElem?_eq_getElem (by have := HWL.out; omega)⟩
        obtain ⟨y, hy⟩ : ∃ x, cw[b]? = some x := ⟨_, List.getElem?_eq_getElem (by have := HWL.out; omega)⟩
        have hxy : x ≠ y := rivals_apart (bothAt_comm p mv l) HCO.out hx hy hab hno
        have gxy : ((x : Int) == (y : Int)) = false := by simp; omega
        obtain ⟨hc1, hc2⟩ := can_no hno hd hf
        have HC1 := Lib.hid hc1
        have HC2 := Lib.hid hc2
        rcases SL6.out.2 with ⟨he, _⟩ | ⟨gl, ol, cl', e, _, _, lc⟩
        · rw [he] at hd; simp at hd
        injection e with ea e2 e3
        subst ea
        clear e2 e3
        rcases SW6.out.2 with ⟨he, _⟩ | ⟨gw, ow, cw', e, _, _, wc⟩
        · have := castL_at hx; rw [he] at this; simp at this
        injection e with ea e2 e3
        subst ea
        clear e2 e3
        obtain ⟨p0, p1, p2, p3⟩ := SlDuty.cells lc a d hd
        obtain ⟨q0, q1, q2, q3⟩ := SlDuty.cells lc b f hf
        have r0 := SlInt.cells wc _ _ (castL_at hx)
        have r1 := SlInt.cells wc _ _ (castL_at hy)
        go_upto_region 23 with fail
        clear y1
        have Fp0 := Lib.hid (show w8.cell? ⟨gl, ol + a * 4, none⟩ = some (.int .i64 d.fr) from cell_onV p0 BX.out)
        have Fp1 := Lib.hid (show w8.cell? ⟨gl, ol + a * 4 + 1, none⟩ = some (.int .i64 d.tt) from cell_onV p1 BX.out)
        have Fp2 := Lib.hid (show w8.cell? ⟨gl, ol + a * 4 + 2, none⟩ = some (.int .i64 d.a) from cell_onV p2 BX.out)
        have Fp3 := Lib.hid (show w8.cell? ⟨gl, ol + a * 4 + 3, none⟩ = some (.int .i64 d.b) from cell_onV p3 BX.out)
        have Fq0 := Lib.hid (show w8.cell? ⟨gl, ol + b * 4, none⟩ = some (.int .i64 f.fr) from cell_onV q0 BX.out)
        have Fq1 := Lib.hid (show w8.cell? ⟨gl, ol + b * 4 + 1, none⟩ = some (.int .i64 f.tt) from cell_onV q1 BX.out)
        have Fq2 := Lib.hid (show w8.cell? ⟨gl, ol + b * 4 + 2, none⟩ = some (.int .i64 f.a) from cell_onV q2 BX.out)
        have Fq3 := Lib.hid (show w8.cell? ⟨gl, ol + b * 4 + 3, none⟩ = some (.int .i64 f.b) from cell_onV q3 BX.out)
        have Fr0 := Lib.hid (show w8.cell? ⟨gw, ow + a, none⟩ = some (.int .i64 (x : Int)) from cell_onV r0 BX.out)
        have Fr1 := Lib.hid (show w8.cell? ⟨gw, ow + b, none⟩ = some (.int .i64 (y : Int)) from cell_onV r1 BX.out)
        clear p0 p1 p2 p3 q0 q1 q2 q3 r0 r1 lc wc hd hf hx hy hbb hab hno hxy hc1 hc2
        have vp0 := Fp0.out
        have vp1 := Fp1.out
        have vp2 := Fp2.out
        have vp3 := Fp3.out
        have vq0 := Fq0.out
        have vq1 := Fq1.out
        have vq2 := Fq2.out
        have vq3 := Fq3.out
        have vr0 := Fr0.out
        have vr1 := Fr1.out
        have DD := Lib.hid ((Below.refl w8.heap.size w8).drew)
        refine wp_region_held_drew (S := (fun w' => w'.cell? ⟨gl, ol + a * 4, none⟩ = some (.int .i64 d.fr) ∧ w'.cell? ⟨gl, ol + a * 4 + 1, none⟩ = some (.int .i64 d.tt) ∧ w'.cell? ⟨gl, ol + a * 4 + 2, none⟩ = some (.int .i64 d.a) ∧ w'.cell? ⟨gl, ol + a * 4 + 3, none⟩ = some (.int .i64 d.b) ∧ w'.cell? ⟨gl, ol + b * 4, none⟩ = some (.int .i64 f.fr) ∧ w'.cell? ⟨gl, ol + b * 4 + 1, none⟩ = some (.int .i64 f.tt) ∧ w'.cell? ⟨gl, ol + b * 4 + 2, none⟩ = some (.int .i64 f.a) ∧ w'.cell? ⟨gl, ol + b * 4 + 3, none⟩ = some (.int .i64 f.b) ∧ w'.cell? ⟨gw, ow + a, none⟩ = some (.int .i64 (x : Int)) ∧ w'.cell? ⟨gw, ow + b, none⟩ = some (.int .i64 (y : Int)) ∧ Hid (Below w8.heap.size w8 w'))) (by kernel_rfl) ?_ (fun hHeld => ?_)
        · (try dsimp only); go_keep
        refine tk 0 ?_
        refine tk 1 ?_
        refine tk 2 ?_
        refine tk 3 ?_
        refine tk 4 ?_
        refine tk 5 ?_
        refine tk 6 ?_
        refine tk 7 ?_
        refine tk 8 ?_
        refine tk 9 ?_
        refine wpAnyH_ready (rs := [10]) (by kernel_rfl) (by simp) ?_
        refine AllReadyH.cons rfl (fun K hK => ?_) AllReadyH.nil
        rw [if_pos (by rfl)]
        go_simp
        go_at_call 18
        have kB := hHeld.2.2.2.2.2.2.2.2.2.2
        refine (implCanFollow p _ mv d f _ (SM6.out.below (BX.out.trans (kB.out.mono BX.out.size)))).mono ?_
        rw [HC1.out]
        rintro e wq1 ⟨rfl, hbk⟩
        have HBK := kB.out.trans (hbk.mono kB.out.size)
        have QS := Lib.hid (show wq1.cell? ⟨gl, ol + a * 4, none⟩ = some (.int .i64 d.fr) ∧ wq1.cell? ⟨gl, ol + a * 4 + 1, none⟩ = some (.int .i64 d.tt) ∧ wq1.cell? ⟨gl, ol + a * 4 + 2, none⟩ = some (.int .i64 d.a) ∧ wq1.cell? ⟨gl, ol + a * 4 + 3, none⟩ = some (.int .i64 d.b) ∧ wq1.cell? ⟨gl, ol + b * 4, none⟩ = some (.int .i64 f.fr) ∧ wq1.cell? ⟨gl, ol + b * 4 + 1, none⟩ = some (.int .i64 f.tt) ∧ wq1.cell? ⟨gl, ol + b * 4 + 2, none⟩ = some (.int .i64 f.a) ∧ wq1.cell? ⟨gl, ol + b * 4 + 3, none⟩ = some (.int .i64 f.b) ∧ wq1.cell? ⟨gw, ow + a, none⟩ = some (.int .i64 (x : Int)) ∧ wq1.cell? ⟨gw, ow + b, none⟩ = some (.int .i64 (y : Int)) ∧ Hid (Below w8.heap.size w8 wq1) from ⟨cell_onV Fp0.out HBK, cell_onV Fp1.out HBK, cell_onV Fp2.out HBK, cell_onV Fp3.out HBK, cell_onV Fq0.out HBK, cell_onV Fq1.out HBK, cell_onV Fq2.out HBK, cell_onV Fq3.out HBK, cell_onV Fr0.out HBK, cell_onV Fr1.out HBK, Lib.hid HBK⟩)
        clear hbk kB hHeld HBK
        go_simp
        refine hK.out _ _ ?_ (fun hHeld => ?_)
        · (try dsimp only); exact QS.out
        clear hK K
        try simp only [Act.put, List.setIfInBounds_toArray, List.set_cons_zero, List.set_cons_succ]
        refine tk 11 ?_
        refine tk 12 ?_
        refine tk 13 ?_
        refine tk 14 ?_
        refine tk 15 ?_
        refine tk 16 ?_
        refine tk 17 ?_
        refine tk 18 ?_
        refine tk 19 ?_
        refine tk 20 ?_
        refine tk 21 ?_
        refine wpAnyH_ready (rs := [22]) (by kernel_rfl) (by simp) ?_
        refine AllReadyH.cons rfl (fun K hK => ?_) AllReadyH.nil
        rw [if_pos (by rfl)]
        go_simp
        go_at_call 18
        have kB := hHeld.2.2.2.2.2.2.2.2.2.2
        refine (implCanFollow p _ mv f d _ (SM6.out.below (BX.out.trans (kB.out.mono BX.out.size)))).mono ?_
        rw [HC2.out]
        rintro e wq2 ⟨rfl, hbk⟩
        have HBK := kB.out.trans (hbk.mono kB.out.size)
        have QS := Lib.hid (show wq2.cell? ⟨gl, ol + a * 4, none⟩ = some (.int .i64 d.fr) ∧ wq2.cell? ⟨gl, ol + a * 4 + 1, none⟩ = some (.int .i64 d.tt) ∧ wq2.cell? ⟨gl, ol + a * 4 + 2, none⟩ = some (.int .i64 d.a) ∧ wq2.cell? ⟨gl, ol + a * 4 + 3, none⟩ = some (.int .i64 d.b) ∧ wq2.cell? ⟨gl, ol + b * 4, none⟩ = some (.int .i64 f.fr) ∧ wq2.cell? ⟨gl, ol + b * 4 + 1, none⟩ = some (.int .i64 f.tt) ∧ wq2.cell? ⟨gl, ol + b * 4 + 2, none⟩ = some (.int .i64 f.a) ∧ wq2.cell? ⟨gl, ol + b * 4 + 3, none⟩ = some (.int .i64 f.b) ∧ wq2.cell? ⟨gw, ow + a, none⟩ = some (.int .i64 (x : Int)) ∧ wq2.cell? ⟨gw, ow + b, none⟩ = some (.int .i64 (y : Int)) ∧ Hid (Below w8.heap.size w8 wq2) from ⟨cell_onV Fp0.out HBK, cell_onV Fp1.out HBK, cell_onV Fp2.out HBK, cell_onV Fp3.out HBK, cell_onV Fq0.out HBK, cell_onV Fq1.out HBK, cell_onV Fq2.out HBK, cell_onV Fq3.out HBK, cell_onV Fr0.out HBK, cell_onV Fr1.out HBK, Lib.hid HBK⟩)
        clear hbk kB hHeld HBK
        go_simp
        refine hK.out _ _ ?_ (fun hHeld => ?_)
        · (try dsimp only); exact QS.out
        clear hK K
        try simp only [Act.put, List.setIfInBounds_toArray, List.set_cons_zero, List.set_cons_succ]
        refine tk 23 ?_
        refine tk 24 ?_
        refine tk 25 ?_
        refine tk 26 ?_
        refine tk 27 ?_
        refine tk 28 ?_
        refine tk 29 ?_
        refine tk 30 ?_
        refine tk 31 ?_
        refine tk 32 ?_
        refine tk 33 ?_
        refine tk 34 ?_
        refine wpAnyH_done (by kernel_rfl) ?_ _
        have C9 := Lib.hid (hbx.out.trans (hHeld.2.2.2.2.2.2.2.2.2.2.out.mono hbx.out.size))
        clear hHeld DD
        go_wp2
        go_roundw
        case rel => exact ⟨q + 1, by omega, by go_num, C9⟩
        case measure => simp [intOf]; omega
set_option maxRecDepth 100000 in
theorem lifted (os : Os) (started : os.Started) (H : Type) (enc : TypeId × Value → H) :
    ReturnsInHanded {} Try.checked os 3 .any (Rows.fnCoversSpec.pre6 enc Try.prog Try.f3 Rows.fnCoversRow.domain false) (Rows.fnCoversSpec.post enc Try.prog Try.f3 false true false false) := by
  refine returnsInHanded_of_change (C := Try.checked) own started (by kernel_rfl) Try.func3
    (ChangeSpec.witness6 (enc := enc) (C := Try.checked) false ⟨#[], #[.slice none 0 0], []⟩ 8 (by kernel_rfl) (by kernel_rfl) (by kernel_rfl) (by kernel_rfl)) ?_
  intro W base args ds gs before hval0 hW _ _
  have hval : ∀ (j : Nat) t v, Try.f3.params[j]? = some t → args[j]? = some v → Value.okWide Try.prog W .any base t v := hval0
  have hW' := hW
  obtain ⟨p, q, hA0, hV, rfl, _, _⟩ := hW
  have hA : DataW.TrodAll enc Try.prog W 0 (fun _ => true) true Try.f3.params.toList args.toList ds p := hA0
  rw [Try.params3] at hA hval
  obtain ⟨v0, vs0, d0, ds0, p0, q0, hargs, rfl, rfl, h0, r0⟩ := trodAll_cons hA
  obtain ⟨rfl, rfl, rfl⟩ := trodAll_nil r0
  obtain rfl : args = #[v0] := by cases args; simp_all
  obtain ⟨A0, n0, c0, rfl, g0⟩ := open_code_arg (hval 0 22 v0 rfl rfl) h0
  refine (law A0 n0 c0 W g0).mono fun e W' ⟨he, hb⟩ => ⟨_, he, ?_⟩
  exact law_post laidOut (by kernel_rfl) rfl (by kernel_rfl) Try.underlying4 rfl rfl rfl hW' hb
theorem holds : Rows.FnCoversSaid :=
  OpenClaim.holds_of_wide 3 Try.f3 rfl rfl rfl rfl rfl rfl rfl ⟨rfl, rfl, rfl, rfl, rfl⟩ rfl rfl rfl rfl rfl (by kernel_rfl) Try.func3 (by kernel_rfl)
    (of_decide_eq_true (by kernel_rfl)) (by unfold Func.isWrapper; first | (rw [if_pos (by decide +kernel)]; kernel_rfl) | (rw [if_neg (by decide +kernel)]; exact ⟨rfl, rfl⟩))
    (fun os started H enc _ => lifted os started H enc)
end Go.Proofs.Ytfofbnpgjdagkaa.lawCovers
