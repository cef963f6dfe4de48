
/- FnBerths holds for every code: berths are allotted whenever this is possible, and stays leave the other times free. No condition. -/
import Derived.Test.YtghjfcnboocmjaaBcTk
import Derived.Test.YtghjfcnboocmjaaRows
import Derived.Test.YtghjfcnboocmjaaBc4
import Derived.Test.YtghjfcnboocmjaaBc0
import Derived.Test.YtghjfcnboocmjaaBc16
import Derived.Test.YtghjfcnboocmjaaBc20
import Derived.Test.YtghjfcnboocmjaaBc9
import Derived.Test.YtghjfcnboocmjaaBc14
import Derived.Test.YtghjfcnboocmjaaBc15
import Derived.Test.YtghjfcnboocmjaaBc21
import Derived.Test.YtghjfcnboocmjaaBc22
import Derived.Test.YtghjfcnboocmjaaBc23
import Derived.Deep.RegionHeld3
import Derived.Deep.DeepCutAuto
namespace Go.Proofs.Ytghjfcnboocmjaa.lawBerths
open Go.ChangeShapes Go.WideShapes Go.ChangeAt Go.RowKit
set_option maxRecDepth 100000
theorem own : ownKnob Try.prog.godebug = none := by kernel_rfl
theorem laidOut : laidOutB Try.prog = true := by kernel_rfl
theorem sl_none {α : Type} {k : Nat} {cs : α → List Value} (w : World) : SlOf k cs w (.slice none 0 0) [] := ⟨by simp, .inl ⟨rfl, none, 0, rfl⟩⟩
theorem OwnOf.slx {α : Type} {k : Nat} {cs : α → List Value} {t : TypeId} {w : World} {base : Nat} {v : Value} {l : List α} (h : OwnOf k cs t w base v l) (hk : ∀ x, (cs x).length = k) (hl : l.length ≤ 1000000000) : SlOf k cs w v l := own_sl hk h hl
set_option maxHeartbeats 32000000 in
theorem law (A : Option Addr) (n c : Nat) (w : World) (hcode : n ≤ maxLen ∧ (n ≤ 1048576 → CodeAt w A n)) :
    Calls Try.prog 3 #[.slice A n c] w fun e w' => e = .returned (.bool true) ∧ Below w.heap.size w w' := by
  obtain ⟨hn, hcode⟩ := hcode
  have HC := Lib.hid hcode
  clear hcode
  unfold maxLen at hn
  by_cases hbig : 1048576 < n
  · go_enter Try.func3, Try.ntmps3
    go_wp2
    go_ret
    exact ⟨rfl, Below.refl _ _⟩
  have HC0 := Lib.hid (HC.out (by omega))
  clear HC
  go_enter Try.func3, Try.ntmps3
  go_wp2_with fail
  refine (makeAsks_any A n c w HC0.out).mono ?_
  rintro e w1 ⟨vb, bs, vf, fl, va, asks, rfl, hbd, hfd, hf1, hf3, ha3, hag, hob, hof, hoa, hb1⟩
  have HBW := Lib.hid (drawn_berths_wf hbd)
  have HFW := Lib.hid (drawn_wf hfd)
  have hbb := drawn_berths hbd
  have hfb := drawn_fleet hfd
  obtain ⟨hst, hsl, hsa⟩ := allotted_ok (asks := asks) hbb hfb
  have HBB := Lib.hid hbb
  have SB := OwnOf.slx hob berthLen (by have := hbd.2.1; omega)
  have SF := OwnOf.slx hof shipLen (by omega)
  have SA := OwnOf.slx hoa stayLen (by omega)
  have hb3 := hbd.2.1
  obtain ⟨Ab, cb, rfl⟩ := own_form hob
  obtain ⟨Af, cf, rfl⟩ := own_form hof
  obtain ⟨Aa, ca, rfl⟩ := own_form hoa
  obtain ⟨st, hstd⟩ : ∃ x, allotted bs fl asks = x := ⟨_, rfl⟩
  have HSTD := Lib.hid hstd
  rw [hstd] at hst hsl hsa
  have HST := Lib.hid hst
  have HSA := Lib.hid hsa
  obtain ⟨ok, hok⟩ : ∃ b, (allotO bs fl asks).isSome = b := ⟨_, rfl⟩
  have HOK := Lib.hid hok
  have hln1 : ok = true → st.length = asks.length := fun h => by rw [← hstd]; exact allotted_len (hok.trans h)
  have hln0 : ok = false → st.length = 0 := fun h => by rw [← hstd]; exact allotted_none (hok.trans h)
  obtain ⟨hF1, hF2⟩ := free_sums hst
  obtain ⟨nb, hnb⟩ : ∃ n, bs.length = n := ⟨_, rfl⟩
  have HNB := Lib.hid hnb
  obtain ⟨nf, hnf⟩ : ∃ n, fl.length = n := ⟨_, rfl⟩
  have HNF := Lib.hid hnf
  obtain ⟨na, hna⟩ : ∃ n, asks.length = n := ⟨_, rfl⟩
  have HNA := Lib.hid hna
  obtain ⟨ns, hns⟩ : ∃ n, st.length = n := ⟨_, rfl⟩
  have HNS := Lib.hid hns
  rw [hnb] at SB hb3 hF1 hF2 ⊢
  rw [hnf] at SF hf1 hf3 ⊢
  rw [hna] at SA ha3 hln1 hsl ⊢
  rw [hns] at hsl hln1 hln0
  have HF1 := Lib.hid hF1
  have HF2 := Lib.hid hF2
  have HLN1 := Lib.hid hln1
  have HLN0 := Lib.hid hln0
  have RB := Lib.hid SB
  have RF := Lib.hid SF
  have RA := Lib.hid SA
  have B1 := Lib.hid hb1
  have hns3 : ns ≤ 3 := by omega
  clear hbd hfd hag hob hof hoa hb1 hbb hfb hst hsa hok SB SF SA hstd hnb hnf hna hns hF1 hF2 hln1 hln0 hsl
  have B0 := Lib.hid (Below.refl w1.heap.size w1)
  go_wp2_with fail
  refine (implAllotBerths _ bs _ fl _ asks _ (RB.out.below B0.out) (RF.out.below B0.out) (RA.out.below B0.out) HBW.out HFW.out).mono ?_
  rintro e x1 ⟨v1, rfl, ho1, hbx⟩
  have BX1 := Lib.hid (B0.out.trans (hbx.mono B0.out.size))
  rw [HOK.out]
  clear hbx
  have ho2 : OwnStay x1 w1.heap.size v1 st := by have h := ho1; rw [show (allotO bs fl asks).getD [] = st from HSTD.out] at h; exact h
  have RS := Lib.hid (OwnOf.slx ho2 stayLen (by have := HNS.out; omega))
  obtain ⟨As, cs, rfl⟩ := own_form ho2
  rw [HNS.out] at RS
  try rw [HNS.out]
  clear ho1 ho2
  have RB1 := Lib.hid (RB.out.below BX1.out)
  have RF1 := Lib.hid (RF.out.below BX1.out)
  have RA1 := Lib.hid (RA.out.below BX1.out)
  have C0 := Lib.hid (Below.refl x1.heap.size x1)
  have BW := Lib.hid (B1.out.trans (BX1.out.mono B1.out.size))
  clear RB RF RA B0 BX1 B1
  go_upto_region 5 with fail
  go_cut [59] (fun s wx => s = .bool false ∧ Hid (Below x1.heap.size x1 wx))
  case first =>
    go_wp2_with fail
    refine (implBerthsOk _ bs _ (RB1.out.below C0.out) HBW.out).mono ?_
    rw [HBB.out]
    rintro e x2 ⟨rfl, hbx⟩
    have BX2 := Lib.hid (C0.out.trans (hbx.mono C0.out.size))
    clear hbx
    cases ok with
    | false =>
      obtain rfl : ns = 0 := HLN0.out rfl
      go_wp2_with fail
      go_meet
      exact ⟨rfl, BX2⟩
    | true =>
      obtain rfl : ns = na := HLN1.out rfl
      go_wp2_with fail
      refine (implStaysOk _ bs _ fl _ st _ (RB1.out.below BX2.out) (RF1.out.below BX2.out) (RS.out.below BX2.out) HBW.out HFW.out).mono ?_
      rw [HST.out]
      rintro e x3 ⟨rfl, hbx⟩
      have BX3 := Lib.hid (BX2.out.trans (hbx.mono BX2.out.size))
      clear hbx
      have q0 : ((ns : Int) == (ns : Int)) = true := by simp
      go_wp2_with fail
      go_meet
      exact ⟨rfl, BX3⟩
  case rest =>
    obtain ⟨rfl, C1⟩ := hcut
    obtain ⟨x5, rfl⟩ : ∃ X, X = wc := ⟨_, rfl⟩
    go_wp2
    go_loopw [8, 62] (fun q t wr => ∃ j : Nat, j ≤ ns ∧ q = .int .i64 (sumS (st.take j)) ∧ t = .int .i64 (j : Int) ∧ Hid (Below x1.heap.size x1 wr)) (fun _ t _ => ns - (intOf t).toNat)
    case atStart => exact ⟨0, Nat.zero_le _, rfl, rfl, C1⟩
    case round =>
      obtain ⟨j, hj, rfl, rfl, hb⟩ := hrel
      have hzs := hb.out.size
      obtain ⟨hs0, hs1⟩ := sumS_le HST.out j (by rw [HNS.out]; exact hj)
      by_cases hlt : j < ns
      · obtain ⟨x, hx⟩ : ∃ x, st[j]? = some x := ⟨_, List.getElem?_eq_getElem (by rw [HNS.out]; exact hlt)⟩
        obtain ⟨a, ha, e1, e2, e3⟩ := HSA.out j x hx
        have hja : j < na := by have := (List.getElem?_eq_some_iff.1 ha).1; have := HNA.out; omega
        have HSN := Lib.hid (sumS_next hx)
        have htx := (stayB_true (staysB_at HST.out hx).1).2.2.1
        rcases RS.out.2 with ⟨he, _⟩ | ⟨gs, os, cs', e, _, _, sc⟩
        · rw [he] at hx; simp at hx
        injection e with ea ex ey
        subst ea
        clear ex ey
        rcases RA1.out.2 with ⟨he, _⟩ | ⟨ga, oa, ca', e, _, _, ac⟩
        · rw [he] at ha; simp at ha
        injection e with ea ex ey
        subst ea
        clear ex ey
        obtain ⟨p0, p1, p2, p3⟩ := SlStay.cells sc j x hx
        obtain ⟨q0, q1, q2, q3⟩ := SlStay.cells ac j a ha
        have y0 := cell_onV p0 hb.out
        have y1 := cell_onV p1 hb.out
        have y2 := cell_onV p2 hb.out
        have y3 := cell_onV p3 hb.out
        rw [e1] at y0
        rw [e2] at y2
        rw [e3] at y3
        rw [e2, e3] at htx HSN
        have BL := Joins.below_alloc1 wr (.cells #[.int .i64 a.ship, .int .i64 x.berth, .int .i64 a.fr, .int .i64 a.tt] 33)
        have KN := Blk.new wr #[.int .i64 a.ship, .int .i64 x.berth, .int .i64 a.fr, .int .i64 a.tt] 33
        have CN := Lib.hid (hb.out.trans (BL.mono hb.out.size))
        have r0 := cell_onV q0 CN.out
        have r2 := cell_onV q2 CN.out
        have r3 := cell_onV q3 CN.out
        clear p0 p1 p2 p3 q0 q1 q2 q3 hx ha e1 e2 e3 sc ac
        go_upto_region 11 with fail
        obtain ⟨y6, hy6⟩ : ∃ X, X = wr.alloc (.cells #[.int .i64 a.ship, .int .i64 x.berth, .int .i64 a.fr, .int .i64 a.tt] 33) := ⟨_, rfl⟩
        rw [← hy6] at BL KN CN r0 r2 r3 ⊢
        have FA0 := Lib.hid r0
        have FA2 := Lib.hid r2
        have FA3 := Lib.hid r3
        have KP := Lib.hid KN
        have z0 : y6.cell? ⟨wr.heap.size, 0, none⟩ = some (.int .i64 a.ship) := KN.cell 0
        have z2 : y6.cell? ⟨wr.heap.size, 2, none⟩ = some (.int .i64 a.fr) := KN.cell 2
        have z3 : y6.cell? ⟨wr.heap.size, 3, none⟩ = some (.int .i64 a.tt) := KN.cell 3
        clear hy6 BL KN y0 y1 y2 y3
        have q1 : (a.ship == a.ship) = true := by simp
        have q2 : (a.fr == a.fr) = true := by simp
        have q3 : (a.tt == a.tt) = true := by simp
        refine wp_region_held_drew (S := (fun w' => w'.cell? ⟨wr.heap.size, 0, none⟩ = some (.int .i64 a.ship) ∧ w'.cell? ⟨wr.heap.size, 2, none⟩ = some (.int .i64 a.fr) ∧ w'.cell? ⟨wr.heap.size, 3, none⟩ = some (.int .i64 a.tt) ∧ w'.cell? ⟨ga, oa + j * 4, none⟩ = some (.int .i64 a.ship) ∧ w'.cell? ⟨ga, oa + j * 4 + 2, none⟩ = some (.int .i64 a.fr) ∧ w'.cell? ⟨ga, oa + j * 4 + 3, none⟩ = some (.int .i64 a.tt))) (by kernel_rfl) ?_ (fun hHeld => ?_)
        · (try dsimp only); go_keep
        refine tk 0 ?_
        refine tk 1 ?_
        refine tk 2 ?_
        refine tk 3 ?_
        refine tk 4 ?_
        refine tk 5 ?_
        refine tk 6 ?_
        refine tk 7 ?_
        refine tk 8 ?_
        refine tk 9 ?_
        refine tk 10 ?_
        refine tk 11 ?_
        refine tk 12 ?_
        refine tk 13 ?_
        refine tk 14 ?_
        refine tk 15 ?_
        refine tk 16 ?_
        refine tk 17 ?_
        refine tk 18 ?_
        refine tk 19 ?_
        refine tk 20 ?_
        refine tk 21 ?_
        refine tk 22 ?_
        refine tk 23 ?_
        refine tk 24 ?_
        refine tk 25 ?_
        refine tk 26 ?_
        refine tk 27 ?_
        refine wpAnyH_done (by kernel_rfl) ?_ _
        obtain ⟨S, hS⟩ : ∃ s, sumS (st.take j) = s := ⟨_, rfl⟩
        rw [hS] at hs0 hs1 HSN
        try rw [hS]
        clear hS
        have w1' : IntKind.i64.wrap (S + a.tt) = S + a.tt := by rw [IntKind.wrap_i64]; omega
        have w2' : IntKind.i64.wrap (S + a.tt - a.fr) = S + a.tt - a.fr := by rw [IntKind.wrap_i64]; omega
        clear hHeld q1 q2 q3
        have CD := Lib.hid (CN.out.drew)
        go_wp2
        go_roundw
        case rel => exact ⟨j + 1, by omega, by rw [HSN.out], by go_num, CD⟩
        case measure => simp [intOf]; omega
      · obtain rfl : j = ns := by omega
        have ES := Lib.hid (show sumS (st.take j) = sumS st by rw [List.take_of_length_le (by rw [HNS.out]; omega)])
        rw [ES.out] at hs0 hs1
        try rw [ES.out]
        obtain ⟨S, hS⟩ : ∃ s, sumS st = s := ⟨_, rfl⟩
        have HS := Lib.hid hS
        rw [hS] at hs0 hs1
        try rw [hS]
        clear hS
        obtain ⟨x6, rfl⟩ : ∃ X, X = wr := ⟨_, rfl⟩
        have C6 := hb
        go_wp2
        go_loopw [11, 12, 105] (fun f l t wr => ∃ i : Nat, i ≤ nb ∧ f = .int .i64 (sumTo (fun b => countI (freeL bs st (b : Int))) i) ∧ l = .int .i64 (sumTo (fun b => loadI st (b : Int)) i) ∧ t = .int .i64 (i : Int) ∧ Hid (Below x1.heap.size x1 wr)) (fun _ _ t _ => nb - (intOf t).toNat)
        case atStart => exact ⟨0, Nat.zero_le _, rfl, rfl, rfl, C6⟩
        case round =>
          obtain ⟨i, hi, rfl, rfl, rfl, hb⟩ := hrel
          have hzs := hb.out.size
          obtain ⟨l0, l1⟩ := loads_le st i
          have hfr := frees_le HST.out i (by rw [HNB.out]; exact hi)
          rw [HNS.out] at l1
          have l2 : 2880 * (j : Int) * (i : Int) ≤ 100000 := by
            have h1 : (2880 : Int) * (j : Int) ≤ 8640 := by omega
            have h2 : (i : Int) ≤ 3 := by omega
            have := Int.mul_le_mul h1 h2 (by omega) (by omega)
            omega
          by_cases hlt : i < nb
          · have hld := load_bound st (i : Int)
            rw [HNS.out] at hld
            have hcf := free_count HST.out (show i < bs.length by rw [HNB.out]; exact hlt)
            obtain ⟨FS, hFS⟩ : ∃ s, sumTo (fun b => countI (freeL bs st (b : Int))) i = s := ⟨_, rfl⟩
            have HFS := Lib.hid hFS
            rw [hFS] at hfr
            try rw [hFS]
            obtain ⟨LS, hLS⟩ : ∃ s, sumTo (fun b => loadI st (b : Int)) i = s := ⟨_, rfl⟩
            have HLS := Lib.hid hLS
            rw [hLS] at hfr l0 l1
            try rw [hLS]
            obtain ⟨cf', hcf'⟩ : ∃ s, countI (freeL bs st (i : Int)) = s := ⟨_, rfl⟩
            have HCF := Lib.hid hcf'
            rw [hcf'] at hcf
            obtain ⟨ld, hldd⟩ : ∃ s, loadI st (i : Int) = s := ⟨_, rfl⟩
            have HLD := Lib.hid hldd
            rw [hldd] at hcf hld
            have hFb : -100000 ≤ FS ∧ FS ≤ 100000 := by omega
            have hcb : -100000 ≤ cf' ∧ cf' ≤ 100000 := by omega
            clear hFS hLS hcf' hldd hfr hcf
            go_wp2_with fail
            refine (implFreeTimes _ bs _ st (i : Int) _ (RB1.out.below hb.out) (RS.out.below hb.out) HBW.out (fun x hx => stays_wf HST.out x hx) (by rw [HNS.out]; omega)).mono ?_
            rintro e x7 ⟨v7, rfl, ho7, hb7⟩
            have C7 := Lib.hid (hb.out.trans (hb7.mono hb.out.size))
            have S7 := Lib.hid (show SlWindow x7 v7 _ from OwnOf.slx ho7 windowLen (Nat.le_trans (freeL_len bs st (i : Int)) (by omega)))
            obtain ⟨A7, c7, rfl⟩ := own_form ho7
            clear ho7 hb7
            go_wp2_with fail
            refine (implCountMinutes _ (freeL bs st (i : Int)) _ S7.out).mono ?_
            rw [HCF.out]
            rintro e x8 ⟨rfl, hb8⟩
            have C8 := Lib.hid (C7.out.trans (hb8.mono C7.out.size))
            have w1' : IntKind.i64.wrap (FS + cf') = FS + cf' := by rw [IntKind.wrap_i64]; omega
            clear hb8
            go_wp2_with fail
            refine (implBerthLoad _ st (i : Int) _ (RS.out.below C8.out)).mono ?_
            rw [HLD.out]
            rintro e x9 ⟨rfl, hb9⟩
            have C9 := Lib.hid (C8.out.trans (hb9.mono C8.out.size))
            have w2' : IntKind.i64.wrap (LS + ld) = LS + ld := by rw [IntKind.wrap_i64]; omega
            clear hb9
            go_wp2
            go_roundw
            case rel => exact ⟨i + 1, by omega, by rw [show sumTo (fun b => countI (freeL bs st (b : Int))) (i + 1) = FS + cf' by rw [← HFS.out, ← HCF.out]; rfl], by rw [show sumTo (fun b => loadI st (b : Int)) (i + 1) = LS + ld by rw [← HLS.out, ← HLD.out]; rfl], by go_num, C9⟩
            case measure => simp [intOf]; omega
          · obtain rfl : i = nb := by omega
            have e1 := HF1.out
            have e2 := HF2.out
            rw [HS.out] at e1 e2
            try rw [e1]
            try rw [e2]
            obtain ⟨FR, hFR⟩ : ∃ z, 2881 * (i : Int) - S = z := ⟨_, rfl⟩
            try rw [hFR]
            have HFR := Lib.hid hFR
            clear l0 l1 l2 hfr e1 e2 hFR
            obtain ⟨x7, rfl⟩ : ∃ X, X = wr := ⟨_, rfl⟩
            have hS3 : S ≤ 8640 := by omega
            obtain ⟨kf, hkf⟩ : ∃ z, findI bs fl [] 0 10 20 = z := ⟨_, rfl⟩
            have HKF := Lib.hid hkf
            have hfit := find_fit hkf
            clear hkf
            go_wp2_with fail
            refine (implFindBerth _ bs _ fl _ [] 0 10 20 _ (RB1.out.below hb.out) (RF1.out.below hb.out) (sl_none _) HBW.out HFW.out).mono ?_
            rw [HKF.out]
            rintro e x8 ⟨rfl, hb8⟩
            have C8 := Lib.hid (hb.out.trans (hb8.mono hb.out.size))
            clear hb8
            have q1 : (S == S) = true := by simp
            obtain ⟨T, hT⟩ : ∃ z, 2881 * (i : Int) = z := ⟨_, rfl⟩
            have wT : IntKind.i64.wrap (FR + S) = T := by have := HFR.out; rw [IntKind.wrap_i64]; omega
            have wM : IntKind.i64.wrap ((i : Int) * 2881) = T := by rw [IntKind.wrap_i64]; omega
            have q2 : (T == T) = true := by simp
            clear hT
            rcases hfit with hneg | ⟨jb, bx, sx, rfl, hbx, hsx, hft⟩
            · have d1 : decide (kf < 0) = true := decide_eq_true hneg
              have DD := Lib.hid ((Below.refl x8.heap.size x8).drew)
              go_upto_region 24 with fail
              refine wp_region_held_drew (S := (fun w' => Hid (Below x8.heap.size x8 w'))) (by kernel_rfl) ?_ (fun hHeld => ?_)
              · (try dsimp only); go_keep
              refine tk 0 ?_
              refine tk 1 ?_
              refine tk 2 ?_
              refine tk 3 ?_
              refine tk 4 ?_
              refine tk 5 ?_
              refine tk 6 ?_
              refine tk 7 ?_
              refine tk 8 ?_
              refine tk 9 ?_
              refine tk 10 ?_
              refine tk 11 ?_
              refine tk 12 ?_
              refine tk 13 ?_
              refine tk 14 ?_
              refine tk 15 ?_
              refine tku 16 ?_
              refine tku 17 ?_
              refine tku 18 ?_
              refine tku 19 ?_
              refine tku 20 ?_
              refine tku 21 ?_
              refine tku 22 ?_
              refine tku 23 ?_
              refine tku 24 ?_
              refine tku 25 ?_
              refine tku 26 ?_
              refine tku 27 ?_
              refine tku 28 ?_
              refine tku 29 ?_
              refine tk 30 ?_
              refine tk 31 ?_
              refine tk 32 ?_
              refine wpAnyH_done (by kernel_rfl) ?_ _
              go_wp2
              go_ret
              exact ⟨rfl, BW.out.trans ((C8.out.trans (hHeld.out.mono C8.out.size)).mono BW.out.size)⟩
            · have hjb : jb < i := by have := (List.getElem?_eq_some_iff.1 hbx).1; have := HNB.out; omega
              have d1 : decide ((jb : Int) < 0) = false := decide_eq_false (by omega)
              have d2 : decide ((jb : Int) < (i : Int)) = true := decide_eq_true (by omega)
              have d3 : (jb : Int) < (i : Int) := by omega
              have hnf0 : 0 < nf := by omega
              have WB := Lib.hid (HBW.out bx (List.mem_of_getElem? hbx))
              have WS := Lib.hid (HFW.out sx (List.mem_of_getElem? hsx))
              have HFT := Lib.hid hft
              rcases RF1.out.2 with ⟨he, _⟩ | ⟨gf, of, cf', e, _, _, fc⟩
              · rw [he] at hsx; simp at hsx
              injection e with ea e2 e3
              subst ea
              clear e2 e3
              rcases RB1.out.2 with ⟨he, _⟩ | ⟨gb, ob, cb', e, _, _, bc⟩
              · rw [he] at hbx; simp at hbx
              injection e with ea e2 e3
              subst ea
              clear e2 e3
              obtain ⟨r0, r1, r2, r3, r4, r5⟩ := SlShip.cells fc 0 sx hsx
              obtain ⟨t0, t1, t2⟩ := SlBerth.cells bc jb bx hbx
              simp only [Nat.zero_mul, Nat.add_zero] at r0 r1 r2 r3 r4 r5
              clear fc bc hsx hbx hft
              have FS0 := Lib.hid (show x8.cell? ⟨gf, of, none⟩ = some (.string sx.name) from cell_onV r0 C8.out)
              have vFS0 := FS0.out
              have FS1 := Lib.hid (show x8.cell? ⟨gf, of + 1, none⟩ = some (.int .i64 sx.length) from cell_onV r1 C8.out)
              have vFS1 := FS1.out
              have FS2 := Lib.hid (show x8.cell? ⟨gf, of + 2, none⟩ = some (.int .i64 sx.draught) from cell_onV r2 C8.out)
              have vFS2 := FS2.out
              have FS3 := Lib.hid (show x8.cell? ⟨gf, of + 3, none⟩ = some (.int .i64 sx.line) from cell_onV r3 C8.out)
              have vFS3 := FS3.out
              have FS4 := Lib.hid (show x8.cell? ⟨gf, of + 4, none⟩ = some (.int .i64 sx.tugs) from cell_onV r4 C8.out)
              have vFS4 := FS4.out
              have FS5 := Lib.hid (show x8.cell? ⟨gf, of + 5, none⟩ = some (.bool sx.slow) from cell_onV r5 C8.out)
              have vFS5 := FS5.out
              have FB0 := Lib.hid (show x8.cell? ⟨gb, ob + jb * 3, none⟩ = some (.string bx.name) from cell_onV t0 C8.out)
              have vFB0 := FB0.out
              have FB1 := Lib.hid (show x8.cell? ⟨gb, ob + jb * 3 + 1, none⟩ = some (.int .i64 bx.length) from cell_onV t1 C8.out)
              have vFB1 := FB1.out
              have FB2 := Lib.hid (show x8.cell? ⟨gb, ob + jb * 3 + 2, none⟩ = some (.int .i64 bx.depth) from cell_onV t2 C8.out)
              have vFB2 := FB2.out
              clear r0 r1 r2 r3 r4 r5 t0 t1 t2
              have DD := Lib.hid ((Below.refl x8.heap.size x8).drew)
              go_upto_region 24 with fail
              refine wp_region_held_drew (S := (fun w' => w'.cell? ⟨gf, of, none⟩ = some (.string sx.name) ∧ w'.cell? ⟨gf, of + 1, none⟩ = some (.int .i64 sx.length) ∧ w'.cell? ⟨gf, of + 2, none⟩ = some (.int .i64 sx.draught) ∧ w'.cell? ⟨gf, of + 3, none⟩ = some (.int .i64 sx.line) ∧ w'.cell? ⟨gf, of + 4, none⟩ = some (.int .i64 sx.tugs) ∧ w'.cell? ⟨gf, of + 5, none⟩ = some (.bool sx.slow) ∧ w'.cell? ⟨gb, ob + jb * 3, none⟩ = some (.string bx.name) ∧ w'.cell? ⟨gb, ob + jb * 3 + 1, none⟩ = some (.int .i64 bx.length) ∧ w'.cell? ⟨gb, ob + jb * 3 + 2, none⟩ = some (.int .i64 bx.depth) ∧ Hid (Below x8.heap.size x8 w'))) (by kernel_rfl) ?_ (fun hHeld => ?_)
              · (try dsimp only); go_keep
              refine tk 0 ?_
              refine tk 1 ?_
              refine tk 2 ?_
              refine tk 3 ?_
              refine tk 4 ?_
              refine tk 5 ?_
              refine tk 6 ?_
              refine tk 7 ?_
              refine tk 8 ?_
              refine tk 9 ?_
              refine tk 10 ?_
              refine tk 11 ?_
              refine tk 12 ?_
              refine tk 13 ?_
              refine tk 14 ?_
              refine tk 15 ?_
              refine tk 16 ?_
              refine tk 17 ?_
              refine tk 18 ?_
              refine tk 19 ?_
              refine tk 20 ?_
              refine tk 21 ?_
              refine tk 22 ?_
              refine tk 23 ?_
              refine tk 24 ?_
              refine tk 25 ?_
              refine tk 26 ?_
              refine tk 27 ?_
              refine wpAnyH_ready (rs := [28]) (by kernel_rfl) (by simp) ?_
              refine AllReadyH.cons rfl (fun K hK => ?_) AllReadyH.nil
              rw [if_pos (by rfl)]
              go_simp
              go_at_call 19
              have kB := hHeld.2.2.2.2.2.2.2.2.2
              refine (implFitsBerth bx sx _ WB.out WS.out).mono ?_
              rw [HFT.out]
              rintro e y9 ⟨rfl, hbk⟩
              have HBK := kB.out.trans (hbk.mono kB.out.size)
              have QS := Lib.hid (show y9.cell? ⟨gf, of, none⟩ = some (.string sx.name) ∧ y9.cell? ⟨gf, of + 1, none⟩ = some (.int .i64 sx.length) ∧ y9.cell? ⟨gf, of + 2, none⟩ = some (.int .i64 sx.draught) ∧ y9.cell? ⟨gf, of + 3, none⟩ = some (.int .i64 sx.line) ∧ y9.cell? ⟨gf, of + 4, none⟩ = some (.int .i64 sx.tugs) ∧ y9.cell? ⟨gf, of + 5, none⟩ = some (.bool sx.slow) ∧ y9.cell? ⟨gb, ob + jb * 3, none⟩ = some (.string bx.name) ∧ y9.cell? ⟨gb, ob + jb * 3 + 1, none⟩ = some (.int .i64 bx.length) ∧ y9.cell? ⟨gb, ob + jb * 3 + 2, none⟩ = some (.int .i64 bx.depth) ∧ Hid (Below x8.heap.size x8 y9) from ⟨cell_onV FS0.out HBK, cell_onV FS1.out HBK, cell_onV FS2.out HBK, cell_onV FS3.out HBK, cell_onV FS4.out HBK, cell_onV FS5.out HBK, cell_onV FB0.out HBK, cell_onV FB1.out HBK, cell_onV FB2.out HBK, Lib.hid HBK⟩)
              clear hbk kB hHeld HBK
              go_simp
              refine hK.out _ _ ?_ (fun hHeld => ?_)
              · (try dsimp only); exact QS.out
              clear hK K
              try simp only [Act.put, List.setIfInBounds_toArray, List.set_cons_zero, List.set_cons_succ]
              refine tk 29 ?_
              refine tk 30 ?_
              refine tk 31 ?_
              refine tk 32 ?_
              refine wpAnyH_done (by kernel_rfl) ?_ _
              have C9 := Lib.hid (C8.out.trans (hHeld.2.2.2.2.2.2.2.2.2.out.mono C8.out.size))
              go_wp2
              go_ret
              exact ⟨rfl, BW.out.trans (C9.out.mono BW.out.size)⟩
set_option maxRecDepth 100000 in
theorem lifted (os : Os) (started : os.Started) (H : Type) (enc : TypeId × Value → H) :
    ReturnsInHanded {} Try.checked os 3 .any (Rows.fnBerthsSpec.pre6 enc Try.prog Try.f3 Rows.fnBerthsRow.domain false) (Rows.fnBerthsSpec.post enc Try.prog Try.f3 false true false false) := by
  refine returnsInHanded_of_change (C := Try.checked) own started (by kernel_rfl) Try.func3
    (ChangeSpec.witness6 (enc := enc) (C := Try.checked) false ⟨#[], #[.slice none 0 0], []⟩ 8 (by kernel_rfl) (by kernel_rfl) (by kernel_rfl) (by kernel_rfl)) ?_
  intro W base args ds gs before hval0 hW _ _
  have hval : ∀ (j : Nat) t v, Try.f3.params[j]? = some t → args[j]? = some v → Value.okWide Try.prog W .any base t v := hval0
  have hW' := hW
  obtain ⟨p, q, hA0, hV, rfl, _, _⟩ := hW
  have hA : DataW.TrodAll enc Try.prog W 0 (fun _ => true) true Try.f3.params.toList args.toList ds p := hA0
  rw [Try.params3] at hA hval
  obtain ⟨v0, vs0, d0, ds0, p0, q0, hargs, rfl, rfl, h0, r0⟩ := trodAll_cons hA
  obtain ⟨rfl, rfl, rfl⟩ := trodAll_nil r0
  obtain rfl : args = #[v0] := by cases args; simp_all
  obtain ⟨A0, n0, c0, rfl, g0⟩ := open_code_arg (hval 0 22 v0 rfl rfl) h0
  refine (law A0 n0 c0 W g0).mono fun e W' ⟨he, hb⟩ => ⟨_, he, ?_⟩
  exact law_post laidOut (by kernel_rfl) rfl (by kernel_rfl) Try.underlying4 rfl rfl rfl hW' hb
theorem holds : Rows.FnBerthsSaid :=
  OpenClaim.holds_of_wide 3 Try.f3 rfl rfl rfl rfl rfl rfl rfl ⟨rfl, rfl, rfl, rfl, rfl⟩ rfl rfl rfl rfl rfl (by kernel_rfl) Try.func3 (by kernel_rfl)
    (of_decide_eq_true (by kernel_rfl)) (by unfold Func.isWrapper; first | (rw [if_pos (by decide +kernel)]; kernel_rfl) | (rw [if_neg (by decide +kernel)]; exact ⟨rfl, rfl⟩))
    (fun os started H enc _ => lifted os started H enc)
end Go.Proofs.Ytghjfcnboocmjaa.lawBerths
