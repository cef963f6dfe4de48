
/- FnPacked holds for every code: ships are packed whenever this is possible, and no order needs fewer lockings than the least number. No condition. -/
import Derived.Test.YtphagahhhfiiaaaRows
import Derived.Test.YtphagahhhfiiaaaCodeArg
import Derived.Test.YtphagahhhfiiaaaKit
import Derived.Test.YtphagahhhfiiaaaDrawChamber
import Derived.Test.YtphagahhhfiiaaaPackedMath
import Derived.Test.YtphagahhhfiiaaaMostImpl
import Derived.Test.YtphagahhhfiiaaaPrefImpl
import Derived.Test.YtphagahhhfiiaaaLeastImpl
import Derived.Test.YtphagahhhfiiaaaIsImpl
import Derived.Deep.RegionHeld3
import Derived.Deep.DeepCutAuto
namespace Go.Proofs.Ytphagahhhfiiaaa.lawPacked
open Go.ChangeShapes Go.WideShapes Go.ChangeAt Go.RowKit
set_option maxRecDepth 100000

theorem own : ownKnob Try.prog.godebug = none := by kernel_rfl
theorem laidOut : laidOutB Try.prog = true := by kernel_rfl

theorem drawn_ok {d : ChamberD} {l : List Int} (hd : chamGood d) (h5 : l.length ≤ 5) (hl : ∀ x ∈ l, 20 ≤ x ∧ x < 150) : chamB d = true ∧ lensB l = true ∧ shortB d l = true := by
  obtain ⟨a1, a2, a3, a4, a5, a6⟩ := hd
  refine ⟨?_, ?_, ?_⟩
  · unfold chamB
    rw [inB_mk (by omega) (by omega), inB_mk (by omega) (by omega), inB_mk (by omega) (by omega)]
    rfl
  · unfold lensB
    rw [decide_eq_true (by omega), Bool.true_and, List.all_eq_true]
    intro x hx
    have := hl x hx
    exact inB_mk (by omega) (by omega)
  · unfold shortB
    rw [List.all_eq_true]
    intro x hx
    have := hl x hx
    exact decide_eq_true (by omega)
set_option maxHeartbeats 16000000 in
theorem law (A : Option Addr) (n c : Nat) (w : World) (hcode : n ≤ maxLen ∧ (n ≤ 1048576 → CodeAt w A n)) :
    Calls Try.prog 3 #[.slice A n c] w fun e w' => e = .returned (.bool true) ∧ Below w.heap.size w w' := by
  obtain ⟨hn, hcode⟩ := hcode
  have HC := Lib.hid hcode
  clear hcode
  unfold maxLen at hn
  by_cases hbig : 1048576 < n
  · go_enter Try.func3, Try.ntmps3
    go_wp2
    go_ret
    exact ⟨rfl, Below.refl _ _⟩
  have HC0 := Lib.hid (HC.out (by omega))
  clear HC
  go_enter Try.func3, Try.ntmps3
  go_wp2_with fail
  refine (makeChamber_any A n c w HC0.out).mono ?_
  rintro e w1 ⟨d, v, l, rfl, hd, hl5, hlx, hown, hb1⟩
  obtain ⟨h1, h2, h3⟩ := drawn_ok hd hl5 hlx
  have H1 := Lib.hid h1
  have H2 := Lib.hid h2
  have H3 := Lib.hid h3
  have SL1 := own_sl intLen hown (by omega)
  obtain ⟨Al, cl, rfl⟩ := own_form hown
  obtain ⟨m, hm⟩ : ∃ m, l.length = m := ⟨_, rfl⟩
  have HM := Lib.hid hm
  have B1 := Lib.hid hb1
  rw [hm] at hl5 SL1 ⊢
  have hcap : 0 < m → m ≤ cl := fun h0 => by
    rcases SL1.2 with ⟨he, _⟩ | ⟨g, o, c, e, _, hc, _⟩
    · rw [he] at hm; simp at hm; omega
    · injection e with _ _ e3; omega
  have HCAP := Lib.hid hcap
  have HSL1 := Lib.hid SL1
  have EM := Lib.hid (mostI_ok h1 h2)
  have hMm := mostTo_le d l (2 ^ l.length)
  have hOM := ok_most (k := d) (l := l) h1
  have hLM := least_most h1 h2 h3
  have hLG := least_greedy h1 h2 h3
  have hL1 := least_one h1 h2 h3
  have hLS := leastN_short h1 h2 h3
  have ELI := leastI_some h1 h2 h3
  have hpl := prefF_len (k := d) l.length l
  have epl : prefL d l = prefF d l.length l := by unfold prefL fitsB; rw [h1, h2, h3]; rfl
  obtain ⟨M, hM⟩ : ∃ M, mostTo d l (2 ^ l.length) = M := ⟨_, rfl⟩
  obtain ⟨r, hr⟩ : ∃ r, (packO d l).isSome = r := ⟨_, rfl⟩
  obtain ⟨Z, hZ⟩ : ∃ Z, leastN d l = Z := ⟨_, rfl⟩
  obtain ⟨pl, hpl0⟩ : ∃ pl, prefL d l = pl := ⟨_, rfl⟩
  obtain ⟨pn, hpn⟩ : ∃ pn, pl.length = pn := ⟨_, rfl⟩
  rw [← epl, hpl0, hpn, hm] at hpl
  rw [hM, hm] at hMm hLM
  rw [hr, hM, hm] at hOM
  rw [hZ] at hLM hLG hL1 hLS ELI
  rw [hpl0, hpn] at hLG
  rw [hr] at hL1
  rw [hm] at hLS
  rw [hM] at EM
  have HR := Lib.hid hr
  have HOM := Lib.hid hOM
  have HLM := Lib.hid hLM
  have HLG := Lib.hid hLG
  have HL1 := Lib.hid hL1
  have HELI := Lib.hid ELI
  have HPL := Lib.hid hpl0
  have HPN := Lib.hid hpn
  have hpn5 : pn ≤ 5 := by omega
  have hM5 : M ≤ 5 := by omega
  have hZ5 : Z ≤ 5 := by omega
  clear hd hlx hown hb1 h1 h2 h3 SL1 hm hcap hOM hLM hLG hL1 hLS ELI hpl epl hM hr hZ hpl0 hpn
  have hal := Joins.below_alloc1 w1 (.cells #[.int .i64 d.length, .int .i64 d.lanes, .int .i64 d.minutes] 24)
  have KD := Blk.new w1 #[.int .i64 d.length, .int .i64 d.lanes, .int .i64 d.minutes] 24
  obtain ⟨W2, hW2⟩ : ∃ W, W = w1.alloc (.cells #[.int .i64 d.length, .int .i64 d.lanes, .int .i64 d.minutes] 24) := ⟨_, rfl⟩
  rw [← hW2] at hal KD
  have HW2 := Lib.hid hW2
  have K := Lib.hid KD
  have B2 := Lib.hid (B1.out.trans (hal.mono B1.out.size))
  have SL2 := Lib.hid (SlOf.below HSL1.out hal)
  have B0 := Lib.hid (Below.refl W2.heap.size W2)
  clear hW2 hal KD
  go_upto_region 4 with fail
  try rw [← HW2.out]
  have c0 : W2.cell? ⟨w1.heap.size, 0, none⟩ = some (.int .i64 d.length) := (K.out.below B0.out).cell 0
  have c1 : W2.cell? ⟨w1.heap.size, 1, none⟩ = some (.int .i64 d.lanes) := (K.out.below B0.out).cell 1
  have c2 : W2.cell? ⟨w1.heap.size, 2, none⟩ = some (.int .i64 d.minutes) := (K.out.below B0.out).cell 2
  go_wp2_with fail
  try rw [← HW2.out]
  clear c0 c1 c2
  refine (implPackShips d _ l _ (SlOf.below SL2.out B0.out)).mono ?_
  rw [HR.out]
  rintro e x1 ⟨vl, rfl, ho, hbx⟩
  have BX1 := Lib.hid (B0.out.trans (hbx.mono B0.out.size))
  have OL := Lib.hid ho
  clear ho
  clear hbx
  have c0 : x1.cell? ⟨w1.heap.size, 0, none⟩ = some (.int .i64 d.length) := (K.out.below BX1.out).cell 0
  have c1 : x1.cell? ⟨w1.heap.size, 1, none⟩ = some (.int .i64 d.lanes) := (K.out.below BX1.out).cell 1
  have c2 : x1.cell? ⟨w1.heap.size, 2, none⟩ = some (.int .i64 d.minutes) := (K.out.below BX1.out).cell 2
  go_wp2_with fail
  clear c0 c1 c2
  refine (implMostShips d _ l _ (SlOf.below SL2.out BX1.out)).mono ?_
  rw [EM.out]
  rintro e x2 ⟨rfl, hbx⟩
  have BX2 := Lib.hid (BX1.out.trans (hbx.mono BX1.out.size))
  have OL := Lib.hid (own_below OL.out hbx)
  clear hbx
  obtain ⟨Av, cv, hvl⟩ := own_form OL.out
  obtain ⟨z, hz⟩ : ∃ z, ((packO d l).getD []).length = z := ⟨_, rfl⟩
  rw [hz] at hvl
  subst hvl
  have HZL := Lib.hid hz
  have hz8 : z ≤ 10000000 := by rw [← hz]; exact packO_len d l
  have SV := Lib.hid (own_sl intLen OL.out (by omega))
  clear hz
  go_upto_region 6 with fail
  go_cut [67] (fun s wx => s = .bool false ∧ Hid (Below W2.heap.size W2 wx))
  case first =>
    have c0 : x2.cell? ⟨w1.heap.size, 0, none⟩ = some (.int .i64 d.length) := (K.out.below BX2.out).cell 0
    have c1 : x2.cell? ⟨w1.heap.size, 1, none⟩ = some (.int .i64 d.lanes) := (K.out.below BX2.out).cell 1
    have c2 : x2.cell? ⟨w1.heap.size, 2, none⟩ = some (.int .i64 d.minutes) := (K.out.below BX2.out).cell 2
    go_wp2_with fail
    clear c0 c1 c2
    refine (implChamberOk d _).mono ?_
    rw [H1.out]
    rintro e x3 ⟨rfl, hbx⟩
    have BX3 := Lib.hid (BX2.out.trans (hbx.mono BX2.out.size))
    have SV := Lib.hid (SlOf.below SV.out hbx)
    clear hbx
    go_wp2_with fail
    refine (implLengthsOk _ l _ (SlOf.below SL2.out BX3.out)).mono ?_
    rw [H2.out]
    rintro e x4 ⟨rfl, hbx⟩
    have BX4 := Lib.hid (BX3.out.trans (hbx.mono BX3.out.size))
    have SV := Lib.hid (SlOf.below SV.out hbx)
    clear hbx
    have t0 : decide ((M : Int) < 0) = false := decide_eq_false (by omega)
    have t1 : decide ((m : Int) < (M : Int)) = false := decide_eq_false (by omega)
    have t1n : decide (m < M) = false := decide_eq_false (by omega)
    have t1m : ¬ m < M := by omega
    have t1b : ¬ (M : Int) < 0 := by omega
    have t1c : ¬ (m : Int) < (M : Int) := by omega
    cases r with
    | false =>
      have t2 : ((M : Int) == (m : Int)) = false := by have := HOM.out; simp at this ⊢; omega
      go_wp2_with fail
      go_meet
      exact ⟨rfl, BX4⟩
    | true =>
      have t2 : ((M : Int) == (m : Int)) = true := by have := HOM.out; simp at this ⊢; omega
      obtain ⟨s, hs⟩ := Option.isSome_iff_exists.1 HR.out
      have HS := Lib.hid hs
      have HP := Lib.hid (packO_some hs)
      have SV2 := SV.out
      rw [hs] at SV2
      have SV3 := Lib.hid (show SlInt x4 (.slice Av z cv) s from SV2)
      clear hs SV2
      have c0 : x4.cell? ⟨w1.heap.size, 0, none⟩ = some (.int .i64 d.length) := (K.out.below BX4.out).cell 0
      have c1 : x4.cell? ⟨w1.heap.size, 1, none⟩ = some (.int .i64 d.lanes) := (K.out.below BX4.out).cell 1
      have c2 : x4.cell? ⟨w1.heap.size, 2, none⟩ = some (.int .i64 d.minutes) := (K.out.below BX4.out).cell 2
      go_wp2_with fail
      clear c0 c1 c2
      refine (implIsPacking d _ l _ s _ (SlOf.below SL2.out BX4.out) SV3.out).mono ?_
      rw [HP.out]
      rintro e x5 ⟨rfl, hbx⟩
      have BX5 := Lib.hid (BX4.out.trans (hbx.mono BX4.out.size))
      clear hbx
      go_wp2_with fail
      go_meet
      exact ⟨rfl, BX5⟩
  case rest =>
    obtain ⟨rfl, BX5⟩ := hcut
    obtain ⟨x5, rfl⟩ : ∃ X, X = wc := ⟨_, rfl⟩
    clear OL SV HZL hz8
    have c0 : x5.cell? ⟨w1.heap.size, 0, none⟩ = some (.int .i64 d.length) := (K.out.below BX5.out).cell 0
    have c1 : x5.cell? ⟨w1.heap.size, 1, none⟩ = some (.int .i64 d.lanes) := (K.out.below BX5.out).cell 1
    have c2 : x5.cell? ⟨w1.heap.size, 2, none⟩ = some (.int .i64 d.minutes) := (K.out.below BX5.out).cell 2
    go_wp2_with fail
    clear c0 c1 c2
    refine (implPrefixLockings d _ l _ (SlOf.below SL2.out BX5.out)).mono ?_
    rintro e x6 ⟨vp, rfl, hop, hbx⟩
    have BX6 := Lib.hid (BX5.out.trans (hbx.mono BX5.out.size))
    have OP := Lib.hid hop
    rw [HPL.out] at OP
    clear hop
    clear hbx
    have c0 : x6.cell? ⟨w1.heap.size, 0, none⟩ = some (.int .i64 d.length) := (K.out.below BX6.out).cell 0
    have c1 : x6.cell? ⟨w1.heap.size, 1, none⟩ = some (.int .i64 d.lanes) := (K.out.below BX6.out).cell 1
    have c2 : x6.cell? ⟨w1.heap.size, 2, none⟩ = some (.int .i64 d.minutes) := (K.out.below BX6.out).cell 2
    go_wp2_with fail
    clear c0 c1 c2
    refine (implLeastLockings d _ l _ (SlOf.below SL2.out BX6.out)).mono ?_
    rw [HELI.out]
    rintro e x7 ⟨rfl, hbx⟩
    have BX7 := Lib.hid (BX6.out.trans (hbx.mono BX6.out.size))
    have OP := Lib.hid (own_below OP.out hbx)
    clear hbx
    have SP := Lib.hid (own_sl intLen OP.out (by have := HPN.out; omega))
    obtain ⟨Ap, cp, hvp⟩ := own_form OP.out
    rw [HPN.out] at hvp
    subst hvp
    have S0 := Lib.hid (SumTo.zero (k := d) (l := l) (by unfold fitsB; rw [H1.out, H2.out, H3.out]; rfl))
    go_wp2
    go_loopw [10, 76] (fun s t wr => ∃ (i S : Nat), i ≤ pn ∧ S ≤ m ∧ s = .int .i64 (S : Int) ∧ t = .int .i64 (i : Int) ∧ Hid (SumTo d l i S) ∧ Hid (Below x7.heap.size x7 wr)) (fun _ t _ => pn - (intOf t).toNat)
    case atStart => exact ⟨0, 0, Nat.zero_le _, Nat.zero_le _, rfl, rfl, S0, Lib.hid (Below.refl _ _)⟩
    case round =>
      obtain ⟨i, S, hi, hS, rfl, rfl, hT, hb⟩ := hrel
      have BR := Lib.hid (BX7.out.trans (hb.out.mono BX7.out.size))
      by_cases hlt : i < pn
      · have hlti : (i : Int) < (pn : Int) := by omega
        obtain ⟨q0, hq0⟩ : ∃ q, pl[i]? = some q := ⟨_, List.getElem?_eq_getElem (by have := HPN.out; omega)⟩
        obtain ⟨e1, e2, e3, e4, e5, e6⟩ := SumTo.next H1.out H2.out H3.out hT.out (by rw [HPL.out]; exact hq0)
        obtain ⟨q, hq⟩ : ∃ q, longN d (l.drop S) = q := ⟨_, rfl⟩
        rw [hq] at e1 e3 e5 e6
        subst e1
        rw [HM.out] at e3 e4
        have HE5 := Lib.hid e5
        have HE6 := Lib.hid e6
        rcases SP.out.2 with ⟨he, _⟩ | ⟨gp, op, cp', e, _, _, pc⟩
        · rw [he] at hq0; simp at hq0
        injection e with ea ex ey
        subst ea
        clear ex ey
        have yp : wr.cell? ⟨gp, op + i, none⟩ = some (.int .i64 (q : Int)) := cell_onV (SlInt.cells pc i _ hq0) hb.out
        clear pc e5 e6 hq hq0
        have t0 : decide ((q : Int) < 1) = false := decide_eq_false (by omega)
        have t0b : ¬ (q : Int) < 1 := by omega
        have wq : IntKind.i64.wrap ((S : Int) + (q : Int)) = (S : Int) + (q : Int) := by rw [IntKind.wrap_i64]; omega
        have t1 : decide ((m : Int) < (S : Int) + (q : Int)) = false := decide_eq_false (by omega)
        have t1b : ¬ (m : Int) < (S : Int) + (q : Int) := by omega
        have hcap := HCAP.out (by omega)
        rcases SL2.out.2 with ⟨he, _⟩ | ⟨gl, ol, cl', e, _, _, _⟩
        · have := HM.out; rw [he] at this; simp at this; omega
        injection e with ea ex ey
        subst ea
        clear ex ey
        have RD0 := SlOf.dropP (k := S) (l := l) (c := cl) (g := gl) (o := ol) (by rw [HM.out]; exact SlOf.below SL2.out BR.out) (by rw [HM.out]; omega)
        rw [HM.out, Nat.mul_one, show m - S = (l.drop S).length by rw [List.length_drop, HM.out]] at RD0
        have RT := SlOf.takeP (k := q) RD0 (by rw [List.length_drop, HM.out]; omega)
        have hd := (Below.refl wr.heap.size wr).drew
        have RT2 := Lib.hid (SlOf.below RT hd)
        obtain ⟨y2, hy2⟩ : ∃ X, X = wr.drew := ⟨_, rfl⟩
        rw [← hy2] at RT2 hd
        have HY2 := Lib.hid hy2
        have b2 := Lib.hid (hb.out.trans (hd.mono hb.out.size))
        have K2 := Lib.hid ((K.out.below BR.out).below hd)
        have C := implPackShips d _ _ _ RT2.out
        rw [HE5.out] at C
        have HCC := Lib.hid C
        clear RD0 RT hd hy2 C
        have e10 : wr.cell? ⟨w1.heap.size, 0, none⟩ = some (.int .i64 d.length) := (K.out.below BR.out).cell 0
        have C0 := Lib.hid (show y2.cell? ⟨w1.heap.size, 0, none⟩ = some (.int .i64 d.length) from K2.out.cell 0)
        have e11 : wr.cell? ⟨w1.heap.size, 1, none⟩ = some (.int .i64 d.lanes) := (K.out.below BR.out).cell 1
        have C1 := Lib.hid (show y2.cell? ⟨w1.heap.size, 1, none⟩ = some (.int .i64 d.lanes) from K2.out.cell 1)
        have e12 : wr.cell? ⟨w1.heap.size, 2, none⟩ = some (.int .i64 d.minutes) := (K.out.below BR.out).cell 2
        have C2 := Lib.hid (show y2.cell? ⟨w1.heap.size, 2, none⟩ = some (.int .i64 d.minutes) from K2.out.cell 2)
        go_upto_region 16 with fail
        refine wp_region_held_drew (S := (fun w' => w'.cell? ⟨w1.heap.size, 0, none⟩ = some (.int .i64 d.length) ∧ w'.cell? ⟨w1.heap.size, 1, none⟩ = some (.int .i64 d.lanes) ∧ w'.cell? ⟨w1.heap.size, 2, none⟩ = some (.int .i64 d.minutes))) (by kernel_rfl) ?_ (fun hHeld => ?_)
        · (try dsimp only); go_keep
        rw [← HY2.out] at hHeld ⊢
        clear e10 e11 e12 yp
        refine wpAnyH_take (i := 0) (v := ?_) (by simp only [List.getElem?_toArray, List.getElem?_cons_zero]; rfl) (by kernel_rfl) (by kernel_rfl) (by kernel_rfl) (by exact fun _ _ _ h => h) (Or.inl ⟨by rfl, ?_⟩) (by assumption) ?_; rotate_left; focus (intro w hSw; (try dsimp only at hSw); first | (go_simp; done) | (go_simp; with_reducible rfl))
        (try simp only [Act.put]); (try simp only [List.setIfInBounds_toArray]); (try simp only [List.set_cons_succ]); (try simp only [List.set_cons_zero])
        refine wpAnyH_take (i := 1) (v := ?_) (by simp only [List.getElem?_toArray, List.getElem?_cons_succ, List.getElem?_cons_zero]; rfl) (by kernel_rfl) (by kernel_rfl) (by kernel_rfl) (by exact fun _ _ _ h => h) (Or.inl ⟨by rfl, ?_⟩) (by assumption) ?_; rotate_left; focus (intro w hSw; (try dsimp only at hSw); first | (go_simp; done) | (go_simp; with_reducible rfl))
        (try simp only [Act.put]); (try simp only [List.setIfInBounds_toArray]); (try simp only [List.set_cons_succ]); (try simp only [List.set_cons_zero])
        refine wpAnyH_take (i := 2) (v := ?_) (by simp only [List.getElem?_toArray, List.getElem?_cons_succ, List.getElem?_cons_zero]; rfl) (by kernel_rfl) (by kernel_rfl) (by kernel_rfl) (by exact fun _ _ _ h => h) (Or.inl ⟨by rfl, ?_⟩) (by assumption) ?_; rotate_left; focus (intro w hSw; (try dsimp only at hSw); first | (go_simp; done) | (go_simp; with_reducible rfl))
        (try simp only [Act.put]); (try simp only [List.setIfInBounds_toArray]); (try simp only [List.set_cons_succ]); (try simp only [List.set_cons_zero])
        refine wpAnyH_take (i := 3) (v := ?_) (by simp only [List.getElem?_toArray, List.getElem?_cons_succ, List.getElem?_cons_zero]; rfl) (by kernel_rfl) (by kernel_rfl) (by kernel_rfl) (by exact fun _ _ _ h => h) (Or.inl ⟨by rfl, ?_⟩) (by assumption) ?_; rotate_left; focus (intro w hSw; (try dsimp only at hSw); first | (go_simp; done) | (go_simp; with_reducible rfl))
        (try simp only [Act.put]); (try simp only [List.setIfInBounds_toArray]); (try simp only [List.set_cons_succ]); (try simp only [List.set_cons_zero])
        refine wpAnyH_take (i := 4) (v := ?_) (by simp only [List.getElem?_toArray, List.getElem?_cons_succ, List.getElem?_cons_zero]; rfl) (by kernel_rfl) (by kernel_rfl) (by kernel_rfl) (by exact fun _ _ _ h => h) (Or.inl ⟨by rfl, ?_⟩) (by assumption) ?_; rotate_left; focus (intro w hSw; (try dsimp only at hSw); first | (go_simp; done) | (go_simp; with_reducible rfl))
        (try simp only [Act.put]); (try simp only [List.setIfInBounds_toArray]); (try simp only [List.set_cons_succ]); (try simp only [List.set_cons_zero])
        refine wpAnyH_take (i := 5) (v := ?_) (by simp only [List.getElem?_toArray, List.getElem?_cons_succ, List.getElem?_cons_zero]; rfl) (by kernel_rfl) (by kernel_rfl) (by kernel_rfl) (by exact fun _ _ _ h => h) (Or.inl ⟨by rfl, ?_⟩) (by assumption) ?_; rotate_left; focus (intro w hSw; (try dsimp only at hSw); first | (go_simp; done) | (go_simp; with_reducible rfl))
        (try simp only [Act.put]); (try simp only [List.setIfInBounds_toArray]); (try simp only [List.set_cons_succ]); (try simp only [List.set_cons_zero])
        have hbd1 : (0 : Int) ≤ (S : Int) ∧ (S : Int) ≤ (S : Int) + (q : Int) := by omega
        have hbd2 : (0 : Int) ≤ (S : Int) + (q : Int) ∧ (S : Int) + (q : Int) ≤ (cl : Int) := by omega
        have hcp : ¬ cl = S := by omega
        have hcp2 : ¬ cl - S = 0 := by omega
        have htn : ((S : Int) + (q : Int)).toNat = S + q := by omega
        have hsub : S + q - S = q := by omega
        refine wpAnyH_take (i := 6) (v := ?_) (by simp only [List.getElem?_toArray, List.getElem?_cons_succ, List.getElem?_cons_zero]; rfl) (by kernel_rfl) (by kernel_rfl) (by kernel_rfl) (by exact fun _ _ _ h => h) (Or.inl ⟨by rfl, ?_⟩) (by assumption) ?_; rotate_left; focus (intro w hSw; (try dsimp only at hSw); first | (go_simp; done) | (go_simp; with_reducible rfl) | (go_simp; rw [if_pos hbd2]; go_simp; rw [if_pos hbd1]; go_simp; done) | (go_simp; rw [if_pos hbd2]; go_simp; rw [if_pos hbd1]; go_simp; with_reducible rfl))
        (try simp only [Act.put]); (try simp only [List.setIfInBounds_toArray]); (try simp only [List.set_cons_succ]); (try simp only [List.set_cons_zero])
        refine wpAnyH_ready (rs := [7]) (by kernel_rfl) (by simp) ?_
        refine AllReadyH.cons rfl (fun K hK => ?_) AllReadyH.nil
        rw [if_pos (by rfl)]
        go_simp
        go_at_call 13
        refine HCC.out.mono ?_
        rintro e y3 ⟨v, rfl, -, hb3⟩
        have HB3 := Lib.hid hb3
        clear hb3
        go_simp
        refine hK.out _ _ ⟨cell_onV C0.out HB3.out, cell_onV C1.out HB3.out, cell_onV C2.out HB3.out⟩ (fun hHeld => ?_)
        skip
        (try simp only [Act.put]); (try simp only [List.setIfInBounds_toArray]); (try simp only [List.set_cons_succ]); (try simp only [List.set_cons_zero])
        refine wpAnyH_take (i := 8) (v := ?_) (by simp only [List.getElem?_toArray, List.getElem?_cons_succ, List.getElem?_cons_zero]; rfl) (by kernel_rfl) (by kernel_rfl) (by kernel_rfl) (by exact fun _ _ _ h => h) (Or.inl ⟨by rfl, ?_⟩) (by assumption) ?_; rotate_left; focus (intro w hSw; (try dsimp only at hSw); first | (go_simp; done) | (go_simp; with_reducible rfl))
        (try simp only [Act.put]); (try simp only [List.setIfInBounds_toArray]); (try simp only [List.set_cons_succ]); (try simp only [List.set_cons_zero])
        refine wpAnyH_take (i := 9) (v := ?_) (by simp only [List.getElem?_toArray, List.getElem?_cons_succ, List.getElem?_cons_zero]; rfl) (by kernel_rfl) (by kernel_rfl) (by kernel_rfl) (by exact fun _ _ _ h => h) (Or.inl ⟨by rfl, ?_⟩) (by assumption) ?_; rotate_left; focus (intro w hSw; (try dsimp only at hSw); first | (go_simp; done) | (go_simp; with_reducible rfl))
        (try simp only [Act.put]); (try simp only [List.setIfInBounds_toArray]); (try simp only [List.set_cons_succ]); (try simp only [List.set_cons_zero])
        refine wpAnyH_take (i := 10) (v := ?_) (by simp only [List.getElem?_toArray, List.getElem?_cons_succ, List.getElem?_cons_zero]; rfl) (by kernel_rfl) (by kernel_rfl) (by kernel_rfl) (by exact fun _ _ _ h => h) (Or.inl ⟨by rfl, ?_⟩) (by assumption) ?_; rotate_left; focus (intro w hSw; (try dsimp only at hSw); first | (go_simp; done) | (go_simp; with_reducible rfl))
        (try simp only [Act.put]); (try simp only [List.setIfInBounds_toArray]); (try simp only [List.set_cons_succ]); (try simp only [List.set_cons_zero])
        refine wpAnyH_take (i := 11) (v := ?_) (by simp only [List.getElem?_toArray, List.getElem?_cons_succ, List.getElem?_cons_zero]; rfl) (by kernel_rfl) (by kernel_rfl) (by kernel_rfl) (by exact fun _ _ _ h => h) (Or.inl ⟨by rfl, ?_⟩) (by assumption) ?_; rotate_left; focus (intro w hSw; (try dsimp only at hSw); first | (go_simp; done) | (go_simp; with_reducible rfl))
        (try simp only [Act.put]); (try simp only [List.setIfInBounds_toArray]); (try simp only [List.set_cons_succ]); (try simp only [List.set_cons_zero])
        refine wpAnyH_take (i := 12) (v := ?_) (by simp only [List.getElem?_toArray, List.getElem?_cons_succ, List.getElem?_cons_zero]; rfl) (by kernel_rfl) (by kernel_rfl) (by kernel_rfl) (by exact fun _ _ _ h => h) (Or.inl ⟨by rfl, ?_⟩) (by assumption) ?_; rotate_left; focus (intro w hSw; (try dsimp only at hSw); first | (go_simp; done) | (go_simp; with_reducible rfl))
        (try simp only [Act.put]); (try simp only [List.setIfInBounds_toArray]); (try simp only [List.set_cons_succ]); (try simp only [List.set_cons_zero])
        refine wpAnyH_done (by kernel_rfl) ?_ _
        have b3 := Lib.hid (b2.out.trans (HB3.out.mono b2.out.size))
        clear hHeld
        go_wp2
        go_roundw
        case rel => exact ⟨i + 1, S + q, by omega, by omega, by go_num, by go_num, HE6, b3⟩
        case measure => simp [intOf]; omega
      · obtain rfl : i = pn := by omega
        have hSm : S = m := by
          have hT2 := hT.out
          rw [show i = (prefL d l).length by rw [HPL.out, HPN.out]] at hT2
          rw [← HM.out]
          exact SumTo.all hT2
        subst hSm
        have hLG := HLG.out
        have hLM := HLM.out
        have wzm : IntKind.i64.wrap ((Z : Int) * (M : Int)) = ((Z * M : Nat) : Int) := by
          have := Nat.mul_le_mul hZ5 hM5
          rw [← Int.natCast_mul, IntKind.wrap_i64]; omega
        obtain ⟨zm, hzm⟩ : ∃ x, Z * M = x := ⟨_, rfl⟩
        rw [hzm] at hLM wzm
        have q1 : ((S : Int) == (S : Int)) = true := by simp
        have q2 : decide ((0 : Int) ≤ (Z : Int)) = true := decide_eq_true (by omega)
        have q2b : (0 : Int) ≤ (Z : Int) := by omega
        have q3 : decide ((Z : Int) ≤ (i : Int)) = true := decide_eq_true (by omega)
        have q3b : (Z : Int) ≤ (i : Int) := by omega
        have q4 : decide ((S : Int) ≤ (zm : Int)) = true := decide_eq_true (by omega)
        have q4b : (S : Int) ≤ (zm : Int) := by omega
        have q5 : decide ((Z : Int) ≤ 1) = r := by rw [← HL1.out, decide_eq_decide]; omega
        have q6 : (r == r) = true := by simp
        have ht := time_mono (k := d) H1.out hLG (by omega)
        obtain ⟨ta, hta⟩ : ∃ x, timeI d (Z : Int) = x := ⟨_, rfl⟩
        obtain ⟨tb, htb⟩ : ∃ x, timeI d (i : Int) = x := ⟨_, rfl⟩
        rw [hta, htb] at ht
        have q7 : decide (ta ≤ tb) = true := decide_eq_true ht
        have HTA := Lib.hid hta
        have HTB := Lib.hid htb
        clear hta htb hzm
        have hd := (Below.refl wr.heap.size wr).drew
        obtain ⟨y2, hy2⟩ : ∃ X, X = wr.drew := ⟨_, rfl⟩
        rw [← hy2] at hd
        have HY2 := Lib.hid hy2
        have b2 := Lib.hid (BR.out.trans (hd.mono BR.out.size))
        have K2 := Lib.hid (K.out.below b2.out)
        clear hd hy2
        have e10 : wr.cell? ⟨w1.heap.size, 0, none⟩ = some (.int .i64 d.length) := (K.out.below BR.out).cell 0
        have C0 := Lib.hid (show y2.cell? ⟨w1.heap.size, 0, none⟩ = some (.int .i64 d.length) from K2.out.cell 0)
        have e11 : wr.cell? ⟨w1.heap.size, 1, none⟩ = some (.int .i64 d.lanes) := (K.out.below BR.out).cell 1
        have C1 := Lib.hid (show y2.cell? ⟨w1.heap.size, 1, none⟩ = some (.int .i64 d.lanes) from K2.out.cell 1)
        have e12 : wr.cell? ⟨w1.heap.size, 2, none⟩ = some (.int .i64 d.minutes) := (K.out.below BR.out).cell 2
        have C2 := Lib.hid (show y2.cell? ⟨w1.heap.size, 2, none⟩ = some (.int .i64 d.minutes) from K2.out.cell 2)
        go_upto_region 21 with fail
        refine wp_region_held_drew (S := (fun w' => w'.cell? ⟨w1.heap.size, 0, none⟩ = some (.int .i64 d.length) ∧ w'.cell? ⟨w1.heap.size, 1, none⟩ = some (.int .i64 d.lanes) ∧ w'.cell? ⟨w1.heap.size, 2, none⟩ = some (.int .i64 d.minutes))) (by kernel_rfl) ?_ (fun hHeld => ?_)
        · (try dsimp only); go_keep
        rw [← HY2.out] at hHeld ⊢
        clear e10 e11 e12
        refine wpAnyH_take (i := 0) (v := ?_) (by simp only [List.getElem?_toArray, List.getElem?_cons_zero]; rfl) (by kernel_rfl) (by kernel_rfl) (by kernel_rfl) (by exact fun _ _ _ h => h) (Or.inl ⟨by rfl, ?_⟩) (by assumption) ?_; rotate_left; focus (intro w hSw; (try dsimp only at hSw); first | (go_simp; done) | (go_simp; with_reducible rfl))
        (try simp only [Act.put]); (try simp only [List.setIfInBounds_toArray]); (try simp only [List.set_cons_succ]); (try simp only [List.set_cons_zero])
        refine wpAnyH_take (i := 1) (v := ?_) (by simp only [List.getElem?_toArray, List.getElem?_cons_succ, List.getElem?_cons_zero]; rfl) (by kernel_rfl) (by kernel_rfl) (by kernel_rfl) (by exact fun _ _ _ h => h) (Or.inl ⟨by rfl, ?_⟩) (by assumption) ?_; rotate_left; focus (intro w hSw; (try dsimp only at hSw); first | (go_simp; done) | (go_simp; with_reducible rfl))
        (try simp only [Act.put]); (try simp only [List.setIfInBounds_toArray]); (try simp only [List.set_cons_succ]); (try simp only [List.set_cons_zero])
        refine wpAnyH_take (i := 2) (v := ?_) (by simp only [List.getElem?_toArray, List.getElem?_cons_succ, List.getElem?_cons_zero]; rfl) (by kernel_rfl) (by kernel_rfl) (by kernel_rfl) (by exact fun _ _ _ h => h) (Or.inl ⟨by rfl, ?_⟩) (by assumption) ?_; rotate_left; focus (intro w hSw; (try dsimp only at hSw); first | (go_simp; done) | (go_simp; with_reducible rfl))
        (try simp only [Act.put]); (try simp only [List.setIfInBounds_toArray]); (try simp only [List.set_cons_succ]); (try simp only [List.set_cons_zero])
        refine wpAnyH_take (i := 3) (v := ?_) (by simp only [List.getElem?_toArray, List.getElem?_cons_succ, List.getElem?_cons_zero]; rfl) (by kernel_rfl) (by kernel_rfl) (by kernel_rfl) (by exact fun _ _ _ h => h) (Or.inl ⟨by rfl, ?_⟩) (by assumption) ?_; rotate_left; focus (intro w hSw; (try dsimp only at hSw); first | (go_simp; done) | (go_simp; with_reducible rfl))
        (try simp only [Act.put]); (try simp only [List.setIfInBounds_toArray]); (try simp only [List.set_cons_succ]); (try simp only [List.set_cons_zero])
        refine wpAnyH_take (i := 4) (v := ?_) (by simp only [List.getElem?_toArray, List.getElem?_cons_succ, List.getElem?_cons_zero]; rfl) (by kernel_rfl) (by kernel_rfl) (by kernel_rfl) (by exact fun _ _ _ h => h) (Or.inl ⟨by rfl, ?_⟩) (by assumption) ?_; rotate_left; focus (intro w hSw; (try dsimp only at hSw); first | (go_simp; done) | (go_simp; with_reducible rfl))
        (try simp only [Act.put]); (try simp only [List.setIfInBounds_toArray]); (try simp only [List.set_cons_succ]); (try simp only [List.set_cons_zero])
        refine wpAnyH_take (i := 5) (v := ?_) (by simp only [List.getElem?_toArray, List.getElem?_cons_succ, List.getElem?_cons_zero]; rfl) (by kernel_rfl) (by kernel_rfl) (by kernel_rfl) (by exact fun _ _ _ h => h) (Or.inl ⟨by rfl, ?_⟩) (by assumption) ?_; rotate_left; focus (intro w hSw; (try dsimp only at hSw); first | (go_simp; done) | (go_simp; with_reducible rfl))
        (try simp only [Act.put]); (try simp only [List.setIfInBounds_toArray]); (try simp only [List.set_cons_succ]); (try simp only [List.set_cons_zero])
        refine wpAnyH_take (i := 6) (v := ?_) (by simp only [List.getElem?_toArray, List.getElem?_cons_succ, List.getElem?_cons_zero]; rfl) (by kernel_rfl) (by kernel_rfl) (by kernel_rfl) (by exact fun _ _ _ h => h) (Or.inl ⟨by rfl, ?_⟩) (by assumption) ?_; rotate_left; focus (intro w hSw; (try dsimp only at hSw); first | (go_simp; done) | (go_simp; with_reducible rfl))
        (try simp only [Act.put]); (try simp only [List.setIfInBounds_toArray]); (try simp only [List.set_cons_succ]); (try simp only [List.set_cons_zero])
        refine wpAnyH_take (i := 7) (v := ?_) (by simp only [List.getElem?_toArray, List.getElem?_cons_succ, List.getElem?_cons_zero]; rfl) (by kernel_rfl) (by kernel_rfl) (by kernel_rfl) (by exact fun _ _ _ h => h) (Or.inl ⟨by rfl, ?_⟩) (by assumption) ?_; rotate_left; focus (intro w hSw; (try dsimp only at hSw); first | (go_simp; done) | (go_simp; with_reducible rfl))
        (try simp only [Act.put]); (try simp only [List.setIfInBounds_toArray]); (try simp only [List.set_cons_succ]); (try simp only [List.set_cons_zero])
        refine wpAnyH_take (i := 8) (v := ?_) (by simp only [List.getElem?_toArray, List.getElem?_cons_succ, List.getElem?_cons_zero]; rfl) (by kernel_rfl) (by kernel_rfl) (by kernel_rfl) (by exact fun _ _ _ h => h) (Or.inl ⟨by rfl, ?_⟩) (by assumption) ?_; rotate_left; focus (intro w hSw; (try dsimp only at hSw); first | (go_simp; done) | (go_simp; with_reducible rfl))
        (try simp only [Act.put]); (try simp only [List.setIfInBounds_toArray]); (try simp only [List.set_cons_succ]); (try simp only [List.set_cons_zero])
        refine wpAnyH_take (i := 9) (v := ?_) (by simp only [List.getElem?_toArray, List.getElem?_cons_succ, List.getElem?_cons_zero]; rfl) (by kernel_rfl) (by kernel_rfl) (by kernel_rfl) (by exact fun _ _ _ h => h) (Or.inl ⟨by rfl, ?_⟩) (by assumption) ?_; rotate_left; focus (intro w hSw; (try dsimp only at hSw); first | (go_simp; done) | (go_simp; with_reducible rfl))
        (try simp only [Act.put]); (try simp only [List.setIfInBounds_toArray]); (try simp only [List.set_cons_succ]); (try simp only [List.set_cons_zero])
        refine wpAnyH_take (i := 10) (v := ?_) (by simp only [List.getElem?_toArray, List.getElem?_cons_succ, List.getElem?_cons_zero]; rfl) (by kernel_rfl) (by kernel_rfl) (by kernel_rfl) (by exact fun _ _ _ h => h) (Or.inl ⟨by rfl, ?_⟩) (by assumption) ?_; rotate_left; focus (intro w hSw; (try dsimp only at hSw); first | (go_simp; done) | (go_simp; with_reducible rfl))
        (try simp only [Act.put]); (try simp only [List.setIfInBounds_toArray]); (try simp only [List.set_cons_succ]); (try simp only [List.set_cons_zero])
        refine wpAnyH_take (i := 11) (v := ?_) (by simp only [List.getElem?_toArray, List.getElem?_cons_succ, List.getElem?_cons_zero]; rfl) (by kernel_rfl) (by kernel_rfl) (by kernel_rfl) (by exact fun _ _ _ h => h) (Or.inl ⟨by rfl, ?_⟩) (by assumption) ?_; rotate_left; focus (intro w hSw; (try dsimp only at hSw); first | (go_simp; done) | (go_simp; with_reducible rfl))
        (try simp only [Act.put]); (try simp only [List.setIfInBounds_toArray]); (try simp only [List.set_cons_succ]); (try simp only [List.set_cons_zero])
        refine wpAnyH_take (i := 12) (v := ?_) (by simp only [List.getElem?_toArray, List.getElem?_cons_succ, List.getElem?_cons_zero]; rfl) (by kernel_rfl) (by kernel_rfl) (by kernel_rfl) (by exact fun _ _ _ h => h) (Or.inl ⟨by rfl, ?_⟩) (by assumption) ?_; rotate_left; focus (intro w hSw; (try dsimp only at hSw); first | (go_simp; done) | (go_simp; with_reducible rfl))
        (try simp only [Act.put]); (try simp only [List.setIfInBounds_toArray]); (try simp only [List.set_cons_succ]); (try simp only [List.set_cons_zero])
        refine wpAnyH_take (i := 13) (v := ?_) (by simp only [List.getElem?_toArray, List.getElem?_cons_succ, List.getElem?_cons_zero]; rfl) (by kernel_rfl) (by kernel_rfl) (by kernel_rfl) (by exact fun _ _ _ h => h) (Or.inl ⟨by rfl, ?_⟩) (by assumption) ?_; rotate_left; focus (intro w hSw; (try dsimp only at hSw); first | (go_simp; done) | (go_simp; with_reducible rfl))
        (try simp only [Act.put]); (try simp only [List.setIfInBounds_toArray]); (try simp only [List.set_cons_succ]); (try simp only [List.set_cons_zero])
        refine wpAnyH_take (i := 14) (v := ?_) (by simp only [List.getElem?_toArray, List.getElem?_cons_succ, List.getElem?_cons_zero]; rfl) (by kernel_rfl) (by kernel_rfl) (by kernel_rfl) (by exact fun _ _ _ h => h) (Or.inl ⟨by rfl, ?_⟩) (by assumption) ?_; rotate_left; focus (intro w hSw; (try dsimp only at hSw); first | (go_simp; done) | (go_simp; with_reducible rfl))
        (try simp only [Act.put]); (try simp only [List.setIfInBounds_toArray]); (try simp only [List.set_cons_succ]); (try simp only [List.set_cons_zero])
        refine wpAnyH_take (i := 15) (v := ?_) (by simp only [List.getElem?_toArray, List.getElem?_cons_succ, List.getElem?_cons_zero]; rfl) (by kernel_rfl) (by kernel_rfl) (by kernel_rfl) (by exact fun _ _ _ h => h) (Or.inl ⟨by rfl, ?_⟩) (by assumption) ?_; rotate_left; focus (intro w hSw; (try dsimp only at hSw); first | (go_simp; done) | (go_simp; with_reducible rfl))
        (try simp only [Act.put]); (try simp only [List.setIfInBounds_toArray]); (try simp only [List.set_cons_succ]); (try simp only [List.set_cons_zero])
        refine wpAnyH_take (i := 16) (v := ?_) (by simp only [List.getElem?_toArray, List.getElem?_cons_succ, List.getElem?_cons_zero]; rfl) (by kernel_rfl) (by kernel_rfl) (by kernel_rfl) (by exact fun _ _ _ h => h) (Or.inl ⟨by rfl, ?_⟩) (by assumption) ?_; rotate_left; focus (intro w hSw; (try dsimp only at hSw); first | (go_simp; done) | (go_simp; with_reducible rfl))
        (try simp only [Act.put]); (try simp only [List.setIfInBounds_toArray]); (try simp only [List.set_cons_succ]); (try simp only [List.set_cons_zero])
        refine wpAnyH_take (i := 17) (v := ?_) (by simp only [List.getElem?_toArray, List.getElem?_cons_succ, List.getElem?_cons_zero]; rfl) (by kernel_rfl) (by kernel_rfl) (by kernel_rfl) (by exact fun _ _ _ h => h) (Or.inl ⟨by rfl, ?_⟩) (by assumption) ?_; rotate_left; focus (intro w hSw; (try dsimp only at hSw); first | (go_simp; done) | (go_simp; with_reducible rfl))
        (try simp only [Act.put]); (try simp only [List.setIfInBounds_toArray]); (try simp only [List.set_cons_succ]); (try simp only [List.set_cons_zero])
        refine wpAnyH_take (i := 18) (v := ?_) (by simp only [List.getElem?_toArray, List.getElem?_cons_succ, List.getElem?_cons_zero]; rfl) (by kernel_rfl) (by kernel_rfl) (by kernel_rfl) (by exact fun _ _ _ h => h) (Or.inl ⟨by rfl, ?_⟩) (by assumption) ?_; rotate_left; focus (intro w hSw; (try dsimp only at hSw); first | (go_simp; done) | (go_simp; with_reducible rfl))
        (try simp only [Act.put]); (try simp only [List.setIfInBounds_toArray]); (try simp only [List.set_cons_succ]); (try simp only [List.set_cons_zero])
        refine wpAnyH_take (i := 19) (v := ?_) (by simp only [List.getElem?_toArray, List.getElem?_cons_succ, List.getElem?_cons_zero]; rfl) (by kernel_rfl) (by kernel_rfl) (by kernel_rfl) (by exact fun _ _ _ h => h) (Or.inl ⟨by rfl, ?_⟩) (by assumption) ?_; rotate_left; focus (intro w hSw; (try dsimp only at hSw); first | (go_simp; done) | (go_simp; with_reducible rfl))
        (try simp only [Act.put]); (try simp only [List.setIfInBounds_toArray]); (try simp only [List.set_cons_succ]); (try simp only [List.set_cons_zero])
        refine wpAnyH_take (i := 20) (v := ?_) (by simp only [List.getElem?_toArray, List.getElem?_cons_succ, List.getElem?_cons_zero]; rfl) (by kernel_rfl) (by kernel_rfl) (by kernel_rfl) (by exact fun _ _ _ h => h) (Or.inl ⟨by rfl, ?_⟩) (by assumption) ?_; rotate_left; focus (intro w hSw; (try dsimp only at hSw); first | (go_simp; done) | (go_simp; with_reducible rfl))
        (try simp only [Act.put]); (try simp only [List.setIfInBounds_toArray]); (try simp only [List.set_cons_succ]); (try simp only [List.set_cons_zero])
        refine wpAnyH_take (i := 21) (v := ?_) (by simp only [List.getElem?_toArray, List.getElem?_cons_succ, List.getElem?_cons_zero]; rfl) (by kernel_rfl) (by kernel_rfl) (by kernel_rfl) (by exact fun _ _ _ h => h) (Or.inl ⟨by rfl, ?_⟩) (by assumption) ?_; rotate_left; focus (intro w hSw; (try dsimp only at hSw); first | (go_simp; done) | (go_simp; with_reducible rfl))
        (try simp only [Act.put]); (try simp only [List.setIfInBounds_toArray]); (try simp only [List.set_cons_succ]); (try simp only [List.set_cons_zero])
        refine wpAnyH_take (i := 22) (v := ?_) (by simp only [List.getElem?_toArray, List.getElem?_cons_succ, List.getElem?_cons_zero]; rfl) (by kernel_rfl) (by kernel_rfl) (by kernel_rfl) (by exact fun _ _ _ h => h) (Or.inl ⟨by rfl, ?_⟩) (by assumption) ?_; rotate_left; focus (intro w hSw; (try dsimp only at hSw); first | (go_simp; done) | (go_simp; with_reducible rfl))
        (try simp only [Act.put]); (try simp only [List.setIfInBounds_toArray]); (try simp only [List.set_cons_succ]); (try simp only [List.set_cons_zero])
        refine wpAnyH_take (i := 23) (v := ?_) (by simp only [List.getElem?_toArray, List.getElem?_cons_succ, List.getElem?_cons_zero]; rfl) (by kernel_rfl) (by kernel_rfl) (by kernel_rfl) (by exact fun _ _ _ h => h) (Or.inl ⟨by rfl, ?_⟩) (by assumption) ?_; rotate_left; focus (intro w hSw; (try dsimp only at hSw); first | (go_simp; done) | (go_simp; with_reducible rfl))
        (try simp only [Act.put]); (try simp only [List.setIfInBounds_toArray]); (try simp only [List.set_cons_succ]); (try simp only [List.set_cons_zero])
        refine wpAnyH_take (i := 24) (v := ?_) (by simp only [List.getElem?_toArray, List.getElem?_cons_succ, List.getElem?_cons_zero]; rfl) (by kernel_rfl) (by kernel_rfl) (by kernel_rfl) (by exact fun _ _ _ h => h) (Or.inl ⟨by rfl, ?_⟩) (by assumption) ?_; rotate_left; focus (intro w hSw; (try dsimp only at hSw); first | (go_simp; done) | (go_simp; with_reducible rfl))
        (try simp only [Act.put]); (try simp only [List.setIfInBounds_toArray]); (try simp only [List.set_cons_succ]); (try simp only [List.set_cons_zero])
        refine wpAnyH_take (i := 25) (v := ?_) (by simp only [List.getElem?_toArray, List.getElem?_cons_succ, List.getElem?_cons_zero]; rfl) (by kernel_rfl) (by kernel_rfl) (by kernel_rfl) (by exact fun _ _ _ h => h) (Or.inl ⟨by rfl, ?_⟩) (by assumption) ?_; rotate_left; focus (intro w hSw; (try dsimp only at hSw); first | (go_simp; done) | (go_simp; with_reducible rfl))
        (try simp only [Act.put]); (try simp only [List.setIfInBounds_toArray]); (try simp only [List.set_cons_succ]); (try simp only [List.set_cons_zero])
        refine wpAnyH_take (i := 26) (v := ?_) (by simp only [List.getElem?_toArray, List.getElem?_cons_succ, List.getElem?_cons_zero]; rfl) (by kernel_rfl) (by kernel_rfl) (by kernel_rfl) (by exact fun _ _ _ h => h) (Or.inl ⟨by rfl, ?_⟩) (by assumption) ?_; rotate_left; focus (intro w hSw; (try dsimp only at hSw); first | (go_simp; done) | (go_simp; with_reducible rfl))
        (try simp only [Act.put]); (try simp only [List.setIfInBounds_toArray]); (try simp only [List.set_cons_succ]); (try simp only [List.set_cons_zero])
        refine wpAnyH_take (i := 27) (v := ?_) (by simp only [List.getElem?_toArray, List.getElem?_cons_succ, List.getElem?_cons_zero]; rfl) (by kernel_rfl) (by kernel_rfl) (by kernel_rfl) (by exact fun _ _ _ h => h) (Or.inl ⟨by rfl, ?_⟩) (by assumption) ?_; rotate_left; focus (intro w hSw; (try dsimp only at hSw); first | (go_simp; done) | (go_simp; with_reducible rfl))
        (try simp only [Act.put]); (try simp only [List.setIfInBounds_toArray]); (try simp only [List.set_cons_succ]); (try simp only [List.set_cons_zero])
        refine wpAnyH_take (i := 28) (v := ?_) (by simp only [List.getElem?_toArray, List.getElem?_cons_succ, List.getElem?_cons_zero]; rfl) (by kernel_rfl) (by kernel_rfl) (by kernel_rfl) (by exact fun _ _ _ h => h) (Or.inl ⟨by rfl, ?_⟩) (by assumption) ?_; rotate_left; focus (intro w hSw; (try dsimp only at hSw); first | (go_simp; done) | (go_simp; with_reducible rfl))
        (try simp only [Act.put]); (try simp only [List.setIfInBounds_toArray]); (try simp only [List.set_cons_succ]); (try simp only [List.set_cons_zero])
        refine wpAnyH_take (i := 29) (v := ?_) (by simp only [List.getElem?_toArray, List.getElem?_cons_succ, List.getElem?_cons_zero]; rfl) (by kernel_rfl) (by kernel_rfl) (by kernel_rfl) (by exact fun _ _ _ h => h) (Or.inl ⟨by rfl, ?_⟩) (by assumption) ?_; rotate_left; focus (intro w hSw; (try dsimp only at hSw); first | (go_simp; done) | (go_simp; with_reducible rfl))
        (try simp only [Act.put]); (try simp only [List.setIfInBounds_toArray]); (try simp only [List.set_cons_succ]); (try simp only [List.set_cons_zero])
        refine wpAnyH_take (i := 30) (v := ?_) (by simp only [List.getElem?_toArray, List.getElem?_cons_succ, List.getElem?_cons_zero]; rfl) (by kernel_rfl) (by kernel_rfl) (by kernel_rfl) (by exact fun _ _ _ h => h) (Or.inl ⟨by rfl, ?_⟩) (by assumption) ?_; rotate_left; focus (intro w hSw; (try dsimp only at hSw); first | (go_simp; done) | (go_simp; with_reducible rfl))
        (try simp only [Act.put]); (try simp only [List.setIfInBounds_toArray]); (try simp only [List.set_cons_succ]); (try simp only [List.set_cons_zero])
        refine wpAnyH_take (i := 31) (v := ?_) (by simp only [List.getElem?_toArray, List.getElem?_cons_succ, List.getElem?_cons_zero]; rfl) (by kernel_rfl) (by kernel_rfl) (by kernel_rfl) (by exact fun _ _ _ h => h) (Or.inl ⟨by rfl, ?_⟩) (by assumption) ?_; rotate_left; focus (intro w hSw; (try dsimp only at hSw); first | (go_simp; done) | (go_simp; with_reducible rfl))
        (try simp only [Act.put]); (try simp only [List.setIfInBounds_toArray]); (try simp only [List.set_cons_succ]); (try simp only [List.set_cons_zero])
        refine wpAnyH_take (i := 33) (v := ?_) (by simp only [List.getElem?_toArray, List.getElem?_cons_succ, List.getElem?_cons_zero]; rfl) (by kernel_rfl) (by kernel_rfl) (by kernel_rfl) (by exact fun _ _ _ h => h) (Or.inl ⟨by rfl, ?_⟩) (by assumption) ?_; rotate_left; focus (intro w hSw; (try dsimp only at hSw); first | (go_simp; done) | (go_simp; with_reducible rfl))
        (try simp only [Act.put]); (try simp only [List.setIfInBounds_toArray]); (try simp only [List.set_cons_succ]); (try simp only [List.set_cons_zero])
        refine wpAnyH_take (i := 34) (v := ?_) (by simp only [List.getElem?_toArray, List.getElem?_cons_succ, List.getElem?_cons_zero]; rfl) (by kernel_rfl) (by kernel_rfl) (by kernel_rfl) (by exact fun _ _ _ h => h) (Or.inl ⟨by rfl, ?_⟩) (by assumption) ?_; rotate_left; focus (intro w hSw; (try dsimp only at hSw); first | (go_simp; done) | (go_simp; with_reducible rfl))
        (try simp only [Act.put]); (try simp only [List.setIfInBounds_toArray]); (try simp only [List.set_cons_succ]); (try simp only [List.set_cons_zero])
        refine wpAnyH_ready (rs := [32]) (by kernel_rfl) (by simp) ?_
        refine AllReadyH.cons rfl (fun K hK => ?_) AllReadyH.nil
        rw [if_pos (by rfl)]
        go_simp
        go_at_call 20
        refine (implLockingTime d (i : Int) _).mono ?_
        rw [HTB.out]
        rintro e y3 ⟨rfl, hb3⟩
        have HB3 := Lib.hid hb3
        clear hb3
        go_simp
        refine hK.out _ _ ⟨cell_onV C0.out HB3.out, cell_onV C1.out HB3.out, cell_onV C2.out HB3.out⟩ (fun hHeld => ?_)
        (try simp only [Act.put]); (try simp only [List.setIfInBounds_toArray]); (try simp only [List.set_cons_succ]); (try simp only [List.set_cons_zero])
        refine wpAnyH_ready (rs := [35]) (by kernel_rfl) (by simp) ?_
        refine AllReadyH.cons rfl (fun K hK => ?_) AllReadyH.nil
        rw [if_pos (by rfl)]
        go_simp
        go_at_call 20
        refine (implLockingTime d (Z : Int) _).mono ?_
        rw [HTA.out]
        rintro e y4 ⟨rfl, hb4⟩
        have HB4 := Lib.hid (HB3.out.trans (hb4.mono HB3.out.size))
        clear hb4
        go_simp
        refine hK.out _ _ ⟨cell_onV C0.out HB4.out, cell_onV C1.out HB4.out, cell_onV C2.out HB4.out⟩ (fun hHeld => ?_)
        (try simp only [Act.put]); (try simp only [List.setIfInBounds_toArray]); (try simp only [List.set_cons_succ]); (try simp only [List.set_cons_zero])
        refine wpAnyH_take (i := 36) (v := ?_) (by simp only [List.getElem?_toArray, List.getElem?_cons_succ, List.getElem?_cons_zero]; rfl) (by kernel_rfl) (by kernel_rfl) (by kernel_rfl) (by exact fun _ _ _ h => h) (Or.inl ⟨by rfl, ?_⟩) (by assumption) ?_; rotate_left; focus (intro w hSw; (try dsimp only at hSw); first | (go_simp; done) | (go_simp; with_reducible rfl))
        (try simp only [Act.put]); (try simp only [List.setIfInBounds_toArray]); (try simp only [List.set_cons_succ]); (try simp only [List.set_cons_zero])
        refine wpAnyH_take (i := 37) (v := ?_) (by simp only [List.getElem?_toArray, List.getElem?_cons_succ, List.getElem?_cons_zero]; rfl) (by kernel_rfl) (by kernel_rfl) (by kernel_rfl) (by exact fun _ _ _ h => h) (Or.inl ⟨by rfl, ?_⟩) (by assumption) ?_; rotate_left; focus (intro w hSw; (try dsimp only at hSw); first | (go_simp; done) | (go_simp; with_reducible rfl))
        (try simp only [Act.put]); (try simp only [List.setIfInBounds_toArray]); (try simp only [List.set_cons_succ]); (try simp only [List.set_cons_zero])
        refine wpAnyH_take (i := 38) (v := ?_) (by simp only [List.getElem?_toArray, List.getElem?_cons_succ, List.getElem?_cons_zero]; rfl) (by kernel_rfl) (by kernel_rfl) (by kernel_rfl) (by exact fun _ _ _ h => h) (Or.inl ⟨by rfl, ?_⟩) (by assumption) ?_; rotate_left; focus (intro w hSw; (try dsimp only at hSw); first | (go_simp; done) | (go_simp; with_reducible rfl))
        (try simp only [Act.put]); (try simp only [List.setIfInBounds_toArray]); (try simp only [List.set_cons_succ]); (try simp only [List.set_cons_zero])
        refine wpAnyH_done (by kernel_rfl) ?_ _
        go_wp2
        go_ret
        exact ⟨rfl, B2.out.trans ((b2.out.trans (HB4.out.mono b2.out.size)).mono B2.out.size)⟩

set_option maxRecDepth 100000 in
theorem lifted (os : Os) (started : os.Started) (H : Type) (enc : TypeId × Value → H) :
    ReturnsInHanded {} Try.checked os 3 .any (Rows.fnPackedSpec.pre6 enc Try.prog Try.f3 Rows.fnPackedRow.domain false) (Rows.fnPackedSpec.post enc Try.prog Try.f3 false true false false) := by
  refine returnsInHanded_of_change (C := Try.checked) own started (by kernel_rfl) Try.func3
    (ChangeSpec.witness6 (enc := enc) (C := Try.checked) false ⟨#[], #[.slice none 0 0], []⟩ 8 (by kernel_rfl) (by kernel_rfl) (by kernel_rfl) (by kernel_rfl)) ?_
  intro W base args ds gs before hval0 hW _ _
  have hval : ∀ (j : Nat) t v, Try.f3.params[j]? = some t → args[j]? = some v → Value.okWide Try.prog W .any base t v := hval0
  have hW' := hW
  obtain ⟨p, q, hA0, hV, rfl, _, _⟩ := hW
  have hA : DataW.TrodAll enc Try.prog W 0 (fun _ => true) true Try.f3.params.toList args.toList ds p := hA0
  rw [Try.params3] at hA hval
  obtain ⟨v0, vs0, d0, ds0, p0, q0, hargs, rfl, rfl, h0, r0⟩ := trodAll_cons hA
  obtain ⟨rfl, rfl, rfl⟩ := trodAll_nil r0
  obtain rfl : args = #[v0] := by cases args; simp_all
  obtain ⟨A0, n0, c0, rfl, g0⟩ := open_code_arg (hval 0 22 v0 rfl rfl) h0
  refine (law A0 n0 c0 W g0).mono fun e W' ⟨he, hb⟩ => ⟨_, he, ?_⟩
  exact law_post laidOut (by kernel_rfl) rfl (by kernel_rfl) Try.underlying4 rfl rfl rfl hW' hb

theorem holds : Rows.FnPackedSaid :=
  OpenClaim.holds_of_wide 3 Try.f3 rfl rfl rfl rfl rfl rfl rfl ⟨rfl, rfl, rfl, rfl, rfl⟩ rfl rfl rfl rfl rfl (by kernel_rfl) Try.func3 (by kernel_rfl)
    (of_decide_eq_true (by kernel_rfl)) (by unfold Func.isWrapper; first | (rw [if_pos (by decide +kernel)]; kernel_rfl) | (rw [if_neg (by decide +kernel)]; exact ⟨rfl, rfl⟩))
    (fun os started H enc _ => lifted os started H enc)

end Go.Proofs.Ytphagahhhfiiaaa.lawPacked

