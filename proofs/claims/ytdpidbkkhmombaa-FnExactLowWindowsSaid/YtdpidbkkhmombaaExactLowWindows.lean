
/- The exact law of LowWindows holds for every forecast and every integer: impl.LowWindows answers as its model, the forecast reads as before, and the answer is new memory. No condition. -/
import Derived.Test.YtdpidbkkhmombaaRows
import Derived.Test.YtdpidbkkhmombaaFcArg
import Derived.Test.YtdpidbkkhmombaaWinArg
import Derived.Test.YtdpidbkkhmombaaFcHas
import Derived.Test.YtdpidbkkhmombaaWinWet
import Derived.Deep.DeepCutAuto
namespace Go.Proofs.Ytdpidbkkhmombaa.exactLowWindows
open Go.ChangeShapes Go.WideShapes Go.ChangeAt Go.RowKit
set_option maxRecDepth 100000

theorem own : ownKnob Try.prog.godebug = none := by kernel_rfl
theorem laidOut : laidOutB Try.prog = true := by kernel_rfl

set_option maxHeartbeats 8000000 in
theorem law (m : Int) (A : Option Addr) (c : Nat) (l : List PartD) (A' : Option Addr) (c' : Nat) (s : List SurgeD) (t0 : Int) (w : World) (hin : FcIn w m A c l A' c' s) (_ : (Lit.int .i64 t0).wf = true) :
    Calls Try.prog 14 #[.agg #[.int .i64 m, .slice A l.length c, .slice A' s.length c'], .int .i64 t0] w fun e w' => e = .returned (.bool true) ∧ Below w.heap.size w w' := by
  obtain ⟨_, hmax, hmax', hsl, hsl', _, _⟩ := hin
  have HSL := Lib.hid hsl
  have HSL' := Lib.hid hsl'
  clear hsl hsl'
  unfold maxLen at hmax hmax'
  have C := fun W => Lib.hid (szForecast_any m A A' l.length s.length c c' W (by omega) (by omega))
  by_cases hbig : (1048576 : Int) < (l.length : Int) ∨ 1048576 - (l.length : Int) < (s.length : Int)
  · have e : leftI l.length s.length = -1 := by
      unfold leftI
      rcases hbig with h | h
      · rw [if_pos h]
      · split
        · rfl
        · rfl
    rw [e] at C
    clear e hbig
    go_enter Try.func14, Try.ntmps14
    go_wp2_with fail
    refine (C _).out.mono ?_
    rintro e w1 ⟨rfl, hb1⟩
    go_wp2
    go_ret
    exact ⟨rfl, (Joins.below_alloc1 w _).trans (hb1.mono (by simp))⟩
  · have e : leftI l.length s.length = 1048576 - (l.length : Int) - (s.length : Int) := by
      unfold leftI
      rw [if_neg (by omega), if_neg (by omega)]
    rw [e] at C
    have z1 : (l.length : Int) ≤ 1048576 := by omega
    have z2 : (s.length : Int) ≤ 1048576 - (l.length : Int) := by omega
    have S0 := Lib.hid (HSL.out (by omega))
    have S0' := Lib.hid (HSL'.out (by omega))
    have zl : l.length ≤ 1048576 := by omega
    have zs : s.length ≤ 1048576 := by omega
    clear e hbig
    obtain ⟨R, hR⟩ : ∃ R, R = wetL false m l s t0 := ⟨_, rfl⟩
    have hlen : R.length ≤ 3000000 := by rw [hR]; exact (by have := wetL_len false m l s t0; omega)
    have cspec := fun (v u : Value) (W : World) (h : SlP W v l) (h' : SlSurge W u s) => specLowWindows m v u l s t0 W h h'
    have cimpl := fun (v u : Value) (W : World) (h : SlP W v l) (h' : SlSurge W u s) => implLowWindows m v u l s t0 W h h'
    rw [← hR] at cspec cimpl
    have CS := Lib.hid cspec
    have CI := Lib.hid cimpl
    clear cspec cimpl hR
    have T0 := Lib.hid (FBox.new 59 (m := m) S0.out S0'.out)
    have B0 := Lib.hid (Joins.below_alloc1 w (.cells #[.int .i64 m, .slice A l.length c, .slice A' s.length c'] 59))
    clear HSL HSL'
    go_enter Try.func14, Try.ntmps14
    go_wp2_with fail
    refine (C _).out.mono ?_
    rintro e w1 ⟨rfl, hb1⟩
    have T1 := Lib.hid (T0.out.below hb1)
    have B1 := Lib.hid (B0.out.trans (hb1.mono (by simp)))
    have V1 := Lib.hid ((Blk.new w #[.int .i64 m, .slice A l.length c, .slice A' s.length c'] 59).below hb1)
    obtain ⟨c0, c1, c2, _⟩ := T1.out
    clear hb1 C
    go_wp2_with fail
    refine (toForecast_any m _ _ l s w1 T1.out.2.2.2.1 T1.out.2.2.2.2).mono ?_
    intro e w2 hN
    obtain ⟨A2, k2, D2, j2, rfl, h2, hb2⟩ := NewFc.fhas hN
    have S2 := Lib.hid (h2.slp (by omega))
    have S2' := Lib.hid (h2.sls (by omega))
    have T2 := Lib.hid (T1.out.below hb2)
    have V2 := Lib.hid (V1.out.below hb2)
    have B2 := Lib.hid (B1.out.trans (hb2.mono B1.out.size))
    clear hN h2 hb2 c0 c1 c2 T1 V1 B1
    go_wp2_with fail
    refine (CS.out _ _ _ S2.out S2'.out).mono ?_
    intro e w3 hnew
    obtain ⟨X3, d3, rfl, ko3, hb3⟩ := new_kept hnew (by omega)
    have KS3 := Lib.hid ko3
    have T3 := Lib.hid (T2.out.below hb3)
    have V3 := Lib.hid (V2.out.below hb3)
    have B3 := Lib.hid (B2.out.trans (hb3.mono B2.out.size))
    have y0 : w.heap.size < w3.heap.size := V3.out.lt
    clear hnew ko3 hb3 S2 S2' T2 V2 B2
    obtain ⟨c0, c1, c2, _⟩ := T3.out
    go_wp2_with fail
    refine (toForecast_any m _ _ l s _ T3.out.2.2.2.1 T3.out.2.2.2.2).mono ?_
    intro e w4 hN
    obtain ⟨A5, k5, D5, j5, rfl, h5, hb5⟩ := NewFc.fhas hN
    have a5 := Joins.below_alloc1 w4 (.cells #[.int .i64 m, .slice A5 l.length k5, .slice D5 s.length j5] 42)
    have hb6 := hb5.trans (a5.mono hb5.size)
    have T6 := Lib.hid (T3.out.below hb6)
    have V6 := Lib.hid (V3.out.below hb6)
    have B6 := Lib.hid (B3.out.trans (hb6.mono B3.out.size))
    have KS6 := Lib.hid (KS3.out.below hb6)
    have X6 := Lib.hid (h5.below a5)
    have Q6 := Lib.hid (Blk.new w4 #[.int .i64 m, .slice A5 l.length k5, .slice D5 s.length j5] 42)
    have FX6 := Lib.hid (FBox.new 42 (m := m) (h5.slp (by omega)) (h5.sls (by omega)))
    have y1 : w3.heap.size ≤ w4.heap.size := hb5.size
    clear hN hb5 h5 a5 hb6 c0 c1 c2 T3 V3 B3 KS3
    obtain ⟨c0, c1, c2, _⟩ := FX6.out
    go_wp2_with fail
    refine (CI.out _ _ _ FX6.out.2.2.2.1 FX6.out.2.2.2.2).mono ?_
    intro e w7 hnew
    obtain ⟨X7, d7, rfl, ko7, hb7⟩ := new_kept hnew (by omega)
    have KG7 := Lib.hid ko7
    have y2 : w4.heap.size + 1 ≤ w7.heap.size := by have := hb7.size; simpa using this
    have T7 := Lib.hid (T6.out.below hb7)
    have V7 := Lib.hid (V6.out.below hb7)
    have B7 := Lib.hid (B6.out.trans (hb7.mono B6.out.size))
    have KS7 := Lib.hid (KS6.out.below hb7)
    have X7' := Lib.hid (X6.out.below hb7)
    have Q7 := Lib.hid (Q6.out.below hb7)
    have FX7 := Lib.hid (FX6.out.below hb7)
    clear hnew ko7 hb7 c0 c1 c2 T6 V6 B6 KS6 X6 Q6 FX6
    go_wp2_with fail
    refine (eqWindowS_same _ _ _ _ KG7.out.1 KS7.out.1).mono ?_
    rintro e w9 ⟨rfl, hb9⟩
    have T9 := Lib.hid (T7.out.below hb9)
    have V9 := Lib.hid (V7.out.below hb9)
    have B9 := Lib.hid (B7.out.trans (hb9.mono B7.out.size))
    have KS9 := Lib.hid (KS7.out.below hb9)
    have KG9 := Lib.hid (KG7.out.below hb9)
    have X9 := Lib.hid (X7'.out.below hb9)
    have Q9 := Lib.hid (Q7.out.below hb9)
    have FX9 := Lib.hid (FX7.out.below hb9)
    have y3 : w7.heap.size ≤ w9.heap.size := hb9.size
    clear hb9 T7 V7 B7 KS7 KG7 X7' Q7 FX7
    have hD := Lib.hid ((Below.refl w9.heap.size w9).drew)
    obtain ⟨p0, p1, p2, _⟩ := T9.out
    obtain ⟨x0, x1, x2, _⟩ := FX9.out
    go_upto_region 10 with fail
    go_cut [35] (fun s35 wx => s35 = .bool false ∧ Hid (Below w9.heap.size w9 wx))
    case first =>
      go_region_held3 (fun w' => w'.cell? ⟨w.heap.size, 0, none⟩ = some (.int .i64 m) ∧ w'.cell? ⟨w.heap.size, 1, none⟩ = some (.slice A l.length c) ∧ w'.cell? ⟨w.heap.size, 2, none⟩ = some (.slice A' s.length c') ∧ w'.cell? ⟨w4.heap.size, 0, none⟩ = some (.int .i64 m) ∧ w'.cell? ⟨w4.heap.size, 1, none⟩ = some (.slice A5 l.length k5) ∧ w'.cell? ⟨w4.heap.size, 2, none⟩ = some (.slice D5 s.length j5) ∧ Hid (Below w9.heap.size w9 w')) (go_keep)
        (first
          | (go_at_call 48; refine (toForecast_keep T9.out FX9.out _ ?_).mono ?_; (simp [*]); rintro e w10 ⟨A9, k9, D9, j9, rfl, s9, s9', v0, v1, v2, v3, v4, v5, v6⟩)
          | (go_at_call 49; refine (eqForecast_keep T9.out FX9.out _ _ _ ?_ ?_ ?_).mono ?_; (simp [*]); (simp [*]); (simp [*]); rintro e w10 ⟨rfl, v0, v1, v2, v3, v4, v5, v6⟩)
          | fail "no arm")
      all_goals
        go_wp2_with fail
        go_meet
        exact ⟨rfl, v6⟩
    case rest =>
      obtain ⟨rfl, hb10⟩ := hcut
      clear p0 p1 p2 x0 x1 x2 hD T9 FX9
      have V10 := Lib.hid (V9.out.below hb10.out)
      have B10 := Lib.hid (B9.out.trans (hb10.out.mono B9.out.size))
      have KS10 := Lib.hid (KS9.out.below hb10.out)
      have KG10 := Lib.hid (KG9.out.below hb10.out)
      have X10 := Lib.hid (X9.out.below hb10.out)
      have Q10 := Lib.hid (Q9.out.below hb10.out)
      have y4 := hb10.out.size
      clear hb10 V9 B9 KS9 KG9 X9 Q9
      have x0 := Q10.out.cell 0
      have x1 := Q10.out.cell 1
      have x2 := Q10.out.cell 2
      simp at x0 x1 x2
      have MV : ∀ g, Value.ownBlock (.slice A5 l.length k5) = some g → w3.heap.size ≤ g ∧ g < w4.heap.size := fun g hg => by have := X10.out.2.2.2.1 g hg; simpa using this
      have MU : ∀ g, Value.ownBlock (.slice D5 s.length j5) = some g → w3.heap.size ≤ g ∧ g < w4.heap.size := fun g hg => by have := X10.out.2.2.2.2.1 g hg; simpa using this
      have MT := X10.out.2.2.2.2.2
      go_wp2_with fail
      refine (markForecast_any m _ _ l s 1 _ (X10.out.slp (by omega)) (X10.out.sls (by omega)) X10.out.2.2.1 (free_own' X10.out.1) (free_own' X10.out.2.1) (fun g hg => Nat.lt_of_lt_of_le (MV g hg).2 MT) (fun g hg => Nat.lt_of_lt_of_le (MU g hg).2 MT) (by omega) (by omega) (by omega) (by omega)).mono ?_
      rintro e w12 ⟨rfl, hm1, hm2, w11, hg1, hg2⟩
      have B12 := Lib.hid ((B10.out.grown hg1 B10.out.size (fun g hg => by have := MV g hg; omega)).grown hg2 (Nat.le_trans B10.out.size hg1.size) (fun g hg => by have := MU g hg; omega))
      have V12 := Lib.hid ((V10.out.grown hg1 (fun e => by have := MV _ e.symm; omega)).grown hg2 (fun e => by have := MU _ e.symm; omega))
      have KS12 := Lib.hid ((KS10.out.grown hg1 (fun g hg => by have := MV g hg; omega)).grown hg2 (fun g hg => by have := MU g hg; omega))
      have KG12 := Lib.hid ((KG10.out.grown hg1 (fun g hg => by have := MV g hg; simp; omega)).grown hg2 (fun g hg => by have := MU g hg; simp; omega))
      have y5 := Nat.le_trans hg1.size hg2.size
      clear hm1 hm2 hg1 hg2 MV MU MT x0 x1 x2 B10 V10 KS10 KG10 X10 Q10
      have hk : ¬ (1 + (l.length : Int) * 3 + (s.length : Int) * 3 < 0) := by omega
      have hkd : decide (1 + (l.length : Int) * 3 + (s.length : Int) * 3 < 0) = false := decide_eq_false hk
      go_wp2_with fail
      refine (eqWindowS_same _ _ _ _ KG12.out.1 KS12.out.1).mono ?_
      rintro e w13 ⟨rfl, hb13⟩
      have B13 := Lib.hid (B12.out.trans (hb13.mono B12.out.size))
      have V13 := Lib.hid (V12.out.below hb13)
      have KS13 := Lib.hid (KS12.out.below hb13)
      have KG13 := Lib.hid (KG12.out.below hb13)
      clear hb13 B12 V12 KS12 KG12
      have hq : ¬ (1 + (R.length : Int) * 2 < 0) := by omega
      go_wp2_with fail
      refine (markWindowS_any _ R 1 _ KG13.out.1 KG13.out.free (by omega) (by omega) (by omega)).mono ?_
      rintro e w15 ⟨rfl, mk15, g15⟩
      have GL : ∀ g, (Value.slice X7 R.length d7).ownBlock = some g → w4.heap.size + 1 ≤ g := fun g hg => by have := KG13.out.lo g hg; simpa using this
      have B15 := Lib.hid (B13.out.grown g15 B13.out.size (fun g hg => by have := GL g hg; omega))
      have V15 := Lib.hid (V13.out.grown g15 (fun e => by have := GL _ e.symm; omega))
      have KS15 := Lib.hid (KS13.out.grown g15 (fun g hg => Or.inr (by have := GL g hg; omega)))
      have M15 := Lib.hid mk15
      clear mk15 g15 GL B13 V13 KS13 KG13
      go_wp2_with fail
      refine (heldWindowS_any _ R.length _ _ rfl 1 _ M15.out (by omega) (by omega) (by omega)).mono ?_
      rintro e w16 ⟨rfl, rfl⟩
      have v0 := V15.out.cell 0
      have v1 := V15.out.cell 1
      have v2 := V15.out.cell 2
      simp at v0 v1 v2
      go_wp2_with fail
      refine (toForecast_any m _ _ l s _ (S0.out.below B15.out) (S0'.out.below B15.out)).mono ?_
      intro e w17 hN
      obtain ⟨A17, k17, D17, j17, rfl, h17, hb17⟩ := NewFc.fhas hN
      have S17 := Lib.hid (h17.slp (by omega))
      have S17' := Lib.hid (h17.sls (by omega))
      have B17 := Lib.hid (B15.out.trans (hb17.mono B15.out.size))
      have KS17 := Lib.hid (KS15.out.below hb17)
      have M17 := Lib.hid (Marked.below M15.out hb17)
      clear hN h17 hb17 v0 v1 v2 B15 V15 KS15 M15
      go_wp2_with fail
      refine (CI.out _ _ _ S17.out S17'.out).mono ?_
      intro e w18 hnew
      obtain ⟨X18, d18, rfl, ko18, hb18⟩ := new_kept hnew (by omega)
      have KH18 := Lib.hid ko18
      have B18 := Lib.hid (B17.out.trans (hb18.mono B17.out.size))
      have KS18 := Lib.hid (KS17.out.below hb18)
      have M18 := Lib.hid (Marked.below M17.out hb18)
      clear hnew ko18 hb18 B17 KS17 M17 S17 S17'
      go_wp2_with fail
      refine (eqWindowS_same _ _ _ _ KH18.out.1 KS18.out.1).mono ?_
      rintro e w20 ⟨rfl, hb20⟩
      have B20 := Lib.hid (B18.out.trans (hb20.mono B18.out.size))
      have M20 := Lib.hid (Marked.below M18.out hb20)
      clear hb20 B18 KS18 M18 KH18
      go_wp2_with fail
      refine (heldWindowS_any _ R.length _ _ rfl 1 _ M20.out (by omega) (by omega) (by omega)).mono ?_
      rintro e w21 ⟨rfl, rfl⟩
      go_wp2
      go_ret
      exact ⟨rfl, B20.out⟩


set_option maxRecDepth 100000 in
theorem lifted (os : Os) (started : os.Started) (H : Type) (enc : TypeId × Value → H) :
    ReturnsInHanded {} Try.checked os 14 .any (Rows.fnExactLowWindowsSpec.pre6 enc Try.prog Try.f14 Rows.fnExactLowWindowsRow.domain false) (Rows.fnExactLowWindowsSpec.post enc Try.prog Try.f14 false true false false) := by
  refine returnsInHanded_of_change (C := Try.checked) own started (by kernel_rfl) Try.func14
    (ChangeSpec.witness6 (enc := enc) (C := Try.checked) false ⟨#[], #[.agg #[.int .i64 0, .slice none 0 0, .slice none 0 0], .int .i64 0], []⟩ 8 (by kernel_rfl) (by kernel_rfl) (by kernel_rfl) (by kernel_rfl)) ?_
  intro W base args ds gs before hval0 hW _ _
  have hval : ∀ (j : Nat) t v, Try.f14.params[j]? = some t → args[j]? = some v → Value.okWide Try.prog W .any base t v := hval0
  have hW' := hW
  obtain ⟨p, q, hA0, hV, rfl, _, _⟩ := hW
  have hA : DataW.TrodAll enc Try.prog W 0 (fun _ => true) true Try.f14.params.toList args.toList ds p := hA0
  rw [Try.params14] at hA hval
  obtain ⟨v0, vs0, d0, ds0, p0, q0, hargs, rfl, rfl, h0, r0⟩ := trodAll_cons hA
  obtain ⟨v1, vs1, d1, ds1, p1, q1, rfl, rfl, rfl, h1, r1⟩ := trodAll_cons r0
  obtain ⟨rfl, rfl, rfl⟩ := trodAll_nil r1
  obtain rfl : args = #[v0, v1] := by cases args; simp_all
  obtain ⟨m0, A0, c0, l0, D0, e0, s0, rfl, g0⟩ := open_fc_arg (hval 0 59 v0 rfl rfl) h0
  obtain ⟨a1, rfl, rfl, rfl, g1⟩ := open_int Try.underlying3 (hval 1 3 v1 rfl rfl) h1
  refine (law m0 A0 c0 l0 D0 e0 s0 a1 W g0 g1).mono fun e W' ⟨he, hb⟩ => ⟨_, he, ?_⟩
  exact law_post laidOut (by kernel_rfl) rfl (by kernel_rfl) Try.underlying4 rfl rfl rfl hW' hb

theorem holds : Rows.FnExactLowWindowsSaid :=
  OpenClaim.holds_of_wide 14 Try.f14 rfl rfl rfl rfl rfl rfl rfl ⟨rfl, rfl, rfl, rfl, rfl⟩ rfl rfl rfl rfl rfl (by kernel_rfl) Try.func14 (by kernel_rfl)
    (of_decide_eq_true (by kernel_rfl)) (by unfold Func.isWrapper; first | (rw [if_pos (by decide +kernel)]; kernel_rfl) | (rw [if_neg (by decide +kernel)]; exact ⟨rfl, rfl⟩))
    (fun os started H enc _ => lifted os started H enc)

end Go.Proofs.Ytdpidbkkhmombaa.exactLowWindows
