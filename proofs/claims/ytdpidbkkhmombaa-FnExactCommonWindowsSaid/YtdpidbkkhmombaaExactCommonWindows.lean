
/- The exact law of CommonWindows holds for all lists of windows: impl.CommonWindows answers as its model, the arguments read as before, and the answer is new memory. No condition. -/
import Derived.Test.YtdpidbkkhmombaaRows
import Derived.Test.YtdpidbkkhmombaaWinArg
import Derived.Test.YtdpidbkkhmombaaWinCommon2
namespace Go.Proofs.Ytdpidbkkhmombaa.exactCommonWindows
open Go.ChangeShapes Go.WideShapes Go.ChangeAt Go.RowKit
set_option maxRecDepth 100000

theorem own : ownKnob Try.prog.godebug = none := by kernel_rfl
theorem laidOut : laidOutB Try.prog = true := by kernel_rfl

set_option maxHeartbeats 4000000 in
theorem law (A0 : Option Addr) (c0 : Nat) (l0 : List WindowD) (A1 : Option Addr) (c1 : Nat) (l1 : List WindowD) (w : World) (hin0 : WinIn w A0 c0 l0) (hin1 : WinIn w A1 c1 l1) :
    Calls Try.prog 9 #[.slice A0 l0.length c0, .slice A1 l1.length c1] w fun e w' => e = .returned (.bool true) ∧ Below w.heap.size w w' := by
  obtain ⟨hm0, hs0, _⟩ := hin0
  unfold maxLen at hm0
  have HS0 := Lib.hid hs0
  clear hs0
  obtain ⟨hm1, hs1, _⟩ := hin1
  unfold maxLen at hm1
  have HS1 := Lib.hid hs1
  clear hs1
  by_cases hbig0 : (1048576 : Int) < (l0.length : Int)
  · have Z0 := fun W => Lib.hid (szWindowS_any A0 l0.length c0 W (by omega) 1048576 (by omega) (by omega))
    rw [if_pos hbig0] at Z0
    go_enter Try.func9, Try.ntmps9
    go_wp2_with fail
    refine (Z0 _).out.mono ?_
    rintro e w1 ⟨rfl, rfl⟩
    go_wp2
    go_ret
    exact ⟨rfl, Below.refl _ _⟩
  by_cases hbig1 : (1048576 - (l0.length : Int)) < (l1.length : Int)
  · have Z0 := fun W => Lib.hid (szWindowS_any A0 l0.length c0 W (by omega) 1048576 (by omega) (by omega))
    rw [if_neg hbig0] at Z0
    have Z1 := fun W => Lib.hid (szWindowS_any A1 l1.length c1 W (by omega) (1048576 - (l0.length : Int)) (by omega) (by omega))
    rw [if_pos hbig1] at Z1
    go_enter Try.func9, Try.ntmps9
    go_wp2_with fail
    refine (Z0 _).out.mono ?_
    rintro e w1 ⟨rfl, rfl⟩
    go_wp2_with fail
    refine (Z1 _).out.mono ?_
    rintro e w2 ⟨rfl, rfl⟩
    go_wp2
    go_ret
    exact ⟨rfl, Below.refl _ _⟩
  have S0 := Lib.hid (HS0.out (by omega))
  have S1 := Lib.hid (HS1.out (by omega))
  obtain ⟨R, hR⟩ : ∃ R, R = commonL l0 l1 := ⟨_, rfl⟩
  have hlen : R.length ≤ 3000000 := by rw [hR]; exact (by have := commonL_len l0 l1; omega)
  have cspec := fun (v0 : Value) (v1 : Value) (W : World) (h0 : SlWindow W v0 l0) (h1 : SlWindow W v1 l1) => specCommonWindows v0 l0 v1 l1 W h0 h1
  have cimpl := fun (v0 : Value) (v1 : Value) (W : World) (h0 : SlWindow W v0 l0) (h1 : SlWindow W v1 l1) => implCommonWindows v0 l0 v1 l1 W h0 h1
  rw [← hR] at cspec cimpl
  have CS := Lib.hid cspec
  have CI := Lib.hid cimpl
  clear cspec cimpl hR
  have Z0 := fun W => Lib.hid (szWindowS_any A0 l0.length c0 W (by omega) 1048576 (by omega) (by omega))
  rw [if_neg hbig0] at Z0
  have Z1 := fun W => Lib.hid (szWindowS_any A1 l1.length c1 W (by omega) (1048576 - (l0.length : Int)) (by omega) (by omega))
  rw [if_neg hbig1] at Z1
  go_enter Try.func9, Try.ntmps9
  go_wp2_with fail
  refine (Z0 _).out.mono ?_
  rintro e w0 ⟨rfl, rfl⟩
  go_wp2_with fail
  refine (Z1 _).out.mono ?_
  rintro e w0 ⟨rfl, rfl⟩
  go_wp2_with fail
  refine (toWindowS_any _ l0 _ S0.out).mono ?_
  intro e w1 hnew
  obtain ⟨Xa0, da0, rfl, ko1, hb1⟩ := new_kept hnew (by omega)
  have KN_1 := Lib.hid ko1
  clear hnew ko1
  have B_1 := Lib.hid hb1
  clear hb1
  go_wp2_with fail
  refine (toWindowS_any _ l1 _ (SlWindow.below S1.out B_1.out)).mono ?_
  intro e w2 hnew
  obtain ⟨Xa1, da1, rfl, ko2, hb2⟩ := new_kept hnew (by omega)
  have KN_2 := Lib.hid ko2
  clear hnew ko2
  have Ka0_2 := Lib.hid (KN_1.out.below hb2)
  have B_2 := Lib.hid (B_1.out.trans (hb2.mono B_1.out.size))
  clear hb2
  go_wp2_with fail
  refine (CS.out _ _ _ Ka0_2.out.1 KN_2.out.1).mono ?_
  intro e w3 hnew
  obtain ⟨Xs, ds, rfl, ko3, hb3⟩ := new_kept hnew (by omega)
  have KN_3 := Lib.hid ko3
  clear hnew ko3
  have Ka0_3 := Lib.hid (Ka0_2.out.below hb3)
  have Ka1_3 := Lib.hid (KN_2.out.below hb3)
  have B_3 := Lib.hid (B_2.out.trans (hb3.mono B_2.out.size))
  clear hb3
  have zx0 := B_3.out.size
  have zq0 := KN_3.out.2.2
  go_wp2_with fail
  refine (toWindowS_any _ l0 _ (SlWindow.below S0.out B_3.out)).mono ?_
  intro e w4 hnew
  obtain ⟨Xx0, dx0, rfl, ko4, hb4⟩ := new_kept hnew (by omega)
  have KN_4 := Lib.hid ko4
  clear hnew ko4
  have Ks_4 := Lib.hid (KN_3.out.below hb4)
  have B_4 := Lib.hid (B_3.out.trans (hb4.mono B_3.out.size))
  clear hb4
  have zx1 := B_4.out.size
  have zq1 := Ks_4.out.2.2
  have zp1 := KN_4.out.2.2
  go_wp2_with fail
  refine (toWindowS_any _ l1 _ (SlWindow.below S1.out B_4.out)).mono ?_
  intro e w5 hnew
  obtain ⟨Xx1, dx1, rfl, ko5, hb5⟩ := new_kept hnew (by omega)
  have KN_5 := Lib.hid ko5
  clear hnew ko5
  have Ks_5 := Lib.hid (Ks_4.out.below hb5)
  have Kx0_5 := Lib.hid (KN_4.out.below hb5)
  have B_5 := Lib.hid (B_4.out.trans (hb5.mono B_4.out.size))
  clear hb5
  have zg := B_5.out.size
  have zgs := Ks_5.out.2.2
  have zgx0 := Kx0_5.out.2.2
  have zgx1 := KN_5.out.2.2
  go_wp2_with fail
  refine (CI.out _ _ _ Kx0_5.out.1 KN_5.out.1).mono ?_
  intro e w6 hnew
  obtain ⟨Xg, dg, rfl, ko6, hb6⟩ := new_kept hnew (by omega)
  have KN_6 := Lib.hid ko6
  clear hnew ko6
  have Ks_6 := Lib.hid (Ks_5.out.below hb6)
  have Kx0_6 := Lib.hid (Kx0_5.out.below hb6)
  have Kx1_6 := Lib.hid (KN_5.out.below hb6)
  have B_6 := Lib.hid (B_5.out.trans (hb6.mono B_5.out.size))
  clear hb6
  go_wp2_with fail
  refine (eqWindowS_same _ _ _ _ KN_6.out.1 Ks_6.out.1).mono ?_
  rintro e w7 ⟨rfl, hb7⟩
  have Ks_7 := Lib.hid (Ks_6.out.below hb7)
  have Kx0_7 := Lib.hid (Kx0_6.out.below hb7)
  have Kx1_7 := Lib.hid (Kx1_6.out.below hb7)
  have Kg_7 := Lib.hid (KN_6.out.below hb7)
  have B_7 := Lib.hid (B_6.out.trans (hb7.mono B_6.out.size))
  clear hb7
  go_wp2_with fail
  refine (toWindowS_any _ l0 _ (SlWindow.below S0.out B_7.out)).mono ?_
  intro e w8 hnew
  obtain ⟨Xy, dy, rfl, ko8, hb8⟩ := new_kept hnew (by omega)
  have KN_8 := Lib.hid ko8
  clear hnew ko8
  have Ks_8 := Lib.hid (Ks_7.out.below hb8)
  have Kx0_8 := Lib.hid (Kx0_7.out.below hb8)
  have Kx1_8 := Lib.hid (Kx1_7.out.below hb8)
  have Kg_8 := Lib.hid (Kg_7.out.below hb8)
  have B_8 := Lib.hid (B_7.out.trans (hb8.mono B_7.out.size))
  clear hb8
  go_wp2_with fail
  refine (eqWindowS_same _ _ _ _ Kx0_8.out.1 KN_8.out.1).mono ?_
  rintro e w9 ⟨rfl, hb9⟩
  have Ks_9 := Lib.hid (Ks_8.out.below hb9)
  have Kx0_9 := Lib.hid (Kx0_8.out.below hb9)
  have Kx1_9 := Lib.hid (Kx1_8.out.below hb9)
  have Kg_9 := Lib.hid (Kg_8.out.below hb9)
  have Ky_9 := Lib.hid (KN_8.out.below hb9)
  have B_9 := Lib.hid (B_8.out.trans (hb9.mono B_8.out.size))
  clear hb9
  go_wp2_with fail
  refine (toWindowS_any _ l1 _ (SlWindow.below S1.out B_9.out)).mono ?_
  intro e w10 hnew
  obtain ⟨Xy, dy, rfl, ko10, hb10⟩ := new_kept hnew (by omega)
  have KN_10 := Lib.hid ko10
  clear hnew ko10
  have Ks_10 := Lib.hid (Ks_9.out.below hb10)
  have Kx0_10 := Lib.hid (Kx0_9.out.below hb10)
  have Kx1_10 := Lib.hid (Kx1_9.out.below hb10)
  have Kg_10 := Lib.hid (Kg_9.out.below hb10)
  have B_10 := Lib.hid (B_9.out.trans (hb10.mono B_9.out.size))
  clear hb10
  go_wp2_with fail
  refine (eqWindowS_same _ _ _ _ Kx1_10.out.1 KN_10.out.1).mono ?_
  rintro e w11 ⟨rfl, hb11⟩
  have Ks_11 := Lib.hid (Ks_10.out.below hb11)
  have Kx0_11 := Lib.hid (Kx0_10.out.below hb11)
  have Kx1_11 := Lib.hid (Kx1_10.out.below hb11)
  have Kg_11 := Lib.hid (Kg_10.out.below hb11)
  have Ky_11 := Lib.hid (KN_10.out.below hb11)
  have B_11 := Lib.hid (B_10.out.trans (hb11.mono B_10.out.size))
  clear hb11
  go_wp2_with fail
  refine (markWindowS_any _ l0 (1) _ Kx0_11.out.1 Kx0_11.out.free (by omega) (by omega) (by omega)).mono ?_
  rintro e w12 ⟨rfl, mk12, g12⟩
  have Ks_12 := Lib.hid (Ks_11.out.grown g12 (fun g hg => Or.inr (by have := Kx0_11.out.lo g hg; omega)))
  have Kx1_12 := Lib.hid (Kx1_11.out.grown g12 (fun g hg => Or.inl (by have := Kx0_11.out.hi g hg; omega)))
  have Kg_12 := Lib.hid (Kg_11.out.grown g12 (fun g hg => Or.inl (by have := Kx0_11.out.hi g hg; omega)))
  have B_12 := Lib.hid (B_11.out.grown g12 B_11.out.size (fun g hg => by have := Kx0_11.out.lo g hg; have := zx0; omega))
  have M_12 := Lib.hid mk12
  clear mk12 g12
  go_wp2_with fail
  refine (markWindowS_any _ l1 (1 + (l0.length : Int) * 2) _ Kx1_12.out.1 Kx1_12.out.free (by omega) (by omega) (by omega)).mono ?_
  rintro e w13 ⟨rfl, mk13, g13⟩
  have Ks_13 := Lib.hid (Ks_12.out.grown g13 (fun g hg => Or.inr (by have := Kx1_12.out.lo g hg; omega)))
  have Kg_13 := Lib.hid (Kg_12.out.grown g13 (fun g hg => Or.inl (by have := Kx1_12.out.hi g hg; omega)))
  have B_13 := Lib.hid (B_12.out.grown g13 B_12.out.size (fun g hg => by have := Kx1_12.out.lo g hg; have := zx1; omega))
  have M_13 := Lib.hid mk13
  clear mk13 g13
  have hk : ¬ (1 + (l0.length : Int) * 2 + (l1.length : Int) * 2 < 0) := by omega
  have hkd : decide (1 + (l0.length : Int) * 2 + (l1.length : Int) * 2 < 0) = false := decide_eq_false hk
  go_wp2_with fail
  refine (eqWindowS_same _ _ _ _ Kg_13.out.1 Ks_13.out.1).mono ?_
  rintro e w14 ⟨rfl, hb14⟩
  have Ks_14 := Lib.hid (Ks_13.out.below hb14)
  have Kg_14 := Lib.hid (Kg_13.out.below hb14)
  have B_14 := Lib.hid (B_13.out.trans (hb14.mono B_13.out.size))
  clear hb14
  have hq : ¬ (1 + (R.length : Int) * 2 < 0) := by omega
  go_wp2_with fail
  refine (markWindowS_any _ R (1) _ Kg_14.out.1 Kg_14.out.free (by omega) (by omega) (by omega)).mono ?_
  rintro e w15 ⟨rfl, mk15, g15⟩
  have Ks_15 := Lib.hid (Ks_14.out.grown g15 (fun g hg => Or.inr (by have := Kg_14.out.lo g hg; omega)))
  have B_15 := Lib.hid (B_14.out.grown g15 B_14.out.size (fun g hg => by have := Kg_14.out.lo g hg; have := zg; omega))
  have M_15 := Lib.hid mk15
  clear mk15 g15
  go_wp2_with fail
  refine (heldWindowS_any _ R.length _ _ rfl 1 _ M_15.out (by omega) (by omega) (by omega)).mono ?_
  rintro e w16 ⟨rfl, rfl⟩
  go_wp2_with fail
  refine (toWindowS_any _ l0 _ (SlWindow.below S0.out B_15.out)).mono ?_
  intro e w17 hnew
  obtain ⟨Xb0, db0, rfl, ko17, hb17⟩ := new_kept hnew (by omega)
  have KN_17 := Lib.hid ko17
  clear hnew ko17
  have MM_17 := Lib.hid (Marked.below M_15.out hb17)
  have Ks_17 := Lib.hid (Ks_15.out.below hb17)
  have B_17 := Lib.hid (B_15.out.trans (hb17.mono B_15.out.size))
  clear hb17
  go_wp2_with fail
  refine (toWindowS_any _ l1 _ (SlWindow.below S1.out B_17.out)).mono ?_
  intro e w18 hnew
  obtain ⟨Xb1, db1, rfl, ko18, hb18⟩ := new_kept hnew (by omega)
  have KN_18 := Lib.hid ko18
  clear hnew ko18
  have MM_18 := Lib.hid (Marked.below MM_17.out hb18)
  have Ks_18 := Lib.hid (Ks_17.out.below hb18)
  have Kb0_18 := Lib.hid (KN_17.out.below hb18)
  have B_18 := Lib.hid (B_17.out.trans (hb18.mono B_17.out.size))
  clear hb18
  go_wp2_with fail
  refine (CI.out _ _ _ Kb0_18.out.1 KN_18.out.1).mono ?_
  intro e w19 hnew
  obtain ⟨Xh, dh, rfl, ko19, hb19⟩ := new_kept hnew (by omega)
  have KN_19 := Lib.hid ko19
  clear hnew ko19
  have MM_19 := Lib.hid (Marked.below MM_18.out hb19)
  have Ks_19 := Lib.hid (Ks_18.out.below hb19)
  have Kb0_19 := Lib.hid (Kb0_18.out.below hb19)
  have Kb1_19 := Lib.hid (KN_18.out.below hb19)
  have B_19 := Lib.hid (B_18.out.trans (hb19.mono B_18.out.size))
  clear hb19
  go_wp2_with fail
  refine (eqWindowS_same _ _ _ _ KN_19.out.1 Ks_19.out.1).mono ?_
  rintro e w20 ⟨rfl, hb20⟩
  have MM_20 := Lib.hid (Marked.below MM_19.out hb20)
  have Ks_20 := Lib.hid (Ks_19.out.below hb20)
  have Kb0_20 := Lib.hid (Kb0_19.out.below hb20)
  have Kb1_20 := Lib.hid (Kb1_19.out.below hb20)
  have Kh_20 := Lib.hid (KN_19.out.below hb20)
  have B_20 := Lib.hid (B_19.out.trans (hb20.mono B_19.out.size))
  clear hb20
  go_wp2_with fail
  refine (heldWindowS_any _ R.length _ _ rfl 1 _ MM_20.out (by omega) (by omega) (by omega)).mono ?_
  rintro e w21 ⟨rfl, rfl⟩
  go_wp2
  go_ret
  exact ⟨rfl, B_20.out⟩

set_option maxRecDepth 100000 in
theorem lifted (os : Os) (started : os.Started) (H : Type) (enc : TypeId × Value → H) :
    ReturnsInHanded {} Try.checked os 9 .any (Rows.fnExactCommonWindowsSpec.pre6 enc Try.prog Try.f9 Rows.fnExactCommonWindowsRow.domain false) (Rows.fnExactCommonWindowsSpec.post enc Try.prog Try.f9 false true false false) := by
  refine returnsInHanded_of_change (C := Try.checked) own started (by kernel_rfl) Try.func9
    (ChangeSpec.witness6 (enc := enc) (C := Try.checked) false ⟨#[], #[.slice none 0 0, .slice none 0 0], []⟩ 8 (by kernel_rfl) (by kernel_rfl) (by kernel_rfl) (by kernel_rfl)) ?_
  intro W base args ds gs before hval0 hW _ _
  have hval : ∀ (j : Nat) t v, Try.f9.params[j]? = some t → args[j]? = some v → Value.okWide Try.prog W .any base t v := hval0
  have hW' := hW
  obtain ⟨p, q, hA0, hV, rfl, _, _⟩ := hW
  have hA : DataW.TrodAll enc Try.prog W 0 (fun _ => true) true Try.f9.params.toList args.toList ds p := hA0
  rw [Try.params9] at hA hval
  obtain ⟨v0, vs0, d0, ds0, p0, q0, hargs, rfl, rfl, h0, r0⟩ := trodAll_cons hA
  obtain ⟨v1, vs1, d1, ds1, p1, q1, rfl, rfl, rfl, h1, r1⟩ := trodAll_cons r0
  obtain ⟨rfl, rfl, rfl⟩ := trodAll_nil r1
  obtain rfl : args = #[v0, v1] := by cases args; simp_all
  obtain ⟨A0, c0, l0, rfl, g0⟩ := open_windows_arg (hval 0 47 v0 rfl rfl) h0
  obtain ⟨A1, c1, l1, rfl, g1⟩ := open_windows_arg (hval 1 47 v1 rfl rfl) h1
  refine (law A0 c0 l0 A1 c1 l1 W g0 g1).mono fun e W' ⟨he, hb⟩ => ⟨_, he, ?_⟩
  exact law_post laidOut (by kernel_rfl) rfl (by kernel_rfl) Try.underlying4 rfl rfl rfl hW' hb

theorem holds : Rows.FnExactCommonWindowsSaid :=
  OpenClaim.holds_of_wide 9 Try.f9 rfl rfl rfl rfl rfl rfl rfl ⟨rfl, rfl, rfl, rfl, rfl⟩ rfl rfl rfl rfl rfl (by kernel_rfl) Try.func9 (by kernel_rfl)
    (of_decide_eq_true (by kernel_rfl)) (by unfold Func.isWrapper; first | (rw [if_pos (by decide +kernel)]; kernel_rfl) | (rw [if_neg (by decide +kernel)]; exact ⟨rfl, rfl⟩))
    (fun os started H enc _ => lifted os started H enc)

end Go.Proofs.Ytdpidbkkhmombaa.exactCommonWindows
