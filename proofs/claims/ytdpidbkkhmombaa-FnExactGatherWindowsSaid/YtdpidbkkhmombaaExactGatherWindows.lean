
/- The exact law of GatherWindows holds for all lists of windows: impl.GatherWindows answers as its model, the arguments read as before, and the answer is new memory. No condition. -/
import Derived.Test.YtdpidbkkhmombaaRows
import Derived.Test.YtdpidbkkhmombaaWinArg
import Derived.Test.YtdpidbkkhmombaaWinGather
namespace Go.Proofs.Ytdpidbkkhmombaa.exactGatherWindows
open Go.ChangeShapes Go.WideShapes Go.ChangeAt Go.RowKit
set_option maxRecDepth 100000

theorem own : ownKnob Try.prog.godebug = none := by kernel_rfl
theorem laidOut : laidOutB Try.prog = true := by kernel_rfl

set_option maxHeartbeats 4000000 in
theorem law (A0 : Option Addr) (c0 : Nat) (l0 : List WindowD) (w : World) (hin0 : WinIn w A0 c0 l0) :
    Calls Try.prog 7 #[.slice A0 l0.length c0] w fun e w' => e = .returned (.bool true) ∧ Below w.heap.size w w' := by
  obtain ⟨hm0, hs0, _⟩ := hin0
  unfold maxLen at hm0
  have HS0 := Lib.hid hs0
  clear hs0
  by_cases hbig0 : (1048576 : Int) < (l0.length : Int)
  · have Z0 := fun W => Lib.hid (szWindowS_any A0 l0.length c0 W (by omega) 1048576 (by omega) (by omega))
    rw [if_pos hbig0] at Z0
    go_enter Try.func7, Try.ntmps7
    go_wp2_with fail
    refine (Z0 _).out.mono ?_
    rintro e w1 ⟨rfl, rfl⟩
    go_wp2
    go_ret
    exact ⟨rfl, Below.refl _ _⟩
  have S0 := Lib.hid (HS0.out (by omega))
  obtain ⟨R, hR⟩ : ∃ R, R = gathL l0 := ⟨_, rfl⟩
  have hlen : R.length ≤ 3000000 := by rw [hR]; exact (by have := gathL_len l0; omega)
  have cspec := fun (v0 : Value) (W : World) (h0 : SlWindow W v0 l0) => specGatherWindows v0 l0 W h0
  have cimpl := fun (v0 : Value) (W : World) (h0 : SlWindow W v0 l0) => implGatherWindows v0 l0 W h0
  rw [← hR] at cspec cimpl
  have CS := Lib.hid cspec
  have CI := Lib.hid cimpl
  clear cspec cimpl hR
  have Z0 := fun W => Lib.hid (szWindowS_any A0 l0.length c0 W (by omega) 1048576 (by omega) (by omega))
  rw [if_neg hbig0] at Z0
  go_enter Try.func7, Try.ntmps7
  go_wp2_with fail
  refine (Z0 _).out.mono ?_
  rintro e w0 ⟨rfl, rfl⟩
  go_wp2_with fail
  refine (toWindowS_any _ l0 _ S0.out).mono ?_
  intro e w1 hnew
  obtain ⟨Xa0, da0, rfl, ko1, hb1⟩ := new_kept hnew (by omega)
  have KN_1 := Lib.hid ko1
  clear hnew ko1
  have B_1 := Lib.hid hb1
  clear hb1
  go_wp2_with fail
  refine (CS.out _ _ KN_1.out.1).mono ?_
  intro e w2 hnew
  obtain ⟨Xs, ds, rfl, ko2, hb2⟩ := new_kept hnew (by omega)
  have KN_2 := Lib.hid ko2
  clear hnew ko2
  have Ka0_2 := Lib.hid (KN_1.out.below hb2)
  have B_2 := Lib.hid (B_1.out.trans (hb2.mono B_1.out.size))
  clear hb2
  have zx0 := B_2.out.size
  have zq0 := KN_2.out.2.2
  go_wp2_with fail
  refine (toWindowS_any _ l0 _ (SlWindow.below S0.out B_2.out)).mono ?_
  intro e w3 hnew
  obtain ⟨Xx0, dx0, rfl, ko3, hb3⟩ := new_kept hnew (by omega)
  have KN_3 := Lib.hid ko3
  clear hnew ko3
  have Ks_3 := Lib.hid (KN_2.out.below hb3)
  have B_3 := Lib.hid (B_2.out.trans (hb3.mono B_2.out.size))
  clear hb3
  have zg := B_3.out.size
  have zgs := Ks_3.out.2.2
  have zgx0 := KN_3.out.2.2
  go_wp2_with fail
  refine (CI.out _ _ KN_3.out.1).mono ?_
  intro e w4 hnew
  obtain ⟨Xg, dg, rfl, ko4, hb4⟩ := new_kept hnew (by omega)
  have KN_4 := Lib.hid ko4
  clear hnew ko4
  have Ks_4 := Lib.hid (Ks_3.out.below hb4)
  have Kx0_4 := Lib.hid (KN_3.out.below hb4)
  have B_4 := Lib.hid (B_3.out.trans (hb4.mono B_3.out.size))
  clear hb4
  go_wp2_with fail
  refine (eqWindowS_same _ _ _ _ KN_4.out.1 Ks_4.out.1).mono ?_
  rintro e w5 ⟨rfl, hb5⟩
  have Ks_5 := Lib.hid (Ks_4.out.below hb5)
  have Kx0_5 := Lib.hid (Kx0_4.out.below hb5)
  have Kg_5 := Lib.hid (KN_4.out.below hb5)
  have B_5 := Lib.hid (B_4.out.trans (hb5.mono B_4.out.size))
  clear hb5
  go_wp2_with fail
  refine (toWindowS_any _ l0 _ (SlWindow.below S0.out B_5.out)).mono ?_
  intro e w6 hnew
  obtain ⟨Xy, dy, rfl, ko6, hb6⟩ := new_kept hnew (by omega)
  have KN_6 := Lib.hid ko6
  clear hnew ko6
  have Ks_6 := Lib.hid (Ks_5.out.below hb6)
  have Kx0_6 := Lib.hid (Kx0_5.out.below hb6)
  have Kg_6 := Lib.hid (Kg_5.out.below hb6)
  have B_6 := Lib.hid (B_5.out.trans (hb6.mono B_5.out.size))
  clear hb6
  go_wp2_with fail
  refine (eqWindowS_same _ _ _ _ Kx0_6.out.1 KN_6.out.1).mono ?_
  rintro e w7 ⟨rfl, hb7⟩
  have Ks_7 := Lib.hid (Ks_6.out.below hb7)
  have Kx0_7 := Lib.hid (Kx0_6.out.below hb7)
  have Kg_7 := Lib.hid (Kg_6.out.below hb7)
  have Ky_7 := Lib.hid (KN_6.out.below hb7)
  have B_7 := Lib.hid (B_6.out.trans (hb7.mono B_6.out.size))
  clear hb7
  go_wp2_with fail
  refine (markWindowS_any _ l0 (1) _ Kx0_7.out.1 Kx0_7.out.free (by omega) (by omega) (by omega)).mono ?_
  rintro e w8 ⟨rfl, mk8, g8⟩
  have Ks_8 := Lib.hid (Ks_7.out.grown g8 (fun g hg => Or.inr (by have := Kx0_7.out.lo g hg; omega)))
  have Kg_8 := Lib.hid (Kg_7.out.grown g8 (fun g hg => Or.inl (by have := Kx0_7.out.hi g hg; omega)))
  have B_8 := Lib.hid (B_7.out.grown g8 B_7.out.size (fun g hg => by have := Kx0_7.out.lo g hg; have := zx0; omega))
  have M_8 := Lib.hid mk8
  clear mk8 g8
  have hk : ¬ (1 + (l0.length : Int) * 2 < 0) := by omega
  have hkd : decide (1 + (l0.length : Int) * 2 < 0) = false := decide_eq_false hk
  go_wp2_with fail
  refine (eqWindowS_same _ _ _ _ Kg_8.out.1 Ks_8.out.1).mono ?_
  rintro e w9 ⟨rfl, hb9⟩
  have Ks_9 := Lib.hid (Ks_8.out.below hb9)
  have Kg_9 := Lib.hid (Kg_8.out.below hb9)
  have B_9 := Lib.hid (B_8.out.trans (hb9.mono B_8.out.size))
  clear hb9
  have hq : ¬ (1 + (R.length : Int) * 2 < 0) := by omega
  go_wp2_with fail
  refine (markWindowS_any _ R (1) _ Kg_9.out.1 Kg_9.out.free (by omega) (by omega) (by omega)).mono ?_
  rintro e w10 ⟨rfl, mk10, g10⟩
  have Ks_10 := Lib.hid (Ks_9.out.grown g10 (fun g hg => Or.inr (by have := Kg_9.out.lo g hg; omega)))
  have B_10 := Lib.hid (B_9.out.grown g10 B_9.out.size (fun g hg => by have := Kg_9.out.lo g hg; have := zg; omega))
  have M_10 := Lib.hid mk10
  clear mk10 g10
  go_wp2_with fail
  refine (heldWindowS_any _ R.length _ _ rfl 1 _ M_10.out (by omega) (by omega) (by omega)).mono ?_
  rintro e w11 ⟨rfl, rfl⟩
  go_wp2_with fail
  refine (toWindowS_any _ l0 _ (SlWindow.below S0.out B_10.out)).mono ?_
  intro e w12 hnew
  obtain ⟨Xb0, db0, rfl, ko12, hb12⟩ := new_kept hnew (by omega)
  have KN_12 := Lib.hid ko12
  clear hnew ko12
  have MM_12 := Lib.hid (Marked.below M_10.out hb12)
  have Ks_12 := Lib.hid (Ks_10.out.below hb12)
  have B_12 := Lib.hid (B_10.out.trans (hb12.mono B_10.out.size))
  clear hb12
  go_wp2_with fail
  refine (CI.out _ _ KN_12.out.1).mono ?_
  intro e w13 hnew
  obtain ⟨Xh, dh, rfl, ko13, hb13⟩ := new_kept hnew (by omega)
  have KN_13 := Lib.hid ko13
  clear hnew ko13
  have MM_13 := Lib.hid (Marked.below MM_12.out hb13)
  have Ks_13 := Lib.hid (Ks_12.out.below hb13)
  have Kb0_13 := Lib.hid (KN_12.out.below hb13)
  have B_13 := Lib.hid (B_12.out.trans (hb13.mono B_12.out.size))
  clear hb13
  go_wp2_with fail
  refine (eqWindowS_same _ _ _ _ KN_13.out.1 Ks_13.out.1).mono ?_
  rintro e w14 ⟨rfl, hb14⟩
  have MM_14 := Lib.hid (Marked.below MM_13.out hb14)
  have Ks_14 := Lib.hid (Ks_13.out.below hb14)
  have Kb0_14 := Lib.hid (Kb0_13.out.below hb14)
  have Kh_14 := Lib.hid (KN_13.out.below hb14)
  have B_14 := Lib.hid (B_13.out.trans (hb14.mono B_13.out.size))
  clear hb14
  go_wp2_with fail
  refine (heldWindowS_any _ R.length _ _ rfl 1 _ MM_14.out (by omega) (by omega) (by omega)).mono ?_
  rintro e w15 ⟨rfl, rfl⟩
  go_wp2
  go_ret
  exact ⟨rfl, B_14.out⟩

set_option maxRecDepth 100000 in
theorem lifted (os : Os) (started : os.Started) (H : Type) (enc : TypeId × Value → H) :
    ReturnsInHanded {} Try.checked os 7 .any (Rows.fnExactGatherWindowsSpec.pre6 enc Try.prog Try.f7 Rows.fnExactGatherWindowsRow.domain false) (Rows.fnExactGatherWindowsSpec.post enc Try.prog Try.f7 false true false false) := by
  refine returnsInHanded_of_change (C := Try.checked) own started (by kernel_rfl) Try.func7
    (ChangeSpec.witness6 (enc := enc) (C := Try.checked) false ⟨#[], #[.slice none 0 0], []⟩ 8 (by kernel_rfl) (by kernel_rfl) (by kernel_rfl) (by kernel_rfl)) ?_
  intro W base args ds gs before hval0 hW _ _
  have hval : ∀ (j : Nat) t v, Try.f7.params[j]? = some t → args[j]? = some v → Value.okWide Try.prog W .any base t v := hval0
  have hW' := hW
  obtain ⟨p, q, hA0, hV, rfl, _, _⟩ := hW
  have hA : DataW.TrodAll enc Try.prog W 0 (fun _ => true) true Try.f7.params.toList args.toList ds p := hA0
  rw [Try.params7] at hA hval
  obtain ⟨v0, vs0, d0, ds0, p0, q0, hargs, rfl, rfl, h0, r0⟩ := trodAll_cons hA
  obtain ⟨rfl, rfl, rfl⟩ := trodAll_nil r0
  obtain rfl : args = #[v0] := by cases args; simp_all
  obtain ⟨A0, c0, l0, rfl, g0⟩ := open_windows_arg (hval 0 47 v0 rfl rfl) h0
  refine (law A0 c0 l0 W g0).mono fun e W' ⟨he, hb⟩ => ⟨_, he, ?_⟩
  exact law_post laidOut (by kernel_rfl) rfl (by kernel_rfl) Try.underlying4 rfl rfl rfl hW' hb

theorem holds : Rows.FnExactGatherWindowsSaid :=
  OpenClaim.holds_of_wide 7 Try.f7 rfl rfl rfl rfl rfl rfl rfl ⟨rfl, rfl, rfl, rfl, rfl⟩ rfl rfl rfl rfl rfl (by kernel_rfl) Try.func7 (by kernel_rfl)
    (of_decide_eq_true (by kernel_rfl)) (by unfold Func.isWrapper; first | (rw [if_pos (by decide +kernel)]; kernel_rfl) | (rw [if_neg (by decide +kernel)]; exact ⟨rfl, rfl⟩))
    (fun os started H enc _ => lifted os started H enc)

end Go.Proofs.Ytdpidbkkhmombaa.exactGatherWindows
