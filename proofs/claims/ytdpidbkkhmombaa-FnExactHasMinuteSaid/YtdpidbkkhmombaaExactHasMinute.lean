
/- The exact law of HasMinute holds for all lists of windows and all integers: impl.HasMinute answers as its model, the arguments read as before. No condition. -/
import Derived.Test.YtdpidbkkhmombaaRows
import Derived.Test.YtdpidbkkhmombaaWinArg
import Derived.Test.YtdpidbkkhmombaaWinHas
namespace Go.Proofs.Ytdpidbkkhmombaa.exactHasMinute
open Go.ChangeShapes Go.WideShapes Go.ChangeAt Go.RowKit
set_option maxRecDepth 100000

theorem own : ownKnob Try.prog.godebug = none := by kernel_rfl
theorem laidOut : laidOutB Try.prog = true := by kernel_rfl

set_option maxHeartbeats 4000000 in
theorem law (A0 : Option Addr) (c0 : Nat) (l0 : List WindowD) (t0 : Int) (w : World) (hin0 : WinIn w A0 c0 l0) (_ : (Lit.int .i64 t0).wf = true) :
    Calls Try.prog 8 #[.slice A0 l0.length c0, .int .i64 t0] w fun e w' => e = .returned (.bool true) ∧ Below w.heap.size w w' := by
  obtain ⟨hm0, hs0, _⟩ := hin0
  unfold maxLen at hm0
  have HS0 := Lib.hid hs0
  clear hs0
  by_cases hbig0 : (1048576 : Int) < (l0.length : Int)
  · have Z0 := fun W => Lib.hid (szWindowS_any A0 l0.length c0 W (by omega) 1048576 (by omega) (by omega))
    rw [if_pos hbig0] at Z0
    go_enter Try.func8, Try.ntmps8
    go_wp2_with fail
    refine (Z0 _).out.mono ?_
    rintro e w1 ⟨rfl, rfl⟩
    go_wp2
    go_ret
    exact ⟨rfl, Below.refl _ _⟩
  have S0 := Lib.hid (HS0.out (by omega))
  obtain ⟨R, hR⟩ : ∃ R : Bool, R = hasB l0 t0 := ⟨_, rfl⟩
  have cspec := fun (v0 : Value) (W : World) (h0 : SlWindow W v0 l0) => specHasMinute v0 l0 t0 W h0
  have cimpl := fun (v0 : Value) (W : World) (h0 : SlWindow W v0 l0) => implHasMinute v0 l0 t0 W h0
  rw [← hR] at cspec cimpl
  have CS := Lib.hid cspec
  have CI := Lib.hid cimpl
  clear cspec cimpl hR
  have Z0 := fun W => Lib.hid (szWindowS_any A0 l0.length c0 W (by omega) 1048576 (by omega) (by omega))
  rw [if_neg hbig0] at Z0
  go_enter Try.func8, Try.ntmps8
  go_wp2_with fail
  refine (Z0 _).out.mono ?_
  rintro e w0 ⟨rfl, rfl⟩
  go_wp2_with fail
  refine (toWindowS_any _ l0 _ S0.out).mono ?_
  intro e w1 hnew
  obtain ⟨Xa0, da0, rfl, ko1, hb1⟩ := new_kept hnew (by omega)
  have KN_1 := Lib.hid ko1
  clear hnew ko1
  have B_1 := Lib.hid hb1
  clear hb1
  go_wp2_with fail
  refine (CS.out _ _ KN_1.out.1).mono ?_
  rintro e w2 ⟨rfl, hb2⟩
  have Ka0_2 := Lib.hid (KN_1.out.below hb2)
  have B_2 := Lib.hid (B_1.out.trans (hb2.mono B_1.out.size))
  clear hb2
  go_wp2_with fail
  refine (toWindowS_any _ l0 _ (SlWindow.below S0.out B_2.out)).mono ?_
  intro e w3 hnew
  obtain ⟨Xx0, dx0, rfl, ko3, hb3⟩ := new_kept hnew (by omega)
  have KN_3 := Lib.hid ko3
  clear hnew ko3
  have B_3 := Lib.hid (B_2.out.trans (hb3.mono B_2.out.size))
  clear hb3
  go_wp2_with fail
  refine (CI.out _ _ KN_3.out.1).mono ?_
  rintro e w4 ⟨rfl, hb4⟩
  have Kx0_4 := Lib.hid (KN_3.out.below hb4)
  have B_4 := Lib.hid (B_3.out.trans (hb4.mono B_3.out.size))
  clear hb4
  cases R
  all_goals
    go_wp2_with fail
    refine (toWindowS_any _ l0 _ (SlWindow.below S0.out B_4.out)).mono ?_
    intro e w5 hnew
    obtain ⟨Xy, dy, rfl, ko5, hb5⟩ := new_kept hnew (by omega)
    have KN_5 := Lib.hid ko5
    clear hnew ko5
    have Kx0_5 := Lib.hid (Kx0_4.out.below hb5)
    have B_5 := Lib.hid (B_4.out.trans (hb5.mono B_4.out.size))
    clear hb5
    go_wp2_with fail
    refine (eqWindowS_same _ _ _ _ Kx0_5.out.1 KN_5.out.1).mono ?_
    rintro e w6 ⟨rfl, hb6⟩
    have Kx0_6 := Lib.hid (Kx0_5.out.below hb6)
    have Ky_6 := Lib.hid (KN_5.out.below hb6)
    have B_6 := Lib.hid (B_5.out.trans (hb6.mono B_5.out.size))
    clear hb6
    go_wp2
    go_ret
    exact ⟨rfl, B_6.out⟩

set_option maxRecDepth 100000 in
theorem lifted (os : Os) (started : os.Started) (H : Type) (enc : TypeId × Value → H) :
    ReturnsInHanded {} Try.checked os 8 .any (Rows.fnExactHasMinuteSpec.pre6 enc Try.prog Try.f8 Rows.fnExactHasMinuteRow.domain false) (Rows.fnExactHasMinuteSpec.post enc Try.prog Try.f8 false true false false) := by
  refine returnsInHanded_of_change (C := Try.checked) own started (by kernel_rfl) Try.func8
    (ChangeSpec.witness6 (enc := enc) (C := Try.checked) false ⟨#[], #[.slice none 0 0, .int .i64 0], []⟩ 8 (by kernel_rfl) (by kernel_rfl) (by kernel_rfl) (by kernel_rfl)) ?_
  intro W base args ds gs before hval0 hW _ _
  have hval : ∀ (j : Nat) t v, Try.f8.params[j]? = some t → args[j]? = some v → Value.okWide Try.prog W .any base t v := hval0
  have hW' := hW
  obtain ⟨p, q, hA0, hV, rfl, _, _⟩ := hW
  have hA : DataW.TrodAll enc Try.prog W 0 (fun _ => true) true Try.f8.params.toList args.toList ds p := hA0
  rw [Try.params8] at hA hval
  obtain ⟨v0, vs0, d0, ds0, p0, q0, hargs, rfl, rfl, h0, r0⟩ := trodAll_cons hA
  obtain ⟨v1, vs1, d1, ds1, p1, q1, rfl, rfl, rfl, h1, r1⟩ := trodAll_cons r0
  obtain ⟨rfl, rfl, rfl⟩ := trodAll_nil r1
  obtain rfl : args = #[v0, v1] := by cases args; simp_all
  obtain ⟨A0, c0, l0, rfl, g0⟩ := open_windows_arg (hval 0 47 v0 rfl rfl) h0
  obtain ⟨a1, rfl, rfl, rfl, g1⟩ := open_int Try.underlying3 (hval 1 3 v1 rfl rfl) h1
  refine (law A0 c0 l0 a1 W g0 g1).mono fun e W' ⟨he, hb⟩ => ⟨_, he, ?_⟩
  exact law_post laidOut (by kernel_rfl) rfl (by kernel_rfl) Try.underlying4 rfl rfl rfl hW' hb

theorem holds : Rows.FnExactHasMinuteSaid :=
  OpenClaim.holds_of_wide 8 Try.f8 rfl rfl rfl rfl rfl rfl rfl ⟨rfl, rfl, rfl, rfl, rfl⟩ rfl rfl rfl rfl rfl (by kernel_rfl) Try.func8 (by kernel_rfl)
    (of_decide_eq_true (by kernel_rfl)) (by unfold Func.isWrapper; first | (rw [if_pos (by decide +kernel)]; kernel_rfl) | (rw [if_neg (by decide +kernel)]; exact ⟨rfl, rfl⟩))
    (fun os started H enc _ => lifted os started H enc)

end Go.Proofs.Ytdpidbkkhmombaa.exactHasMinute
