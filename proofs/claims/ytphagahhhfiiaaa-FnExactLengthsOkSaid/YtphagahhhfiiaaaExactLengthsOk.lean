
/- The exact law of LengthsOk holds for all arguments: impl.LengthsOk answers as its model, and the arguments read as before. No condition. -/
import Derived.Test.YtphagahhhfiiaaaRows
import Derived.Test.YtphagahhhfiiaaaKit
import Derived.Test.YtphagahhhfiiaaaPackSpec0
import Derived.Test.YtphagahhhfiiaaaLockImpl0
import Derived.Test.YtphagahhhfiiaaaInts
import Derived.Test.YtphagahhhfiiaaaTouch
import Derived.Deep.RegionHeld3
import Derived.Deep.DeepCutAuto
namespace Go.Proofs.Ytphagahhhfiiaaa.exactLengthsOk
open Go.ChangeShapes Go.WideShapes Go.ChangeAt Go.RowKit
set_option maxRecDepth 100000

theorem own : ownKnob Try.prog.godebug = none := by kernel_rfl
theorem laidOut : laidOutB Try.prog = true := by kernel_rfl

set_option maxHeartbeats 16000000 in
theorem law (A0 : Option Addr) (c0 : Nat) (l0 : List IntD) (w : World) (hin0 : l0.length ≤ maxLen ∧ (l0.length ≤ 1000000000 → SlInt w (.slice A0 l0.length c0) l0) ∧ ∀ x ∈ l0, IntD.wf x) :
    Calls Try.prog 5 #[.slice A0 l0.length c0] w fun e w' => e = .returned (.bool true) ∧ Below w.heap.size w w' := by
  obtain ⟨m0, s0, f0⟩ := hin0
  unfold maxLen at m0
  have SS0 := Lib.hid s0
  have FF0 := Lib.hid f0
  clear s0 f0
  have HB0 : Below w.heap.size w w := Below.refl _ _
  have BW := Lib.hid HB0
  clear HB0
  go_enter Try.func5, Try.ntmps5
  have B0 := Lib.hid (Below.refl (w).heap.size w)
  have hs0 : w.heap.size ≤ (w).heap.size := BW.out.size
  obtain ⟨r0, hr0⟩ : ∃ r0, (lensB l0) = r0 := ⟨_, rfl⟩
  have HR0 := Lib.hid hr0
  clear hr0
  -- if len(aLengths) > 1<<20 {
  by_cases big0 : 1048576 < l0.length
  · go_wp2
    go_ret
    exact ⟨rfl, BW.out.trans (B0.out.mono hs0)⟩
  have R0 := Lib.hid (SS0.out (by omega))
  clear SS0
  -- w0 := spec.LengthsOk(toIntS(aLengths))
  go_wp2_with fail
  refine (toIntS_any _ l0 _ (R0.out.below (BW.out.trans (B0.out.mono hs0)))).mono ?_
  rintro e w1 ⟨u1, rfl, o1, hb1⟩
  have S1 := Lib.hid (OwnInt.sl o1 (by omega))
  have RG1 := Lib.hid (own_range o1)
  have FR1 := Lib.hid (own_freeV o1)
  obtain ⟨D1, k1, rfl⟩ := own_form o1
  have B1 := Lib.hid (B0.out.trans (hb1.mono B0.out.size))
  have hz1 : (w).heap.size ≤ w1.heap.size := hb1.size
  clear hb1 o1
  go_wp2_with fail
  refine (specLengthsOk _ l0 _ S1.out ).mono ?_
  rw [HR0.out]
  rintro e w2 ⟨rfl, hb2⟩
  have B2 := Lib.hid (B1.out.trans (hb2.mono B1.out.size))
  have t1_2 := Lib.hid (S1.out.below hb2)
  have hz2 : (w1).heap.size ≤ w2.heap.size := hb2.size
  clear hb2 
  -- x0 := toIntS(aLengths)
  go_wp2_with fail
  refine (toIntS_any _ l0 _ (R0.out.below (BW.out.trans (B2.out.mono hs0)))).mono ?_
  rintro e w3 ⟨u3, rfl, o3, hb3⟩
  have S3 := Lib.hid (OwnInt.sl o3 (by omega))
  have RG3 := Lib.hid (own_range o3)
  have FR3 := Lib.hid (own_freeV o3)
  obtain ⟨D3, k3, rfl⟩ := own_form o3
  have B3 := Lib.hid (B2.out.trans (hb3.mono B2.out.size))
  have hz3 : (w2).heap.size ≤ w3.heap.size := hb3.size
  clear hb3 o3
  -- g0 := impl.LengthsOk(x0)
  go_wp2_with fail
  refine (implLengthsOk _ l0 _ S3.out ).mono ?_
  rw [HR0.out]
  rintro e w4 ⟨rfl, hb4⟩
  have B4 := Lib.hid (B3.out.trans (hb4.mono B3.out.size))
  have x0_4 := Lib.hid (S3.out.below hb4)
  have x0F_4 := Lib.hid (FR3.out.below hb4)
  have hz4 : (w3).heap.size ≤ w4.heap.size := hb4.size
  clear hb4 
  -- if g0 != w0 {
  -- if !eqIntS(x0, toIntS(aLengths)) {
  go_wp2_with fail
  refine (toIntS_any _ l0 _ (R0.out.below (BW.out.trans (B4.out.mono hs0)))).mono ?_
  rintro e w5 ⟨u5, rfl, o5, hb5⟩
  have S5 := Lib.hid (OwnInt.sl o5 (by omega))
  have RG5 := Lib.hid (own_range o5)
  have FR5 := Lib.hid (own_freeV o5)
  obtain ⟨D5, k5, rfl⟩ := own_form o5
  have B5 := Lib.hid (B4.out.trans (hb5.mono B4.out.size))
  have x0_5 := Lib.hid (x0_4.out.below hb5)
  have x0F_5 := Lib.hid (x0F_4.out.below hb5)
  have hz5 : (w4).heap.size ≤ w5.heap.size := hb5.size
  clear hb5 o5
  go_wp2_with fail
  refine (eqIntS_same _ _ l0 _ x0_5.out S5.out).mono ?_
  rintro e w6 ⟨rfl, hb6⟩
  have B6 := Lib.hid (B5.out.trans (hb6.mono B5.out.size))
  have x0_6 := Lib.hid (x0_5.out.below hb6)
  have x0F_6 := Lib.hid (x0F_5.out.below hb6)
  have hz6 : (w5).heap.size ≤ w6.heap.size := hb6.size
  clear hb6
  -- return true
  go_wp2
  go_ret
  exact ⟨rfl, BW.out.trans (B6.out.mono hs0)⟩

set_option maxRecDepth 100000 in
theorem lifted (os : Os) (started : os.Started) (H : Type) (enc : TypeId × Value → H) :
    ReturnsInHanded {} Try.checked os 5 .any (Rows.fnExactLengthsOkSpec.pre6 enc Try.prog Try.f5 Rows.fnExactLengthsOkRow.domain false) (Rows.fnExactLengthsOkSpec.post enc Try.prog Try.f5 false true false false) := by
  refine returnsInHanded_of_change (C := Try.checked) own started (by kernel_rfl) Try.func5
    (ChangeSpec.witness6 (enc := enc) (C := Try.checked) false ⟨#[], #[.slice none 0 0], []⟩ 8 (by kernel_rfl) (by kernel_rfl) (by kernel_rfl) (by kernel_rfl)) ?_
  intro W base args ds gs before hval0 hW _ _
  have hval : ∀ (j : Nat) t v, Try.f5.params[j]? = some t → args[j]? = some v → Value.okWide Try.prog W .any base t v := hval0
  have hW' := hW
  obtain ⟨p, q, hA0, hV, rfl, _, _⟩ := hW
  have hA : DataW.TrodAll enc Try.prog W 0 (fun _ => true) true Try.f5.params.toList args.toList ds p := hA0
  rw [Try.params5] at hA hval
  obtain ⟨v0, vs0, d0, ds0, p0, q0, hargs, rfl, rfl, h0, r0⟩ := trodAll_cons hA
  obtain ⟨rfl, rfl, rfl⟩ := trodAll_nil r0
  obtain rfl : args = #[v0] := by cases args; simp_all
  obtain ⟨A0, c0, l0, rfl, g0⟩ := open_ints_arg (hval 0 25 v0 rfl rfl) h0
  refine (law A0 c0 l0 W g0).mono fun e W' ⟨he, hb⟩ => ⟨_, he, ?_⟩
  exact law_post laidOut (by kernel_rfl) rfl (by kernel_rfl) Try.underlying4 rfl rfl rfl hW' hb

theorem holds : Rows.FnExactLengthsOkSaid :=
  OpenClaim.holds_of_wide 5 Try.f5 rfl rfl rfl rfl rfl rfl rfl ⟨rfl, rfl, rfl, rfl, rfl⟩ rfl rfl rfl rfl rfl (by kernel_rfl) Try.func5 (by kernel_rfl)
    (of_decide_eq_true (by kernel_rfl)) (by unfold Func.isWrapper; first | (rw [if_pos (by decide +kernel)]; kernel_rfl) | (rw [if_neg (by decide +kernel)]; exact ⟨rfl, rfl⟩))
    (fun os started H enc _ => lifted os started H enc)

end Go.Proofs.Ytphagahhhfiiaaa.exactLengthsOk
