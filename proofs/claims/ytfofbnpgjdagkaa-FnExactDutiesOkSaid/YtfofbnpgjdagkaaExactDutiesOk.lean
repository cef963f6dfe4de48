
/- The exact law of DutiesOk holds for all arguments: impl.DutiesOk answers as its model, and the arguments read as before. No condition. -/
import Derived.Test.YtfofbnpgjdagkaaRows
import Derived.Test.YtfofbnpgjdagkaaKit
import Derived.Test.YtfofbnpgjdagkaaDutySpec0
import Derived.Test.YtfofbnpgjdagkaaDutyImpl0
import Derived.Test.YtfofbnpgjdagkaaDutys
import Derived.Test.YtfofbnpgjdagkaaDutysArg
import Derived.Test.YtfofbnpgjdagkaaTouch
import Derived.Deep.RegionHeld3
import Derived.Deep.DeepCutAuto
namespace Go.Proofs.Ytfofbnpgjdagkaa.exactDutiesOk
open Go.ChangeShapes Go.WideShapes Go.ChangeAt Go.RowKit
set_option maxRecDepth 100000

theorem own : ownKnob Try.prog.godebug = none := by kernel_rfl
theorem laidOut : laidOutB Try.prog = true := by kernel_rfl

set_option maxHeartbeats 16000000 in
theorem law (A0 : Option Addr) (c0 : Nat) (l0 : List DutyD) (w : World) (hin0 : l0.length ≤ maxLen ∧ (l0.length ≤ 1000000000 → SlDuty w (.slice A0 l0.length c0) l0) ∧ ∀ x ∈ l0, DutyD.wf x) :
    Calls Try.prog 5 #[.slice A0 l0.length c0] w fun e w' => e = .returned (.bool true) ∧ Below w.heap.size w w' := by
  obtain ⟨m0, s0, f0⟩ := hin0
  unfold maxLen at m0
  have SS0 := Lib.hid s0
  have FF0 := Lib.hid f0
  clear s0 f0
  have HB0 : Below w.heap.size w w := Below.refl _ _
  have BW := Lib.hid HB0
  clear HB0
  go_enter Try.func5, Try.ntmps5
  have B0 := Lib.hid (Below.refl (w).heap.size w)
  have hs0 : w.heap.size ≤ (w).heap.size := BW.out.size
  obtain ⟨r0, hr0⟩ : ∃ r0, (dutiesB l0) = r0 := ⟨_, rfl⟩
  have HR0 := Lib.hid hr0
  clear hr0
  -- left := 1 << 20
  -- left = szDutyS(aList, left)
  have hl1 : 0 ≤ (1048576 : Int) := by omega
  have hll1 : (1048576 : Int) ≤ 1048576 := by omega
  go_wp2_with fail
  refine (szDutyS_any A0 l0 c0 _ (by omega) (fun h => (SS0.out h).below (BW.out.trans (B0.out.mono hs0))) (1048576) hl1 hll1).mono ?_
  rintro e w1 ⟨rfl, hb1⟩
  have B1 := Lib.hid (B0.out.trans (hb1.mono B0.out.size))
  have hz1 : (w).heap.size ≤ w1.heap.size := hb1.size
  clear hb1 
  have ps1 := bulkDuty_pos l0
  by_cases neg1 : (1048576 : Int) < ((l0.length : Int) + bulkDuty l0)
  · rw [leftOf_no neg1]
    go_wp2
    go_ret
    exact ⟨rfl, BW.out.trans (B1.out.mono hs0)⟩
  rw [leftOf_yes neg1]
  have ne1 : ¬ (1048576 - ((l0.length : Int) + bulkDuty l0) : Int) < 0 := by omega
  have R0 := Lib.hid (SS0.out (by omega))
  clear SS0
  -- w0 := spec.DutiesOk(toDutyS(aList))
  go_wp2_with fail
  refine (toDutyS_any _ l0 _ (R0.out.below (BW.out.trans (B1.out.mono hs0)))).mono ?_
  rintro e w2 ⟨u2, rfl, o2, hb2⟩
  have S2 := Lib.hid (OwnDuty.sl o2 (by omega))
  have RG2 := Lib.hid (own_range o2)
  have FR2 := Lib.hid (own_freeV o2)
  obtain ⟨D2, k2, rfl⟩ := own_form o2
  have B2 := Lib.hid (B1.out.trans (hb2.mono B1.out.size))
  have hz2 : (w1).heap.size ≤ w2.heap.size := hb2.size
  clear hb2 o2
  go_wp2_with fail
  refine (specDutiesOk _ l0 _ S2.out ).mono ?_
  rw [HR0.out]
  rintro e w3 ⟨rfl, hb3⟩
  have B3 := Lib.hid (B2.out.trans (hb3.mono B2.out.size))
  have t2_3 := Lib.hid (S2.out.below hb3)
  have hz3 : (w2).heap.size ≤ w3.heap.size := hb3.size
  clear hb3 
  -- x0 := toDutyS(aList)
  go_wp2_with fail
  refine (toDutyS_any _ l0 _ (R0.out.below (BW.out.trans (B3.out.mono hs0)))).mono ?_
  rintro e w4 ⟨u4, rfl, o4, hb4⟩
  have S4 := Lib.hid (OwnDuty.sl o4 (by omega))
  have RG4 := Lib.hid (own_range o4)
  have FR4 := Lib.hid (own_freeV o4)
  obtain ⟨D4, k4, rfl⟩ := own_form o4
  have B4 := Lib.hid (B3.out.trans (hb4.mono B3.out.size))
  have hz4 : (w3).heap.size ≤ w4.heap.size := hb4.size
  clear hb4 o4
  -- g0 := impl.DutiesOk(x0)
  go_wp2_with fail
  refine (implDutiesOk _ l0 _ S4.out ).mono ?_
  rw [HR0.out]
  rintro e w5 ⟨rfl, hb5⟩
  have B5 := Lib.hid (B4.out.trans (hb5.mono B4.out.size))
  have x0_5 := Lib.hid (S4.out.below hb5)
  have x0F_5 := Lib.hid (FR4.out.below hb5)
  have hz5 : (w4).heap.size ≤ w5.heap.size := hb5.size
  clear hb5 
  -- if g0 != w0 {
  -- if !eqDutyS(x0, toDutyS(aList)) {
  go_wp2_with fail
  refine (toDutyS_any _ l0 _ (R0.out.below (BW.out.trans (B5.out.mono hs0)))).mono ?_
  rintro e w6 ⟨u6, rfl, o6, hb6⟩
  have S6 := Lib.hid (OwnDuty.sl o6 (by omega))
  have RG6 := Lib.hid (own_range o6)
  have FR6 := Lib.hid (own_freeV o6)
  obtain ⟨D6, k6, rfl⟩ := own_form o6
  have B6 := Lib.hid (B5.out.trans (hb6.mono B5.out.size))
  have x0_6 := Lib.hid (x0_5.out.below hb6)
  have x0F_6 := Lib.hid (x0F_5.out.below hb6)
  have hz6 : (w5).heap.size ≤ w6.heap.size := hb6.size
  clear hb6 o6
  go_wp2_with fail
  refine (eqDutyS_same _ _ l0 _ x0_6.out S6.out).mono ?_
  rintro e w7 ⟨rfl, hb7⟩
  have B7 := Lib.hid (B6.out.trans (hb7.mono B6.out.size))
  have x0_7 := Lib.hid (x0_6.out.below hb7)
  have x0F_7 := Lib.hid (x0F_6.out.below hb7)
  have hz7 : (w6).heap.size ≤ w7.heap.size := hb7.size
  clear hb7
  -- return true
  go_wp2
  go_ret
  exact ⟨rfl, BW.out.trans (B7.out.mono hs0)⟩

set_option maxRecDepth 100000 in
theorem lifted (os : Os) (started : os.Started) (H : Type) (enc : TypeId × Value → H) :
    ReturnsInHanded {} Try.checked os 5 .any (Rows.fnExactDutiesOkSpec.pre6 enc Try.prog Try.f5 Rows.fnExactDutiesOkRow.domain false) (Rows.fnExactDutiesOkSpec.post enc Try.prog Try.f5 false true false false) := by
  refine returnsInHanded_of_change (C := Try.checked) own started (by kernel_rfl) Try.func5
    (ChangeSpec.witness6 (enc := enc) (C := Try.checked) false ⟨#[], #[.slice none 0 0], []⟩ 8 (by kernel_rfl) (by kernel_rfl) (by kernel_rfl) (by kernel_rfl)) ?_
  intro W base args ds gs before hval0 hW _ _
  have hval : ∀ (j : Nat) t v, Try.f5.params[j]? = some t → args[j]? = some v → Value.okWide Try.prog W .any base t v := hval0
  have hW' := hW
  obtain ⟨p, q, hA0, hV, rfl, _, _⟩ := hW
  have hA : DataW.TrodAll enc Try.prog W 0 (fun _ => true) true Try.f5.params.toList args.toList ds p := hA0
  rw [Try.params5] at hA hval
  obtain ⟨v0, vs0, d0, ds0, p0, q0, hargs, rfl, rfl, h0, r0⟩ := trodAll_cons hA
  obtain ⟨rfl, rfl, rfl⟩ := trodAll_nil r0
  obtain rfl : args = #[v0] := by cases args; simp_all
  obtain ⟨A0, c0, l0, rfl, g0⟩ := open_dutys_arg (hval 0 40 v0 rfl rfl) h0
  refine (law A0 c0 l0 W g0).mono fun e W' ⟨he, hb⟩ => ⟨_, he, ?_⟩
  exact law_post laidOut (by kernel_rfl) rfl (by kernel_rfl) Try.underlying4 rfl rfl rfl hW' hb

theorem holds : Rows.FnExactDutiesOkSaid :=
  OpenClaim.holds_of_wide 5 Try.f5 rfl rfl rfl rfl rfl rfl rfl ⟨rfl, rfl, rfl, rfl, rfl⟩ rfl rfl rfl rfl rfl (by kernel_rfl) Try.func5 (by kernel_rfl)
    (of_decide_eq_true (by kernel_rfl)) (by unfold Func.isWrapper; first | (rw [if_pos (by decide +kernel)]; kernel_rfl) | (rw [if_neg (by decide +kernel)]; exact ⟨rfl, rfl⟩))
    (fun os started H enc _ => lifted os started H enc)

end Go.Proofs.Ytfofbnpgjdagkaa.exactDutiesOk
