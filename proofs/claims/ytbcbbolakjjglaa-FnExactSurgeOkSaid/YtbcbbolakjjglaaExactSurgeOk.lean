/- The exact law of SurgeOk holds for every surge: impl.SurgeOk answers as its model. No condition. -/
import Derived.Test.YtbcbbolakjjglaaRows
import Derived.Test.YtbcbbolakjjglaaSurgeOk
import Derived.Test.YtbcbbolakjjglaaKit
namespace Go.Proofs.Ytbcbbolakjjglaa.exactSurgeOk
open Go.ChangeShapes Go.WideShapes Go.ChangeAt Go.RowKit
set_option maxRecDepth 100000

theorem own : ownKnob Try.prog.godebug = none := by kernel_rfl
theorem laidOut : laidOutB Try.prog = true := by kernel_rfl

theorem law (d : SurgeD) (w : World) (_ : d.wf) :
    Calls Try.prog 4 #[d.val] w fun e w' => e = .returned (.bool true) ∧ Below w.heap.size w w' := by
  obtain ⟨a, p, q⟩ := d
  obtain ⟨b, hb⟩ : ∃ b, surgeB ⟨a, p, q⟩ = b := ⟨_, rfl⟩
  have HB := Lib.hid hb
  clear hb
  go_enter Try.func4, Try.ntmps4
  go_wp2_with fail
  refine (toSurge_any a p q _).mono ?_
  rintro e w1 ⟨rfl, hb1⟩
  go_wp2_with fail
  refine (specSurgeOk ⟨a, p, q⟩ _).mono ?_
  rintro e w2 ⟨rfl, hb2⟩
  rw [HB.out]
  have B2 := hb1.trans (hb2.mono hb1.size)
  obtain ⟨hc, hf⟩ := bcell B2
  clear hb1 hb2
  go_wp2_with fail
  refine (toSurge_any a p q _).mono ?_
  rintro e w3 ⟨rfl, hb3⟩
  go_wp2_with fail
  refine (implSurgeOk ⟨a, p, q⟩ _).mono ?_
  rintro e w4 ⟨rfl, hb4⟩
  rw [HB.out]
  have B4 := B2.trans ((hb3.trans (hb4.mono hb3.size)).mono B2.size)
  have B := Lib.hid ((Joins.below_alloc1 w _).trans (B4.mono (by simp)))
  clear hb3 hb4 B2 B4
  cases b
  all_goals
    go_wp2
    go_ret
    exact ⟨rfl, B.out⟩

set_option maxRecDepth 100000 in
theorem lifted (os : Os) (started : os.Started) (H : Type) (enc : TypeId × Value → H) :
    ReturnsInHanded {} Try.checked os 4 .any (Rows.fnExactSurgeOkSpec.pre6 enc Try.prog Try.f4 Rows.fnExactSurgeOkRow.domain false) (Rows.fnExactSurgeOkSpec.post enc Try.prog Try.f4 false true false false) := by
  refine returnsInHanded_of_change (C := Try.checked) own started (by kernel_rfl) Try.func4
    (ChangeSpec.witness6 (enc := enc) (C := Try.checked) false ⟨#[], #[.agg #[.int .i64 0, .int .i64 0, .int .i64 0]], []⟩ 8 (by kernel_rfl) (by kernel_rfl) (by kernel_rfl) (by kernel_rfl)) ?_
  intro W base args ds gs before hval0 hW _ _
  have hval : ∀ (j : Nat) t v, Try.f4.params[j]? = some t → args[j]? = some v → Value.okWide Try.prog W .any base t v := hval0
  have hW' := hW
  obtain ⟨p, q, hA0, hV, rfl, _, _⟩ := hW
  have hA : DataW.TrodAll enc Try.prog W 0 (fun _ => true) true Try.f4.params.toList args.toList ds p := hA0
  rw [Try.params4] at hA hval
  obtain ⟨v0, vs0, d0, ds0, p0, q0, hargs, rfl, rfl, h0, r0⟩ := trodAll_cons hA
  obtain ⟨rfl, rfl, rfl⟩ := trodAll_nil r0
  obtain rfl : args = #[v0] := by cases args; simp_all
  obtain ⟨d0, rfl, g0⟩ := open_surge_arg (hval 0 42 v0 rfl rfl) h0
  refine (law d0 W g0).mono fun e W' ⟨he, hb⟩ => ⟨_, he, ?_⟩
  exact law_post laidOut (by kernel_rfl) rfl (by kernel_rfl) Try.underlying4 rfl rfl rfl hW' hb

theorem holds : Rows.FnExactSurgeOkSaid :=
  OpenClaim.holds_of_wide 4 Try.f4 rfl rfl rfl rfl rfl rfl rfl ⟨rfl, rfl, rfl, rfl, rfl⟩ rfl rfl rfl rfl rfl (by kernel_rfl) Try.func4 (by kernel_rfl)
    (of_decide_eq_true (by kernel_rfl)) (by unfold Func.isWrapper; first | (rw [if_pos (by decide +kernel)]; kernel_rfl) | (rw [if_neg (by decide +kernel)]; exact ⟨rfl, rfl⟩))
    (fun os started H enc _ => lifted os started H enc)

end Go.Proofs.Ytbcbbolakjjglaa.exactSurgeOk
