/- The exact law of Join holds for every list of strings and every string: impl.Join answers as its model, and the arguments read as before. No condition. -/
import Derived.Test.YtpcmiohnhbaciaaRows
import Derived.Test.YtpcmiohnhbaciaaJoined
import Derived.Test.YtpcmiohnhbaciaaJoins
import Derived.Test.YtpcmiohnhbaciaaMarks
import Derived.Test.YtpcmiohnhbaciaaStrsArg
namespace Go.Proofs.Ytpcmiohnhbaciaa.exactJoin
open Go.ChangeShapes Go.WideShapes Go.ChangeAt Go.RowKit
open Go.ChangeMaps (open_string shut_string)

theorem own : ownKnob Try.prog.godebug = none := by kernel_rfl
theorem laidOut : laidOutB Try.prog = true := by kernel_rfl

set_option maxHeartbeats 1000000 in
theorem law (A : Option Addr) (c : Nat) (l : List ByteArray) (sep : ByteArray) (w : World) (hl : l.length ≤ maxLen ∧ (l.length ≤ 1000000000 → SlS w (.slice A l.length c) l) ∧ ∀ x ∈ l, x.size ≤ maxLen) (hs : sep.size ≤ maxLen) :
    Calls Try.prog 7 #[.slice A l.length c, .string sep] w fun e w' => e = .returned (.bool true) ∧ Below w.heap.size w w' := by
  obtain ⟨hlen, hsl, hxs⟩ := hl
  have c0 : Calls Try.prog 20 #[.slice A l.length c, .int .i64 1048576] w (Sized l 1048576 w) := by
    by_cases hb : 1048576 < l.length
    · exact szStringS_long A l.length c l w hb (by unfold maxLen at hlen; omega)
    · exact szStringS_any _ l w (hsl (by omega)) (by omega) (fun x hx => by have := hxs x hx; unfold maxLen at this; omega)
  have C0 := Lib.hid c0
  have HSL := Lib.hid hsl
  clear c0 hxs hsl
  unfold maxLen at hs hlen
  by_cases hbig : 1048576 < sep.size
  · go_enter Try.func7, Try.ntmps7
    go_wp2
    go_ret
    exact ⟨rfl, Below.refl _ _⟩
  · go_enter Try.func7, Try.ntmps7
    go_wp2_with fail
    refine C0.out.mono ?_
    rintro e w1 ⟨r, rfl, rfl, hr⟩
    rcases hr with hr | ⟨hr, hsum⟩
    · go_wp2
      go_ret
      exact ⟨rfl, Below.refl _ _⟩
    · have hr' : ¬ r < 0 := by omega
      have S0 := Lib.hid (HSL.out (by omega))
      have hjz : (joinOf l sep).size ≤ 140737488355328 := by
        have h := joinOf_take_size l sep l.length hsum (by omega)
        rw [List.take_length] at h
        omega
      go_wp2_with fail
      refine (toStringS_any _ l _ S0.out).mono ?_
      rintro e w1 ⟨v1, rfl, ho1, hb1⟩
      have S1 := Lib.hid (own_sls ho1 (by omega))
      have S01 := Lib.hid (S0.out.below hb1)
      clear ho1
      go_wp2_with fail
      refine (specJoin v1 l sep _ S1.out hsum (by omega)).mono ?_
      rintro e w2 ⟨rfl, rfl⟩
      go_wp2_with fail
      refine (toStringS_any _ l _ S01.out).mono ?_
      rintro e w3 ⟨v3, rfl, ho3, hb3⟩
      have S3 := Lib.hid (own_sls ho3 (by omega))
      have S03 := Lib.hid (S01.out.below hb3)
      have B3 : Below w.heap.size w w3 := hb1.trans (hb3.mono hb1.size)
      clear ho3
      go_wp2_with fail
      refine (implJoin v3 l sep _ S3.out hjz).mono ?_
      rintro e w4 ⟨rfl, hb4⟩
      have S34 := Lib.hid (S3.out.below hb4)
      have S04 := Lib.hid (S03.out.below hb4)
      have B4 : Below w.heap.size w w4 := B3.trans (hb4.mono B3.size)
      go_wp2_with fail
      refine (toStringS_any _ l _ S04.out).mono ?_
      rintro e w5 ⟨v5, rfl, ho5, hb5⟩
      have S5 := Lib.hid (own_sls ho5 (by omega))
      have S35 := Lib.hid (S34.out.below hb5)
      have B5 : Below w.heap.size w w5 := B4.trans (hb5.mono B4.size)
      clear ho5
      go_wp2_with fail
      refine (eqStringS_same _ _ l _ S35.out S5.out).mono ?_
      rintro e w6 ⟨rfl, n6, rfl⟩
      go_wp2
      go_ret
      exact ⟨rfl, below_drewN B5 n6⟩

set_option maxRecDepth 100000 in
theorem lifted (os : Os) (started : os.Started) (H : Type) (enc : TypeId × Value → H) :
    ReturnsInHanded {} Try.checked os 7 .any (Rows.fnExactJoinSpec.pre6 enc Try.prog Try.f7 Rows.fnExactJoinRow.domain false) (Rows.fnExactJoinSpec.post enc Try.prog Try.f7 false true false false) := by
  refine returnsInHanded_of_change (C := Try.checked) own started (by kernel_rfl) Try.func7
    (ChangeSpec.witness6 (enc := enc) (C := Try.checked) false ⟨#[], #[.slice none 0 0, .string ⟨#[]⟩], []⟩ 8 (by kernel_rfl) (by kernel_rfl) (by kernel_rfl) (by kernel_rfl)) ?_
  intro W base args ds gs before hval0 hW _ _
  have hval : ∀ (j : Nat) t v, Try.f7.params[j]? = some t → args[j]? = some v → Value.okWide Try.prog W .any base t v := hval0
  have hW' := hW
  obtain ⟨p, q, hA0, hV, rfl, _, _⟩ := hW
  have hA : DataW.TrodAll enc Try.prog W 0 (fun _ => true) true Try.f7.params.toList args.toList ds p := hA0
  rw [Try.params7] at hA hval
  obtain ⟨v0, vs0, d0, ds0, p0, q0, hargs, rfl, rfl, h0, r0⟩ := trodAll_cons hA
  obtain ⟨v1, vs1, d1, ds1, p1, q1, rfl, rfl, rfl, h1, r1⟩ := trodAll_cons r0
  obtain ⟨rfl, rfl, rfl⟩ := trodAll_nil r1
  obtain rfl : args = #[v0, v1] := by cases args; simp_all
  obtain ⟨A0, c0, a0, rfl, g0⟩ := open_strs_arg (hval 0 23 v0 rfl rfl) h0
  obtain ⟨a1, rfl, rfl, rfl, g1⟩ := open_string Try.underlying9 (hval 1 9 v1 rfl rfl) h1
  refine (law A0 c0 a0 a1 W g0 g1).mono fun e W' ⟨he, hb⟩ => ⟨_, he, ?_⟩
  exact law_post laidOut (by kernel_rfl) rfl (by kernel_rfl) Try.underlying4 rfl rfl rfl hW' hb

theorem holds : Rows.FnExactJoinSaid :=
  OpenClaim.holds_of_wide 7 Try.f7 rfl rfl rfl rfl rfl rfl rfl ⟨rfl, rfl, rfl, rfl, rfl⟩ rfl rfl rfl rfl rfl (by kernel_rfl) Try.func7 (by kernel_rfl)
    (of_decide_eq_true (by kernel_rfl)) (by unfold Func.isWrapper; first | (rw [if_pos (by decide +kernel)]; kernel_rfl) | (rw [if_neg (by decide +kernel)]; exact ⟨rfl, rfl⟩))
    (fun os started H enc _ => lifted os started H enc)

end Go.Proofs.Ytpcmiohnhbaciaa.exactJoin
