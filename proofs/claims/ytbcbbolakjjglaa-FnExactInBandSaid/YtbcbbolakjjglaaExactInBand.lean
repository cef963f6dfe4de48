/- The exact law of InBand holds for every forecast and all integers: impl.InBand answers as its model, and the forecast reads as before. No condition. -/
import Derived.Test.YtbcbbolakjjglaaRows
import Derived.Test.YtbcbbolakjjglaaFcArg
import Derived.Test.YtbcbbolakjjglaaBandAt
namespace Go.Proofs.Ytbcbbolakjjglaa.exactInBand
open Go.ChangeShapes Go.WideShapes Go.ChangeAt Go.RowKit
set_option maxRecDepth 100000

theorem own : ownKnob Try.prog.godebug = none := by kernel_rfl
theorem laidOut : laidOutB Try.prog = true := by kernel_rfl

set_option maxHeartbeats 1000000 in
theorem law (m : Int) (A : Option Addr) (c : Nat) (l : List PartD) (A' : Option Addr) (c' : Nat) (s : List SurgeD) (t0 t1 : Int) (w : World) (hin : FcIn w m A c l A' c' s) (_ : (Lit.int .i64 t0).wf = true) (_ : (Lit.int .i64 t1).wf = true) :
    Calls Try.prog 9 #[.agg #[.int .i64 m, .slice A l.length c, .slice A' s.length c'], .int .i64 t0, .int .i64 t1] w fun e w' => e = .returned (.bool true) ∧ Below w.heap.size w w' := by
  obtain ⟨_, hmax, hmax', hsl, hsl', _, _⟩ := hin
  have HSL := Lib.hid hsl
  have HSL' := Lib.hid hsl'
  clear hsl hsl'
  unfold maxLen at hmax hmax'
  have C := fun W => Lib.hid (szForecast_any m A A' l.length s.length c c' W (by omega) (by omega))
  by_cases hbig : (1048576 : Int) < (l.length : Int) ∨ 1048576 - (l.length : Int) < (s.length : Int)
  · have e : leftI l.length s.length = -1 := by
      unfold leftI
      rcases hbig with h | h
      · rw [if_pos h]
      · split
        · rfl
        · rfl
    rw [e] at C
    clear e hbig
    go_enter Try.func9, Try.ntmps9
    go_wp2_with fail
    refine (C _).out.mono ?_
    rintro e w1 ⟨rfl, hb1⟩
    go_wp2
    go_ret
    exact ⟨rfl, (Joins.below_alloc1 w _).trans (hb1.mono (by simp))⟩
  · have e : leftI l.length s.length = 1048576 - (l.length : Int) - (s.length : Int) := by
      unfold leftI
      rw [if_neg (by omega), if_neg (by omega)]
    rw [e] at C
    have z1 : (l.length : Int) ≤ 1048576 := by omega
    have z2 : (s.length : Int) ≤ 1048576 - (l.length : Int) := by omega
    have S0 := Lib.hid (HSL.out (by omega))
    have S0' := Lib.hid (HSL'.out (by omega))
    clear e hbig
    obtain ⟨b, hb⟩ : ∃ b, bandB m l s t0 t1 = b := ⟨_, rfl⟩
    have HB := Lib.hid hb
    clear hb
    have T0 := Lib.hid (FBox.new 52 (m := m) S0.out S0'.out)
    have B0 := Lib.hid (Joins.below_alloc1 w (.cells #[.int .i64 m, .slice A l.length c, .slice A' s.length c'] 52))
    clear HSL HSL'
    go_enter Try.func9, Try.ntmps9
    go_wp2_with fail
    refine (C _).out.mono ?_
    rintro e w1 ⟨rfl, hb1⟩
    have T1 := Lib.hid (T0.out.below hb1)
    have B1 := Lib.hid (B0.out.trans (hb1.mono (by simp)))
    obtain ⟨c0, c1, c2, _⟩ := T1.out
    clear hb1 C
    go_wp2_with fail
    refine (toForecast_any m _ _ l s w1 T1.out.2.2.2.1 T1.out.2.2.2.2).mono ?_
    intro e w2 hN
    obtain ⟨A2, k2, D2, j2, rfl, s2, s2', hb2⟩ := hN.sl (by omega) (by omega)
    clear hN
    have S2 := Lib.hid s2
    have S2' := Lib.hid s2'
    have T2 := Lib.hid (T1.out.below hb2)
    have B2 := Lib.hid (B1.out.trans (hb2.mono B1.out.size))
    clear hb2 c0 c1 c2 s2 s2'
    go_wp2_with fail
    refine (specInBand m _ _ l s t0 t1 w2 S2.out S2'.out).mono ?_
    rintro e w3 ⟨rfl, hb3⟩
    rw [HB.out]
    have T3 := Lib.hid (T2.out.below hb3)
    have B3 := Lib.hid (B2.out.trans (hb3.mono B2.out.size))
    obtain ⟨c0, c1, c2, _⟩ := T3.out
    clear hb3
    go_wp2_with fail
    refine (toForecast_any m _ _ l s w3 T3.out.2.2.2.1 T3.out.2.2.2.2).mono ?_
    intro e w4 hN
    obtain ⟨A4, k4, D4, j4, rfl, s4, s4', hb4⟩ := hN.sl (by omega) (by omega)
    clear hN
    have S4 := Lib.hid s4
    have S4' := Lib.hid s4'
    have T4 := Lib.hid (T3.out.below hb4)
    have B4 := Lib.hid (B3.out.trans (hb4.mono B3.out.size))
    have X4 := Lib.hid (FBox.new 28 (m := m) S4.out S4'.out)
    have hb5 := Joins.below_alloc1 w4 (.cells #[.int .i64 m, .slice A4 l.length k4, .slice D4 s.length j4] 28)
    have T5 := Lib.hid (T4.out.below hb5)
    have B5 := Lib.hid (B4.out.trans (hb5.mono B4.out.size))
    clear hb4 c0 c1 c2 s4 s4' hb5
    go_wp2_with fail
    refine (implInBand m _ _ l s t0 t1 _ X4.out.2.2.2.1 X4.out.2.2.2.2).mono ?_
    rintro e w6 ⟨rfl, hb6⟩
    rw [HB.out]
    have T6 := Lib.hid (T5.out.below hb6)
    have X6 := Lib.hid (X4.out.below hb6)
    have B6 := Lib.hid (B5.out.trans (hb6.mono B5.out.size))
    have hD := Lib.hid ((Below.refl w6.heap.size w6).drew)
    obtain ⟨p0, p1, p2, _⟩ := T6.out
    obtain ⟨x0, x1, x2, _⟩ := X6.out
    clear hb6
    cases b
    all_goals
      go_wp2
      go_region_held3 (fun w' => w'.cell? ⟨w.heap.size, 0, none⟩ = some (.int .i64 m) ∧ w'.cell? ⟨w.heap.size, 1, none⟩ = some (.slice A l.length c) ∧ w'.cell? ⟨w.heap.size, 2, none⟩ = some (.slice A' s.length c') ∧ w'.cell? ⟨w4.heap.size, 0, none⟩ = some (.int .i64 m) ∧ w'.cell? ⟨w4.heap.size, 1, none⟩ = some (.slice A4 l.length k4) ∧ w'.cell? ⟨w4.heap.size, 2, none⟩ = some (.slice D4 s.length j4) ∧ Hid (Below w6.heap.size w6 w')) (go_keep)
        (first
          | (go_at_call 29; refine (toForecast_keep T6.out X6.out _ ?_).mono ?_; (simp [*]); rintro e w7 ⟨A7, k7, D7, j7, rfl, s7, s7', y0, y1, y2, y3, y4, y5, y6⟩)
          | (go_at_call 30; refine (eqForecast_keep T6.out X6.out _ _ _ ?_ ?_ ?_).mono ?_; (simp [*]); (simp [*]); (simp [*]); rintro e w8 ⟨rfl, z0, z1, z2, z3, z4, z5, z6⟩))
      all_goals
        go_wp2
        go_ret
        exact ⟨rfl, B6.out.trans (z6.out.mono B6.out.size)⟩

set_option maxRecDepth 100000 in
theorem lifted (os : Os) (started : os.Started) (H : Type) (enc : TypeId × Value → H) :
    ReturnsInHanded {} Try.checked os 9 .any (Rows.fnExactInBandSpec.pre6 enc Try.prog Try.f9 Rows.fnExactInBandRow.domain false) (Rows.fnExactInBandSpec.post enc Try.prog Try.f9 false true false false) := by
  refine returnsInHanded_of_change (C := Try.checked) own started (by kernel_rfl) Try.func9
    (ChangeSpec.witness6 (enc := enc) (C := Try.checked) false ⟨#[], #[.agg #[.int .i64 0, .slice none 0 0, .slice none 0 0], .int .i64 0, .int .i64 0], []⟩ 8 (by kernel_rfl) (by kernel_rfl) (by kernel_rfl) (by kernel_rfl)) ?_
  intro W base args ds gs before hval0 hW _ _
  have hval : ∀ (j : Nat) t v, Try.f9.params[j]? = some t → args[j]? = some v → Value.okWide Try.prog W .any base t v := hval0
  have hW' := hW
  obtain ⟨p, q, hA0, hV, rfl, _, _⟩ := hW
  have hA : DataW.TrodAll enc Try.prog W 0 (fun _ => true) true Try.f9.params.toList args.toList ds p := hA0
  rw [Try.params9] at hA hval
  obtain ⟨v0, vs0, d0, ds0, p0, q0, hargs, rfl, rfl, h0, r0⟩ := trodAll_cons hA
  obtain ⟨v1, vs1, d1, ds1, p1, q1, rfl, rfl, rfl, h1, r1⟩ := trodAll_cons r0
  obtain ⟨v2, vs2, d2, ds2, p2, q2, rfl, rfl, rfl, h2, r2⟩ := trodAll_cons r1
  obtain ⟨rfl, rfl, rfl⟩ := trodAll_nil r2
  obtain rfl : args = #[v0, v1, v2] := by cases args; simp_all
  obtain ⟨m0, A0, c0, l0, D0, e0, s0, rfl, g0⟩ := open_fc_arg (hval 0 52 v0 rfl rfl) h0
  obtain ⟨a1, rfl, rfl, rfl, g1⟩ := open_int Try.underlying3 (hval 1 3 v1 rfl rfl) h1
  obtain ⟨a2, rfl, rfl, rfl, g2⟩ := open_int Try.underlying3 (hval 2 3 v2 rfl rfl) h2
  refine (law m0 A0 c0 l0 D0 e0 s0 a1 a2 W g0 g1 g2).mono fun e W' ⟨he, hb⟩ => ⟨_, he, ?_⟩
  exact law_post laidOut (by kernel_rfl) rfl (by kernel_rfl) Try.underlying4 rfl rfl rfl hW' hb

theorem holds : Rows.FnExactInBandSaid :=
  OpenClaim.holds_of_wide 9 Try.f9 rfl rfl rfl rfl rfl rfl rfl ⟨rfl, rfl, rfl, rfl, rfl⟩ rfl rfl rfl rfl rfl (by kernel_rfl) Try.func9 (by kernel_rfl)
    (of_decide_eq_true (by kernel_rfl)) (by unfold Func.isWrapper; first | (rw [if_pos (by decide +kernel)]; kernel_rfl) | (rw [if_neg (by decide +kernel)]; exact ⟨rfl, rfl⟩))
    (fun os started H enc _ => lifted os started H enc)

end Go.Proofs.Ytbcbbolakjjglaa.exactInBand
