/- The exact law of SameTides holds for every two tides: impl.SameTides answers as its model, and the tides read as before. No condition. -/
import Derived.Test.YtflomhldeecojaaRows
import Derived.Test.YtflomhldeecojaaTideArg
import Derived.Test.YtflomhldeecojaaTideBox
import Derived.Test.YtflomhldeecojaaSame
namespace Go.Proofs.Ytflomhldeecojaa.exactSameTides
open Go.ChangeShapes Go.WideShapes Go.ChangeAt Go.RowKit

theorem own : ownKnob Try.prog.godebug = none := by kernel_rfl
theorem laidOut : laidOutB Try.prog = true := by kernel_rfl

/-- Two variables that hold tides hold what they held, and nothing below W has changed. -/
def Both (W : World) (b b' : Nat) (m m' : Int) (v v' : Value) (w' : World) : Prop :=
  w'.cell? ⟨b, 0, none⟩ = some (.int .i64 m) ∧ w'.cell? ⟨b, 1, none⟩ = some v ∧ w'.cell? ⟨b', 0, none⟩ = some (.int .i64 m') ∧ w'.cell? ⟨b', 1, none⟩ = some v' ∧ Hid (Below W.heap.size W w')
theorem Both.of {W : World} {b b' : Nat} {m m' : Int} {v v' : Value} {l l' : List PartD} (hT : TBox W b m v l) (hX : TBox W b' m' v' l') {w' : World} (hb : Below W.heap.size W w') : Both W b b' m m' v v' w' :=
  ⟨(hT.below hb).1, (hT.below hb).2.1, (hX.below hb).1, (hX.below hb).2.1, Lib.hid hb⟩

theorem to_keep {W : World} {b b' : Nat} {m m' : Int} {v v' : Value} {l l' : List PartD} (hT : TBox W b m v l) (hX : TBox W b' m' v' l') (w0 : World) (hb : Hid (Below W.heap.size W w0)) :
    Calls Try.prog 28 #[.agg #[.int .i64 m, v]] w0 fun e w1 => ∃ A c, e = .returned (.agg #[.int .i64 m, .slice A l.length c]) ∧ Hid (SlP w1 (.slice A l.length c) l) ∧ Hid (Below w0.heap.size w0 w1) ∧ Both W b b' m m' v v' w1 := by
  refine (toTide_any m v l w0 (hT.below hb.out).2.2).mono ?_
  rintro e w1 ⟨v, rfl, hs, hb1⟩
  obtain ⟨A, c, rfl⟩ := hs.at
  exact ⟨A, c, rfl, Lib.hid hs, Lib.hid hb1, Both.of hT hX (hb.out.trans (hb1.mono hb.out.size))⟩

theorem same_keep {W : World} {b b' : Nat} {m m' : Int} {v v' : Value} {l l' : List PartD} (hT : TBox W b m v l) (hX : TBox W b' m' v' l') (w0 : World) (va vb : Value) (ha : Hid (SlP w0 va l)) (hvb : Hid (SlP w0 vb l')) (hb : Hid (Below W.heap.size W w0)) :
    Calls Try.prog 34 #[.agg #[.int .i64 m, va], .agg #[.int .i64 m', vb]] w0 fun e w1 => e = .returned (.bool (sameT m m' l l')) ∧ Both W b b' m m' v v' w1 := by
  refine (specSameTides m m' va vb l l' w0 ha.out hvb.out).mono ?_
  rintro e w1 ⟨rfl, hb1⟩
  exact ⟨rfl, Both.of hT hX (hb.out.trans (hb1.mono hb.out.size))⟩

set_option maxHeartbeats 2000000 in
theorem law (m : Int) (A : Option Addr) (c : Nat) (l : List PartD) (m' : Int) (A' : Option Addr) (c' : Nat) (l' : List PartD) (w : World) (hin : TideIn w m A c l) (hin' : TideIn w m' A' c' l') :
    Calls Try.prog 12 #[.agg #[.int .i64 m, .slice A l.length c], .agg #[.int .i64 m', .slice A' l'.length c']] w fun e w' => e = .returned (.bool true) ∧ Below w.heap.size w w' := by
  obtain ⟨_, hmax, hsl, _⟩ := hin
  obtain ⟨_, hmax', hsl', _⟩ := hin'
  have HSL := Lib.hid hsl
  have HSL' := Lib.hid hsl'
  clear hsl hsl'
  unfold maxLen at hmax hmax'
  have B0 := Lib.hid (Joins.below_alloc2 w (.cells #[.int .i64 m, .slice A l.length c] 45) (.cells #[.int .i64 m', .slice A' l'.length c'] 45))
  by_cases hbig : (1048576 : Int) < (l.length : Int)
  · have C := fun W => Lib.hid (szTide_any m A l.length c W (by omega) 1048576 (by omega) (by omega))
    rw [if_pos hbig] at C
    go_enter Try.func12, Try.ntmps12
    go_wp2_with fail
    refine (C _).out.mono ?_
    rintro e w1 ⟨rfl, hb1⟩
    go_wp2
    go_ret
    exact ⟨rfl, B0.out.trans (hb1.mono B0.out.size)⟩
  · have C := fun W => Lib.hid (szTide_any m A l.length c W (by omega) 1048576 (by omega) (by omega))
    rw [if_neg hbig] at C
    have S0 := Lib.hid (HSL.out (by omega))
    by_cases hbig' : (1048576 : Int) - (l.length : Int) < (l'.length : Int)
    · have C' := fun W => Lib.hid (szTide_any m' A' l'.length c' W (by omega) (1048576 - (l.length : Int)) (by omega) (by omega))
      rw [if_pos hbig'] at C'
      clear HSL HSL'
      go_enter Try.func12, Try.ntmps12
      go_wp2_with fail
      refine (C _).out.mono ?_
      rintro e w1 ⟨rfl, hb1⟩
      obtain ⟨hc, hf⟩ := bcell hb1
      have B1 := Lib.hid (B0.out.trans (hb1.mono B0.out.size))
      clear hb1
      go_wp2_with fail
      refine (C' _).out.mono ?_
      rintro e w2 ⟨rfl, hb2⟩
      have B2 := Lib.hid (B1.out.trans (hb2.mono B1.out.size))
      clear hb2 hc hf
      go_wp2
      go_ret
      exact ⟨rfl, B2.out⟩
    · have C' := fun W => Lib.hid (szTide_any m' A' l'.length c' W (by omega) (1048576 - (l.length : Int)) (by omega) (by omega))
      rw [if_neg hbig'] at C'
      have S0' := Lib.hid (HSL'.out (by omega))
      obtain ⟨b, hb⟩ : ∃ b, sameT m m' l l' = b := ⟨_, rfl⟩
      have HB := Lib.hid hb
      have T00 := TBox.new 45 (m := m) S0.out
      have T0 := Lib.hid (T00.below (Joins.below_alloc1 _ (.cells #[.int .i64 m', .slice A' l'.length c'] 45)))
      have U0 := Lib.hid (TBox.new 45 (m := m') (S0'.out.below (Joins.below_alloc1 w (.cells #[.int .i64 m, .slice A l.length c] 45))))
      clear HSL HSL' T00 hb
      have hsz : Hid ((w.alloc (.cells #[.int .i64 m, .slice A l.length c] 45)).heap.size = w.heap.size + 1) := Lib.hid (by simp)
      rw [hsz.out] at U0
      go_enter Try.func12, Try.ntmps12
      go_wp2_with fail
      refine (C _).out.mono ?_
      rintro e w1 ⟨rfl, hb1⟩
      have T1 := Lib.hid (T0.out.below hb1)
      have U1 := Lib.hid (U0.out.below hb1)
      have B1 := Lib.hid (B0.out.trans (hb1.mono B0.out.size))
      obtain ⟨c0, c1, _⟩ := U1.out
      clear hb1
      go_wp2_with fail
      refine (C' _).out.mono ?_
      rintro e w2 ⟨rfl, hb2⟩
      have T2 := Lib.hid (T1.out.below hb2)
      have U2 := Lib.hid (U1.out.below hb2)
      have B2 := Lib.hid (B1.out.trans (hb2.mono B1.out.size))
      clear hb2 c0 c1
      obtain ⟨c0, c1, _⟩ := T2.out
      obtain ⟨d0, d1, _⟩ := U2.out
      have hD := Lib.hid ((Below.refl w2.heap.size w2).drew)
      go_wp2
      go_region_held3 (fun w' => w'.cell? ⟨w.heap.size, 0, none⟩ = some (.int .i64 m) ∧ w'.cell? ⟨w.heap.size, 1, none⟩ = some (.slice A l.length c) ∧ w'.cell? ⟨w.heap.size + 1, 0, none⟩ = some (.int .i64 m') ∧ w'.cell? ⟨w.heap.size + 1, 1, none⟩ = some (.slice A' l'.length c') ∧ Hid (Below w2.heap.size w2 w')) (go_keep)
        (first
          | (go_at_call 28; (with_reducible refine (to_keep T2.out U2.out _ ?_).mono ?_); (simp [*]); rintro e w3 ⟨A3, k3, rfl, s3, t3, y0, y1, y2, y3, y4⟩)
          | (go_at_call 28; (with_reducible refine (to_keep U2.out T2.out _ ?_).mono ?_); (simp [*]); rintro e w4 ⟨A4, k4, rfl, s4, t4, z0, z1, z2, z3, z4⟩)
          | (go_at_call 34; (refine (same_keep T2.out U2.out _ _ _ ?_ ?_ ?_).mono ?_); (exact Lib.hid (s3.out.below t4.out)); (exact s4); (simp [*]); rintro e w5 ⟨rfl, x0, x1, x2, x3, x4⟩))
      rw [HB.out]
      have T5 := Lib.hid (T2.out.below x4.out)
      have U5 := Lib.hid (U2.out.below x4.out)
      have B5 := Lib.hid (B2.out.trans (x4.out.mono B2.out.size))
      clear c0 c1 d0 d1 hD
      go_wp2_with fail
      refine (toTide_any m _ l w5 T5.out.2.2).mono ?_
      rintro e w6 ⟨v6, rfl, s6, hb6⟩
      have T6 := T5.out.below hb6
      have U6 := U5.out.below hb6
      have B6 := Lib.hid (B5.out.trans (hb6.mono B5.out.size))
      obtain ⟨A6, k6, rfl⟩ := s6.at
      have hal := Joins.below_alloc1 w6 (.cells #[.int .i64 m, .slice A6 l.length k6] 28)
      have X6 := Lib.hid (TBox.new 28 (m := m) s6)
      have T6' := Lib.hid (T6.below hal)
      have U6' := Lib.hid (U6.below hal)
      have B6' := Lib.hid (B6.out.trans (hal.mono B6.out.size))
      clear hb6 T6 U6 B6 hal s6
      obtain ⟨c0, c1, _⟩ := U6'.out
      go_wp2_with fail
      refine (toTide_any m' _ l' _ U6'.out.2.2).mono ?_
      rintro e w7 ⟨v7, rfl, s7, hb7⟩
      have T7 := T6'.out.below hb7
      have U7 := U6'.out.below hb7
      have X7 := X6.out.below hb7
      have B7 := Lib.hid (B6'.out.trans (hb7.mono B6'.out.size))
      obtain ⟨A7, k7, rfl⟩ := s7.at
      have hal := Joins.below_alloc1 w7 (.cells #[.int .i64 m', .slice A7 l'.length k7] 28)
      have Y7' := Lib.hid (TBox.new 28 (m := m') s7)
      have T7' := Lib.hid (T7.below hal)
      have U7' := Lib.hid (U7.below hal)
      have X7' := Lib.hid (X7.below hal)
      have B7' := Lib.hid (B7.out.trans (hal.mono B7.out.size))
      clear hb7 T7 U7 X7 B7 hal s7 c0 c1
      obtain ⟨c0, c1, _⟩ := X7'.out
      obtain ⟨d0, d1, _⟩ := Y7'.out
      go_wp2_with fail
      refine (implSameTides m m' _ _ l l' _ X7'.out.2.2 Y7'.out.2.2).mono ?_
      rintro e w8 ⟨rfl, hb8⟩
      rw [HB.out]
      have T8 := Lib.hid (T7'.out.below hb8)
      have U8 := Lib.hid (U7'.out.below hb8)
      have X8 := Lib.hid (X7'.out.below hb8)
      have Y8 := Lib.hid (Y7'.out.below hb8)
      have B8 := Lib.hid (B7'.out.trans (hb8.mono B7'.out.size))
      clear hb8 c0 c1 d0 d1
      have hD := Lib.hid ((Below.refl w8.heap.size w8).drew)
      obtain ⟨c0, c1, _⟩ := T8.out
      obtain ⟨d0, d1, _⟩ := X8.out
      cases b
      all_goals
        go_wp2
        go_region_held3 (fun w' => w'.cell? ⟨w.heap.size, 0, none⟩ = some (.int .i64 m) ∧ w'.cell? ⟨w.heap.size, 1, none⟩ = some (.slice A l.length c) ∧ w'.cell? ⟨w6.heap.size, 0, none⟩ = some (.int .i64 m) ∧ w'.cell? ⟨w6.heap.size, 1, none⟩ = some (.slice A6 l.length k6) ∧ Hid (Below w8.heap.size w8 w')) (go_keep)
          (first
            | (go_at_call 28; refine (toTide_keep T8.out X8.out _ ?_).mono ?_; (simp [*]); rintro e w9 ⟨A9, k9, rfl, s9, y0, y1, y2, y3, y4⟩)
            | (go_at_call 29; refine (eqTide_keep T8.out X8.out _ _ ?_ ?_).mono ?_; (simp [*]); (simp [*]); rintro e w10 ⟨rfl, z0, z1, z2, z3, z4⟩))
        all_goals
          have U10 := Lib.hid (U8.out.below z4.out)
          have Y10 := Lib.hid (Y8.out.below z4.out)
          have B10 := Lib.hid (B8.out.trans (z4.out.mono B8.out.size))
          clear c0 c1 d0 d1 hD z0 z1 z2 z3 z4
          have hD := Lib.hid ((Below.refl w10.heap.size w10).drew)
          obtain ⟨c0, c1, _⟩ := U10.out
          obtain ⟨d0, d1, _⟩ := Y10.out
          go_wp2
          go_region_held3 (fun w' => w'.cell? ⟨w.heap.size + 1, 0, none⟩ = some (.int .i64 m') ∧ w'.cell? ⟨w.heap.size + 1, 1, none⟩ = some (.slice A' l'.length c') ∧ w'.cell? ⟨w7.heap.size, 0, none⟩ = some (.int .i64 m') ∧ w'.cell? ⟨w7.heap.size, 1, none⟩ = some (.slice A7 l'.length k7) ∧ Hid (Below w10.heap.size w10 w')) (go_keep)
            (first
              | (go_at_call 28; refine (toTide_keep U10.out Y10.out _ ?_).mono ?_; (simp [*]); rintro e w11 ⟨A11, k11, rfl, s11, y0, y1, y2, y3, y4⟩)
              | (go_at_call 29; refine (eqTide_keep U10.out Y10.out _ _ ?_ ?_).mono ?_; (simp [*]); (simp [*]); rintro e w12 ⟨rfl, z0, z1, z2, z3, z4⟩))
          all_goals
            go_wp2
            go_ret
            exact ⟨rfl, B10.out.trans (z4.out.mono B10.out.size)⟩

set_option maxRecDepth 100000 in
theorem lifted (os : Os) (started : os.Started) (H : Type) (enc : TypeId × Value → H) :
    ReturnsInHanded {} Try.checked os 12 .any (Rows.fnExactSameTidesSpec.pre6 enc Try.prog Try.f12 Rows.fnExactSameTidesRow.domain false) (Rows.fnExactSameTidesSpec.post enc Try.prog Try.f12 false true false false) := by
  refine returnsInHanded_of_change (C := Try.checked) own started (by kernel_rfl) Try.func12
    (ChangeSpec.witness6 (enc := enc) (C := Try.checked) false ⟨#[], #[.agg #[.int .i64 0, .slice none 0 0], .agg #[.int .i64 0, .slice none 0 0]], []⟩ 8 (by kernel_rfl) (by kernel_rfl) (by kernel_rfl) (by kernel_rfl)) ?_
  intro W base args ds gs before hval0 hW _ _
  have hval : ∀ (j : Nat) t v, Try.f12.params[j]? = some t → args[j]? = some v → Value.okWide Try.prog W .any base t v := hval0
  have hW' := hW
  obtain ⟨p, q, hA0, hV, rfl, _, _⟩ := hW
  have hA : DataW.TrodAll enc Try.prog W 0 (fun _ => true) true Try.f12.params.toList args.toList ds p := hA0
  rw [Try.params12] at hA hval
  obtain ⟨v0, vs0, d0, ds0, p0, q0, hargs, rfl, rfl, h0, r0⟩ := trodAll_cons hA
  obtain ⟨v1, vs1, d1, ds1, p1, q1, rfl, rfl, rfl, h1, r1⟩ := trodAll_cons r0
  obtain ⟨rfl, rfl, rfl⟩ := trodAll_nil r1
  obtain rfl : args = #[v0, v1] := by cases args; simp_all
  obtain ⟨m0, A0, c0, l0, rfl, g0⟩ := open_tide_arg (hval 0 45 v0 rfl rfl) h0
  obtain ⟨m1, A1, c1, l1, rfl, g1⟩ := open_tide_arg (hval 1 45 v1 rfl rfl) h1
  refine (law m0 A0 c0 l0 m1 A1 c1 l1 W g0 g1).mono fun e W' ⟨he, hb⟩ => ⟨_, he, ?_⟩
  exact law_post laidOut (by kernel_rfl) rfl (by kernel_rfl) Try.underlying4 rfl rfl rfl hW' hb

theorem holds : Rows.FnExactSameTidesSaid :=
  OpenClaim.holds_of_wide 12 Try.f12 rfl rfl rfl rfl rfl rfl rfl ⟨rfl, rfl, rfl, rfl, rfl⟩ rfl rfl rfl rfl rfl (by kernel_rfl) Try.func12 (by kernel_rfl)
    (of_decide_eq_true (by kernel_rfl)) (by unfold Func.isWrapper; first | (rw [if_pos (by decide +kernel)]; kernel_rfl) | (rw [if_neg (by decide +kernel)]; exact ⟨rfl, rfl⟩))
    (fun os started H enc _ => lifted os started H enc)

end Go.Proofs.Ytflomhldeecojaa.exactSameTides
