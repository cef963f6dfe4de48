/- NarrowerBand of the model: contract. -/
import Derived.Test.YtbcbbolakjjglaaNarrow
namespace Go.Proofs.Ytbcbbolakjjglaa
open Go.RowKit
set_option maxRecDepth 100000

set_option maxHeartbeats 8000000 in
theorem specNarrowerBand (m : Int) (v u : Value) (l : List PartD) (s : List SurgeD) (m' : Int) (v' u' : Value) (l' : List PartD) (s' : List SurgeD) (w : World) (h : SlP w v l) (hs : SlSurge w u s) (h' : SlP w v' l') (hs' : SlSurge w u' s') :
    Calls Try.prog 38 #[.agg #[.int .i64 m, v, u], .agg #[.int .i64 m', v', u']] w fun e w' => e = .returned (.bool (narB m l s m' l' s')) ∧ Below w.heap.size w w' := by
  have H := Lib.hid h
  have HS := Lib.hid hs
  have H' := Lib.hid h'
  have HS' := Lib.hid hs'
  obtain ⟨A, c, rfl⟩ := h.at
  obtain ⟨A', c', rfl⟩ := h'.at
  obtain ⟨D, d, rfl⟩ := hs.at
  obtain ⟨D', d', rfl⟩ := hs'.at
  have F0 := FBox.new 28 (m := m) H.out HS.out
  have b01 := Joins.below_alloc1 w (.cells #[.int .i64 m, .slice A l.length c, .slice D s.length d] 28)
  have b02 := Joins.below_alloc1 (w.alloc (.cells #[.int .i64 m, .slice A l.length c, .slice D s.length d] 28)) (.cells #[.int .i64 m', .slice A' l'.length c', .slice D' s'.length d'] 28)
  have T0 := Lib.hid (F0.below b02)
  have U0 := FBox.new 28 (m := m') (H'.out.below b01) (HS'.out.below b01)
  have e1 : (w.alloc (.cells #[.int .i64 m, .slice A l.length c, .slice D s.length d] 28)).heap.size = w.heap.size + 1 := by simp
  rw [e1] at U0
  have V0 := Lib.hid U0
  have B0 := Lib.hid (b01.trans (b02.mono b01.size))
  clear h h' F0 b01 b02 U0 e1
  cases hf : fcB m l s with
  | false =>
    have HF := Lib.hid hf
    have E := Lib.hid (narB_1 (m' := m') (l' := l') (s' := s') hf)
    clear hf hs hs'
    go_enter Try.func38, Try.ntmps38
    go_wp2_with fail
    refine (specForecastOk m _ _ l s _ T0.out.2.2.2.1 T0.out.2.2.2.2).mono ?_
    rw [HF.out]
    rintro e w1 ⟨rfl, hb1⟩
    go_wp2
    go_ret
    exact ⟨ret_bool E.out.symm, B0.out.trans (hb1.mono B0.out.size)⟩
  | true =>
    cases hf' : fcB m' l' s' with
    | false =>
      have HF := Lib.hid hf
      have HF' := Lib.hid hf'
      have E := Lib.hid (narB_2 hf hf')
      clear hf hf' hs hs'
      go_enter Try.func38, Try.ntmps38
      go_wp2_with fail
      refine (specForecastOk m _ _ l s _ T0.out.2.2.2.1 T0.out.2.2.2.2).mono ?_
      rw [HF.out]
      rintro e w1 ⟨rfl, hb1⟩
      have B1 := Lib.hid (B0.out.trans (hb1.mono B0.out.size))
      have V1 := Lib.hid (V0.out.below hb1)
      obtain ⟨x0, x1, x2, _⟩ := V1.out
      clear hb1
      go_wp2_with fail
      refine (specForecastOk m' _ _ l' s' _ V1.out.2.2.2.1 V1.out.2.2.2.2).mono ?_
      rw [HF'.out]
      rintro e w2 ⟨rfl, hb2⟩
      have B2 := Lib.hid (B1.out.trans (hb2.mono B1.out.size))
      clear hb2
      go_wp2
      go_ret
      exact ⟨ret_bool E.out.symm, B2.out⟩
    | true =>
      have HF := Lib.hid hf
      have HF' := Lib.hid hf'
      cases hsm : sameT m m' l l' with
      | false =>
        have HSM := Lib.hid hsm
        have E := Lib.hid (narB_3 hf hf' hsm)
        clear hf hf' hs hs' hsm
        go_enter Try.func38, Try.ntmps38
        go_wp2_with fail
        refine (specForecastOk m _ _ l s _ T0.out.2.2.2.1 T0.out.2.2.2.2).mono ?_
        rw [HF.out]
        rintro e w1 ⟨rfl, hb1⟩
        have B1 := Lib.hid (B0.out.trans (hb1.mono B0.out.size))
        have V1 := Lib.hid (V0.out.below hb1)
        have T1 := Lib.hid (T0.out.below hb1)
        obtain ⟨x0, x1, x2, _⟩ := V1.out
        clear hb1
        go_wp2_with fail
        refine (specForecastOk m' _ _ l' s' _ V1.out.2.2.2.1 V1.out.2.2.2.2).mono ?_
        rw [HF'.out]
        rintro e w2 ⟨rfl, hb2⟩
        have B2 := Lib.hid (B1.out.trans (hb2.mono B1.out.size))
        have V2 := Lib.hid (V1.out.below hb2)
        have T2 := Lib.hid (T1.out.below hb2)
        clear hb2 x0 x1 x2
        obtain ⟨x0, x1, x2, _⟩ := V2.out
        obtain ⟨y0, y1, y2, _⟩ := T2.out
        go_wp2_with fail
        refine (specSameTides m m' _ _ l l' _ T2.out.2.2.2.1 V2.out.2.2.2.1).mono ?_
        rw [HSM.out]
        rintro e w3 ⟨rfl, hb3⟩
        have B3 := Lib.hid (B2.out.trans (hb3.mono B2.out.size))
        clear hb3
        go_wp2
        go_ret
        exact ⟨ret_bool E.out.symm, B3.out⟩
      | true =>
        have HSM := Lib.hid hsm
        have E := Lib.hid (narB_4 hf hf' hsm)
        obtain ⟨_, s0, _, hh, _⟩ := fcB_true hf
        obtain ⟨_, s0', _, hh', _⟩ := fcB_true hf'
        have s0 : 0 < s.length := s0
        have s0' : 0 < s'.length := s0'
        have HH := Lib.hid hh
        have HH' := Lib.hid hh'
        clear hf hf' hsm hh hh'
        obtain ⟨_, hs⟩ := hs
        obtain ⟨_, hs'⟩ := hs'
        rcases hs with ⟨rfl, _⟩ | ⟨g, o, d1, hsl, hp, hcap, hc⟩
        · exact absurd s0 (by simp)
        rcases hs' with ⟨rfl, _⟩ | ⟨g', o', d1', hsl', hp', hcap', hc'⟩
        · exact absurd s0' (by simp)
        injection hsl with hsl1 _ hsl2
        injection hsl' with hsl1' _ hsl2'
        subst hsl1 hsl2 hsl1' hsl2'
        have HC := Lib.hid hc
        have HC' := Lib.hid hc'
        clear hc hc'
        go_enter Try.func38, Try.ntmps38
        go_wp2_with fail
        refine (specForecastOk m _ _ l s _ T0.out.2.2.2.1 T0.out.2.2.2.2).mono ?_
        rw [HF.out]
        rintro e w1 ⟨rfl, hb1⟩
        have B1 := Lib.hid (B0.out.trans (hb1.mono B0.out.size))
        have V1 := Lib.hid (V0.out.below hb1)
        have T1 := Lib.hid (T0.out.below hb1)
        obtain ⟨x0, x1, x2, _⟩ := V1.out
        clear hb1
        go_wp2_with fail
        refine (specForecastOk m' _ _ l' s' _ V1.out.2.2.2.1 V1.out.2.2.2.2).mono ?_
        rw [HF'.out]
        rintro e w2 ⟨rfl, hb2⟩
        have B2 := Lib.hid (B1.out.trans (hb2.mono B1.out.size))
        have V2 := Lib.hid (V1.out.below hb2)
        have T2 := Lib.hid (T1.out.below hb2)
        clear hb2 x0 x1 x2
        obtain ⟨x0, x1, x2, _⟩ := V2.out
        obtain ⟨y0, y1, y2, _⟩ := T2.out
        go_wp2_with fail
        refine (specSameTides m m' _ _ l l' _ T2.out.2.2.2.1 V2.out.2.2.2.1).mono ?_
        rw [HSM.out]
        rintro e w3 ⟨rfl, hb3⟩
        have B3 := Lib.hid (B2.out.trans (hb3.mono B2.out.size))
        have V3 := Lib.hid (V2.out.below hb3)
        have T3 := Lib.hid (T2.out.below hb3)
        clear hb3 x0 x1 x2 y0 y1 y2
        go_wp2
        go_loopw [5] (fun i wr => ∃ k : Nat, k ≤ 2881 ∧ i = .int .i64 k ∧ Hid (AllWin s s' k) ∧ Hid (FBox wr w.heap.size m (.slice A l.length c) (.slice (some ⟨g, o, none⟩) s.length d) l s) ∧ Hid (FBox wr (w.heap.size + 1) m' (.slice A' l'.length c') (.slice (some ⟨g', o', none⟩) s'.length d') l' s') ∧ Hid (Below w.heap.size w wr)) (fun i _ => 2881 - (intOf i).toNat)
        case atStart => exact ⟨0, by omega, rfl, Lib.hid (AllWin.zero _ _), T3, V3, B3⟩
        case round =>
          obtain ⟨k, hk, rfl, hA, hT, hU, hB⟩ := hrel
          clear T3 V3 B3 T2 V2 B2 T1 V1 B1 T0 V0 B0
          by_cases hlt : k < 2881
          · obtain ⟨x, ex⟩ : ∃ x, atS s (k : Int) = x := ⟨_, rfl⟩
            obtain ⟨y, ey⟩ : ∃ x, atS s' (k : Int) = x := ⟨_, rfl⟩
            have EX := Lib.hid ex
            have EY := Lib.hid ey
            obtain ⟨xa, xl, xh⟩ := x
            obtain ⟨ya, yl, yh⟩ := y
            obtain ⟨x0, x1, x2, _⟩ := hT.out
            have hz := hB.out.size
            have hkl : (k : Int) ≤ 2880 := by omega
            clear ex ey
            go_wp2_with fail
            refine (l03Surge_any m _ _ l s (k : Int) _ hT.out.2.2.2.1 hT.out.2.2.2.2 s0).mono ?_
            rw [EX.out]
            rintro e w4 ⟨rfl, hb4⟩
            have B4 := Lib.hid (hB.out.trans (hb4.mono hB.out.size))
            have hb5 := hb4.trans ((Joins.below_alloc1 w4 (.cells #[.int .i64 xa, .int .i64 xl, .int .i64 xh] 44)).mono hb4.size)
            have B5 := Lib.hid (hB.out.trans (hb5.mono hB.out.size))
            have T5 := Lib.hid (hT.out.below hb5)
            have U5 := Lib.hid (hU.out.below hb5)
            have hz4 := hb4.size
            clear hb4 hb5 x0 x1 x2
            obtain ⟨y0, y1, y2, _⟩ := U5.out
            go_wp2_with fail
            refine (l03Surge_any m' _ _ l' s' (k : Int) _ U5.out.2.2.2.1 U5.out.2.2.2.2 s0').mono ?_
            rw [EY.out]
            rintro e w6 ⟨rfl, hb6⟩
            have hb7 := hb6.trans ((Joins.below_alloc1 w6 (.cells #[.int .i64 ya, .int .i64 yl, .int .i64 yh] 44)).mono hb6.size)
            have B7 := Lib.hid (B5.out.trans (hb7.mono B5.out.size))
            have T7 := Lib.hid (T5.out.below hb7)
            have U7 := Lib.hid (U5.out.below hb7)
            have hz6 : w4.heap.size < w6.heap.size := by have := hb6.size; simp at this; omega
            obtain ⟨hc6, hf6⟩ := bcell hb6
            clear hb6 hb7 y0 y1 y2
            by_cases h1 : xl < yl
            · have E2 := Lib.hid (E.out.trans (allWinB_no hlt (winB_no (.inl (by rw [EX.out, EY.out]; exact h1)))))
              have hd : decide (xl < yl) = true := decide_eq_true h1
              go_wp2
              go_ret
              exact ⟨ret_bool E2.out.symm, B7.out⟩
            · have hd : decide (xl < yl) = false := decide_eq_false h1
              by_cases h2 : yh < xh
              · have E2 := Lib.hid (E.out.trans (allWinB_no hlt (winB_no (.inr (by rw [EX.out, EY.out]; exact h2)))))
                have hd2 : decide (yh < xh) = true := decide_eq_true h2
                go_wp2
                go_ret
                exact ⟨ret_bool E2.out.symm, B7.out⟩
              · have F := Lib.hid (hA.out.next (winB_yes (by rw [EX.out, EY.out]; show yl ≤ xl; omega) (by rw [EX.out, EY.out]; show xh ≤ yh; omega)))
                have hd2 : decide (yh < xh) = false := decide_eq_false h2
                go_wp2
                go_roundw
                case rel => exact ⟨k + 1, by omega, by go_num, F, T7, U7, B7⟩
                case measure => simp [intOf]; omega
          · have E2 := Lib.hid (E.out.trans (allWinB_yes (show AllWin s s' 2881 by have e : k = 2881 := (by omega); rw [← e]; exact hA.out)))
            have hkl : ¬ (k : Int) ≤ 2880 := by omega
            go_wp2
            go_ret
            exact ⟨ret_bool E2.out.symm, hB.out⟩

end Go.Proofs.Ytbcbbolakjjglaa
