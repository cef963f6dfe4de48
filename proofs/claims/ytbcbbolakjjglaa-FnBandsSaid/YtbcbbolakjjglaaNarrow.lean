/- NarrowerBand of the program: the minutes' loop, and the contract. -/
import Derived.Test.YtbcbbolakjjglaaBandAt
import Derived.Test.YtbcbbolakjjglaaSame
import Derived.Deep.DeepCutAuto
namespace Go.Proofs.Ytbcbbolakjjglaa
open Go.RowKit
set_option maxRecDepth 100000

/-- At the minute t the surge of the first list lies within that of the second. -/
def winB (s s' : List SurgeD) (t : Int) : Bool := decide ((atS s' t).lo ≤ (atS s t).lo ∧ (atS s t).hi ≤ (atS s' t).hi)
def AllWin (s s' : List SurgeD) (k : Nat) : Prop := ∀ j, j < k → winB s s' (j : Int) = true
def allWinB (s s' : List SurgeD) (n : Nat) : Bool := (List.range n).all fun j => winB s s' (j : Int)
theorem allWinB_yes {s s' : List SurgeD} {n : Nat} (h : AllWin s s' n) : allWinB s s' n = true := by
  unfold allWinB
  rw [List.all_eq_true]
  intro j hj
  exact h j (by simpa using hj)
theorem allWinB_no {s s' : List SurgeD} {n k : Nat} (hk : k < n) (h : winB s s' (k : Int) = false) : allWinB s s' n = false := by
  unfold allWinB
  rw [List.all_eq_false]
  exact ⟨k, by simpa using hk, by rw [h]; simp⟩
theorem allWinB_true {s s' : List SurgeD} {n : Nat} (h : allWinB s s' n = true) : AllWin s s' n := by
  unfold allWinB at h
  rw [List.all_eq_true] at h
  intro j hj
  exact h j (by simpa using hj)
theorem AllWin.next {s s' : List SurgeD} {k : Nat} (h : AllWin s s' k) (hk : winB s s' (k : Int) = true) : AllWin s s' (k + 1) := by
  intro j hj
  by_cases e : j = k
  · subst e; exact hk
  · exact h j (by omega)
theorem AllWin.zero (s s' : List SurgeD) : AllWin s s' 0 := fun _ hj => absurd hj (by omega)
theorem winB_yes {s s' : List SurgeD} {t : Int} (h : (atS s' t).lo ≤ (atS s t).lo) (h' : (atS s t).hi ≤ (atS s' t).hi) : winB s s' t = true := decide_eq_true ⟨h, h'⟩
theorem winB_no {s s' : List SurgeD} {t : Int} (h : (atS s t).lo < (atS s' t).lo ∨ (atS s' t).hi < (atS s t).hi) : winB s s' t = false := decide_eq_false (by omega)

def narB (m : Int) (l : List PartD) (s : List SurgeD) (m' : Int) (l' : List PartD) (s' : List SurgeD) : Bool := fcB m l s && (fcB m' l' s' && (sameT m m' l l' && allWinB s s' 2881))
theorem narB_1 {m : Int} {l : List PartD} {s : List SurgeD} {m' : Int} {l' : List PartD} {s' : List SurgeD} (h : fcB m l s = false) : narB m l s m' l' s' = false := by unfold narB; rw [h]; rfl
theorem narB_2 {m : Int} {l : List PartD} {s : List SurgeD} {m' : Int} {l' : List PartD} {s' : List SurgeD} (h : fcB m l s = true) (h' : fcB m' l' s' = false) : narB m l s m' l' s' = false := by unfold narB; rw [h, h']; rfl
theorem narB_3 {m : Int} {l : List PartD} {s : List SurgeD} {m' : Int} {l' : List PartD} {s' : List SurgeD} (h : fcB m l s = true) (h' : fcB m' l' s' = true) (h2 : sameT m m' l l' = false) : narB m l s m' l' s' = false := by unfold narB; rw [h, h', h2]; rfl
theorem narB_4 {m : Int} {l : List PartD} {s : List SurgeD} {m' : Int} {l' : List PartD} {s' : List SurgeD} (h : fcB m l s = true) (h' : fcB m' l' s' = true) (h2 : sameT m m' l l' = true) : narB m l s m' l' s' = allWinB s s' 2881 := by unfold narB; rw [h, h', h2, Bool.true_and, Bool.true_and, Bool.true_and]

theorem surgeIndex_keep {W : World} (u : Value) (s : List SurgeD) (t : Int) (h : SlSurge W u s) (h0 : 0 < s.length) (hx0 : ∀ x, s[0]? = some x → x.fr ≤ t) (w0 : World) (hb : Hid (Below W.heap.size W w0)) :
    Calls Try.prog 54 #[u, .int .i64 t] w0 fun e w' => e = .returned (.int .i64 (lastLe s t s.length : Nat)) ∧ w0 = w' := surgeIndex_any u s t w0 (h.below hb.out) h0 hx0

/-- Behind the two searches: two variables that hold the surges' ends. -/
def TwoS (wr : World) (x y : SurgeD) (s6 s7 : Value) (wx : World) : Prop :=
  ∃ b6 b7 : Nat, s6 = .pointer (some ⟨b6, 0, none⟩) ∧ s7 = .pointer (some ⟨b7, 0, none⟩) ∧ wx.cell? ⟨b6, 1, none⟩ = some (.int .i64 x.lo) ∧ wx.cell? ⟨b6, 2, none⟩ = some (.int .i64 x.hi) ∧ wx.cell? ⟨b7, 1, none⟩ = some (.int .i64 y.lo) ∧ wx.cell? ⟨b7, 2, none⟩ = some (.int .i64 y.hi) ∧ Below wr.heap.size wr wx

set_option maxHeartbeats 8000000 in
theorem implNarrowerBand (m : Int) (v u : Value) (l : List PartD) (s : List SurgeD) (m' : Int) (v' u' : Value) (l' : List PartD) (s' : List SurgeD) (w : World) (h : SlP w v l) (hs : SlSurge w u s) (h' : SlP w v' l') (hs' : SlSurge w u' s') :
    Calls Try.prog 22 #[.agg #[.int .i64 m, v, u], .agg #[.int .i64 m', v', u']] w fun e w' => e = .returned (.bool (narB m l s m' l' s')) ∧ Below w.heap.size w w' := by
  have H := Lib.hid h
  have HS := Lib.hid hs
  have H' := Lib.hid h'
  have HS' := Lib.hid hs'
  obtain ⟨A, c, rfl⟩ := h.at
  obtain ⟨A', c', rfl⟩ := h'.at
  obtain ⟨D, d, rfl⟩ := hs.at
  obtain ⟨D', d', rfl⟩ := hs'.at
  have F0 := FBox.new 28 (m := m) H.out HS.out
  have b01 := Joins.below_alloc1 w (.cells #[.int .i64 m, .slice A l.length c, .slice D s.length d] 28)
  have b02 := Joins.below_alloc1 (w.alloc (.cells #[.int .i64 m, .slice A l.length c, .slice D s.length d] 28)) (.cells #[.int .i64 m', .slice A' l'.length c', .slice D' s'.length d'] 28)
  have T0 := Lib.hid (F0.below b02)
  have U0 := FBox.new 28 (m := m') (H'.out.below b01) (HS'.out.below b01)
  have e1 : (w.alloc (.cells #[.int .i64 m, .slice A l.length c, .slice D s.length d] 28)).heap.size = w.heap.size + 1 := by simp
  rw [e1] at U0
  have V0 := Lib.hid U0
  have B0 := Lib.hid (b01.trans (b02.mono b01.size))
  clear h h' F0 b01 b02 U0 e1
  cases hf : fcB m l s with
  | false =>
    have HF := Lib.hid hf
    have E := Lib.hid (narB_1 (m' := m') (l' := l') (s' := s') hf)
    clear hf hs hs'
    go_enter Try.func22, Try.ntmps22
    go_wp2_with fail
    refine (implForecastOk m _ _ l s _ T0.out.2.2.2.1 T0.out.2.2.2.2).mono ?_
    rw [HF.out]
    rintro e w1 ⟨rfl, hb1⟩
    go_wp2
    go_ret
    exact ⟨ret_bool E.out.symm, B0.out.trans (hb1.mono B0.out.size)⟩
  | true =>
    cases hf' : fcB m' l' s' with
    | false =>
      have HF := Lib.hid hf
      have HF' := Lib.hid hf'
      have E := Lib.hid (narB_2 hf hf')
      clear hf hf' hs hs'
      go_enter Try.func22, Try.ntmps22
      go_wp2_with fail
      refine (implForecastOk m _ _ l s _ T0.out.2.2.2.1 T0.out.2.2.2.2).mono ?_
      rw [HF.out]
      rintro e w1 ⟨rfl, hb1⟩
      have B1 := Lib.hid (B0.out.trans (hb1.mono B0.out.size))
      have V1 := Lib.hid (V0.out.below hb1)
      obtain ⟨x0, x1, x2, _⟩ := V1.out
      clear hb1
      go_wp2_with fail
      refine (implForecastOk m' _ _ l' s' _ V1.out.2.2.2.1 V1.out.2.2.2.2).mono ?_
      rw [HF'.out]
      rintro e w2 ⟨rfl, hb2⟩
      have B2 := Lib.hid (B1.out.trans (hb2.mono B1.out.size))
      clear hb2
      go_wp2
      go_ret
      exact ⟨ret_bool E.out.symm, B2.out⟩
    | true =>
      have HF := Lib.hid hf
      have HF' := Lib.hid hf'
      cases hsm : sameT m m' l l' with
      | false =>
        have HSM := Lib.hid hsm
        have E := Lib.hid (narB_3 hf hf' hsm)
        clear hf hf' hs hs' hsm
        go_enter Try.func22, Try.ntmps22
        go_wp2_with fail
        refine (implForecastOk m _ _ l s _ T0.out.2.2.2.1 T0.out.2.2.2.2).mono ?_
        rw [HF.out]
        rintro e w1 ⟨rfl, hb1⟩
        have B1 := Lib.hid (B0.out.trans (hb1.mono B0.out.size))
        have V1 := Lib.hid (V0.out.below hb1)
        have T1 := Lib.hid (T0.out.below hb1)
        obtain ⟨x0, x1, x2, _⟩ := V1.out
        clear hb1
        go_wp2_with fail
        refine (implForecastOk m' _ _ l' s' _ V1.out.2.2.2.1 V1.out.2.2.2.2).mono ?_
        rw [HF'.out]
        rintro e w2 ⟨rfl, hb2⟩
        have B2 := Lib.hid (B1.out.trans (hb2.mono B1.out.size))
        have V2 := Lib.hid (V1.out.below hb2)
        have T2 := Lib.hid (T1.out.below hb2)
        clear hb2 x0 x1 x2
        obtain ⟨x0, x1, x2, _⟩ := V2.out
        obtain ⟨y0, y1, y2, _⟩ := T2.out
        go_wp2_with fail
        refine (implSameTides m m' _ _ l l' _ T2.out.2.2.2.1 V2.out.2.2.2.1).mono ?_
        rw [HSM.out]
        rintro e w3 ⟨rfl, hb3⟩
        have B3 := Lib.hid (B2.out.trans (hb3.mono B2.out.size))
        clear hb3
        go_wp2
        go_ret
        exact ⟨ret_bool E.out.symm, B3.out⟩
      | true =>
        have HSM := Lib.hid hsm
        have E := Lib.hid (narB_4 hf hf' hsm)
        obtain ⟨_, s0, _, hh, _⟩ := fcB_true hf
        obtain ⟨_, s0', _, hh', _⟩ := fcB_true hf'
        have s0 : 0 < s.length := s0
        have s0' : 0 < s'.length := s0'
        have HH := Lib.hid hh
        have HH' := Lib.hid hh'
        clear hf hf' hsm hh hh'
        obtain ⟨_, hs⟩ := hs
        obtain ⟨_, hs'⟩ := hs'
        rcases hs with ⟨rfl, _⟩ | ⟨g, o, d1, hsl, hp, hcap, hc⟩
        · exact absurd s0 (by simp)
        rcases hs' with ⟨rfl, _⟩ | ⟨g', o', d1', hsl', hp', hcap', hc'⟩
        · exact absurd s0' (by simp)
        injection hsl with hsl1 _ hsl2
        injection hsl' with hsl1' _ hsl2'
        subst hsl1 hsl2 hsl1' hsl2'
        have HC := Lib.hid hc
        have HC' := Lib.hid hc'
        clear hc hc'
        go_enter Try.func22, Try.ntmps22
        go_wp2_with fail
        refine (implForecastOk m _ _ l s _ T0.out.2.2.2.1 T0.out.2.2.2.2).mono ?_
        rw [HF.out]
        rintro e w1 ⟨rfl, hb1⟩
        have B1 := Lib.hid (B0.out.trans (hb1.mono B0.out.size))
        have V1 := Lib.hid (V0.out.below hb1)
        have T1 := Lib.hid (T0.out.below hb1)
        obtain ⟨x0, x1, x2, _⟩ := V1.out
        clear hb1
        go_wp2_with fail
        refine (implForecastOk m' _ _ l' s' _ V1.out.2.2.2.1 V1.out.2.2.2.2).mono ?_
        rw [HF'.out]
        rintro e w2 ⟨rfl, hb2⟩
        have B2 := Lib.hid (B1.out.trans (hb2.mono B1.out.size))
        have V2 := Lib.hid (V1.out.below hb2)
        have T2 := Lib.hid (T1.out.below hb2)
        clear hb2 x0 x1 x2
        obtain ⟨x0, x1, x2, _⟩ := V2.out
        obtain ⟨y0, y1, y2, _⟩ := T2.out
        go_wp2_with fail
        refine (implSameTides m m' _ _ l l' _ T2.out.2.2.2.1 V2.out.2.2.2.1).mono ?_
        rw [HSM.out]
        rintro e w3 ⟨rfl, hb3⟩
        have B3 := Lib.hid (B2.out.trans (hb3.mono B2.out.size))
        have V3 := Lib.hid (V2.out.below hb3)
        have T3 := Lib.hid (T2.out.below hb3)
        clear hb3 x0 x1 x2 y0 y1 y2
        go_wp2
        go_loopw [24] (fun i wr => ∃ k : Nat, k ≤ 2881 ∧ i = .int .i64 k ∧ Hid (AllWin s s' k) ∧ Hid (FBox wr w.heap.size m (.slice A l.length c) (.slice (some ⟨g, o, none⟩) s.length d) l s) ∧ Hid (FBox wr (w.heap.size + 1) m' (.slice A' l'.length c') (.slice (some ⟨g', o', none⟩) s'.length d') l' s') ∧ Hid (Below w.heap.size w wr)) (fun i _ => 2881 - (intOf i).toNat)
        case atStart => exact ⟨0, by omega, rfl, Lib.hid (AllWin.zero _ _), T3, V3, B3⟩
        case round =>
          obtain ⟨k, hk, rfl, hA, hT, hU, hB⟩ := hrel
          clear T3 V3 B3 T2 V2 B2 T1 V1 B1 T0 V0 B0
          by_cases hlt : k < 2881
          · have hKl := lastLe_lt (s := s) (t := (k : Int)) s0 _ (Nat.le_refl _)
            have hKl' := lastLe_lt (s := s') (t := (k : Int)) s0' _ (Nat.le_refl _)
            have hx := atS_of (s := s) (t := (k : Int)) s0
            have hy := atS_of (s := s') (t := (k : Int)) s0'
            obtain ⟨K, eK⟩ : ∃ K, lastLe s (k : Int) s.length = K := ⟨_, rfl⟩
            obtain ⟨K', eK'⟩ : ∃ K, lastLe s' (k : Int) s'.length = K := ⟨_, rfl⟩
            rw [eK] at hx hKl
            rw [eK'] at hy hKl'
            have EK := Lib.hid eK
            have EK' := Lib.hid eK'
            obtain ⟨x, ex⟩ : ∃ x, atS s (k : Int) = x := ⟨_, rfl⟩
            obtain ⟨y, ey⟩ : ∃ x, atS s' (k : Int) = x := ⟨_, rfl⟩
            rw [ex] at hx
            rw [ey] at hy
            have EX := Lib.hid ex
            have EY := Lib.hid ey
            obtain ⟨p0, p1, p2⟩ := SlSurge.cells HC.out K x hx
            obtain ⟨q0, q1, q2⟩ := SlSurge.cells HC'.out K' y hy
            have hg : g < w.heap.size := World.block_lt_of_cell? w ⟨g, o + K * 3, none⟩ p0
            have hg' : g' < w.heap.size := World.block_lt_of_cell? w ⟨g', o' + K' * 3, none⟩ q0
            have a0 := (hB.out.cell (p := ⟨g, o + K * 3, none⟩) hg).trans p0
            have a1 := (hB.out.cell (p := ⟨g, o + K * 3 + 1, none⟩) hg).trans p1
            have a2 := (hB.out.cell (p := ⟨g, o + K * 3 + 2, none⟩) hg).trans p2
            have c0 := (hB.out.cell (p := ⟨g', o' + K' * 3, none⟩) hg').trans q0
            have c1 := (hB.out.cell (p := ⟨g', o' + K' * 3 + 1, none⟩) hg').trans q1
            have c2 := (hB.out.cell (p := ⟨g', o' + K' * 3 + 2, none⟩) hg').trans q2
            have hz := hB.out.size
            have X2 := hT.out.2.2.1
            have Y2 := hU.out.2.2.1
            have L1 : w.heap.size + 1 < wr.heap.size := World.block_lt_of_cell? wr _ Y2
            have G1 : g < wr.heap.size := by omega
            have G2 : g' < wr.heap.size := by omega
            have HL := Lib.hid (headB_le HH.out (show (0 : Int) ≤ (k : Int) by omega))
            have HL' := Lib.hid (headB_le HH'.out (show (0 : Int) ≤ (k : Int) by omega))
            clear eK eK' ex ey hx hy p0 p1 p2 q0 q1 q2
            obtain ⟨xa, xl, xh⟩ := x
            obtain ⟨ya, yl, yh⟩ := y
            simp only at a0 a1 a2 c0 c1 c2
            go_upto_region 6 with fail
            go_cut [6, 7] (fun s6 s7 wx => TwoS wr ⟨xa, xl, xh⟩ ⟨ya, yl, yh⟩ s6 s7 wx)
            case first =>
              have R0 := Below.refl wr.heap.size wr
              have N1 := fun (o : Obj) => R0.alloc (Nat.le_refl _) o
              have N2 := fun (o o' : Obj) => (N1 o).alloc (by simp) o'
              have HN0 := Lib.hid R0.drew
              have HN1 := fun o => Lib.hid (N1 o).drew
              have HN2 := fun o o' => Lib.hid (N2 o o').drew
              have SR := Lib.hid hT.out.2.2.2.2
              have SR' := Lib.hid hU.out.2.2.2.2
              clear R0 N1 N2
              go_region_held3 (fun w' => w'.cell? ⟨w.heap.size, 2, none⟩ = some (.slice (some ⟨g, o, none⟩) s.length d) ∧ w'.cell? ⟨w.heap.size + 1, 2, none⟩ = some (.slice (some ⟨g', o', none⟩) s'.length d') ∧ w'.cell? ⟨g, o + K * 3, none⟩ = some (.int .i64 xa) ∧ w'.cell? ⟨g, o + K * 3 + 1, none⟩ = some (.int .i64 xl) ∧ w'.cell? ⟨g, o + K * 3 + 2, none⟩ = some (.int .i64 xh) ∧ w'.cell? ⟨g', o' + K' * 3, none⟩ = some (.int .i64 ya) ∧ w'.cell? ⟨g', o' + K' * 3 + 1, none⟩ = some (.int .i64 yl) ∧ w'.cell? ⟨g', o' + K' * 3 + 2, none⟩ = some (.int .i64 yh) ∧ Hid (Below wr.heap.size wr w')) (go_keep)
                (first
                  | (go_at_call 54; (with_reducible refine (surgeIndex_keep (.slice (some ⟨g, o, none⟩) s.length d) s (k : Int) SR.out s0 HL.out _ ?_).mono ?_); (first | exact HN0 | exact HN1 _ | exact HN2 _ _); rw [EK.out]; rintro e w7 ⟨rfl, rfl⟩)
                  | (go_at_call 54; (with_reducible refine (surgeIndex_keep (.slice (some ⟨g', o', none⟩) s'.length d') s' (k : Int) SR'.out s0' HL'.out _ ?_).mono ?_); (first | exact HN0 | exact HN1 _ | exact HN2 _ _); rw [EK'.out]; rintro e w7 ⟨rfl, rfl⟩)
                  | fail "no arm")
              all_goals
                go_wp2_with fail
                go_meet
                refine ⟨_, _, rfl, rfl, ?_, ?_, ?_, ?_, (HN2 _ _).out⟩
                · simp [go_sem]
                · simp [go_sem]
                · simp [go_sem]
                · simp [go_sem]
            case rest =>
              obtain ⟨b6, b7, rfl, rfl, e0, e1, e2, e3, hb4⟩ := hcut
              have B4 := Lib.hid (hB.out.trans (hb4.mono hB.out.size))
              have T4 := Lib.hid (hT.out.below hb4)
              have U4 := Lib.hid (hU.out.below hb4)
              clear hb4 a0 a1 a2 c0 c1 c2 X2 Y2
              simp only at e0 e1 e2 e3
              by_cases h1 : xl < yl
              · have E2 := Lib.hid (E.out.trans (allWinB_no hlt (winB_no (.inl (by rw [EX.out, EY.out]; exact h1)))))
                have hd : decide (xl < yl) = true := decide_eq_true h1
                go_wp2
                go_ret
                exact ⟨ret_bool E2.out.symm, B4.out⟩
              · have hd : decide (xl < yl) = false := decide_eq_false h1
                by_cases h2 : yh < xh
                · have E2 := Lib.hid (E.out.trans (allWinB_no hlt (winB_no (.inr (by rw [EX.out, EY.out]; exact h2)))))
                  have hd2 : decide (yh < xh) = true := decide_eq_true h2
                  go_wp2
                  go_ret
                  exact ⟨ret_bool E2.out.symm, B4.out⟩
                · have F := Lib.hid (hA.out.next (winB_yes (by rw [EX.out, EY.out]; show yl ≤ xl; omega) (by rw [EX.out, EY.out]; show xh ≤ yh; omega)))
                  have hd2 : decide (yh < xh) = false := decide_eq_false h2
                  go_wp2
                  go_roundw
                  case rel => exact ⟨k + 1, by omega, by go_num, F, T4, U4, B4⟩
                  case measure => simp [intOf]; omega
          · have E2 := Lib.hid (E.out.trans (allWinB_yes (show AllWin s s' 2881 by have e : k = 2881 := (by omega); rw [← e]; exact hA.out)))
            go_wp2
            go_ret
            exact ⟨ret_bool E2.out.symm, hB.out⟩

end Go.Proofs.Ytbcbbolakjjglaa
