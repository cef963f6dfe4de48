/- The exact law of NarrowerBand holds for all two forecasts: impl.NarrowerBand answers as its model, and both forecasts read as before. No condition. -/
import Derived.Test.YtbcbbolakjjglaaRows
import Derived.Test.YtbcbbolakjjglaaFcArg
import Derived.Test.YtbcbbolakjjglaaNarrowSpec
namespace Go.Proofs.Ytbcbbolakjjglaa.exactNarrowerBand
open Go.ChangeShapes Go.WideShapes Go.ChangeAt Go.RowKit
set_option maxRecDepth 100000

theorem own : ownKnob Try.prog.godebug = none := by kernel_rfl
theorem laidOut : laidOutB Try.prog = true := by kernel_rfl

/-- What is left of a bound after a forecast was measured. -/
def leftL (lim : Int) (a b : Nat) : Int := if lim < (a : Int) then -1 else if lim - (a : Int) < (b : Int) then -1 else lim - (a : Int) - (b : Int)

set_option maxHeartbeats 1000000 in
theorem szForecast_lim (m : Int) (A A' : Option Addr) (n n' c c' : Nat) (w : World) (hn : n ≤ 9223372036854775807) (hn' : n' ≤ 9223372036854775807) (lim : Int) (g0 : 0 ≤ lim) (g1 : lim ≤ 1048576) :
    Calls Try.prog 27 #[.agg #[.int .i64 m, .slice A n c, .slice A' n' c'], .int .i64 lim] w fun e w' => e = .returned (.int .i64 (leftL lim n n')) ∧ Below w.heap.size w w' := by
  have C := fun W => Lib.hid (szTide_any m A n c W hn lim (by omega) (by omega))
  by_cases hlt : lim < (n : Int)
  · rw [if_pos hlt] at C
    have E := Lib.hid (show leftL lim n n' = -1 from if_pos hlt)
    go_enter Try.func27, Try.ntmps27
    go_wp2_with fail
    refine (C _).out.mono ?_
    rintro e w1 ⟨rfl, hb1⟩
    clear C
    go_wp2
    go_ret
    exact ⟨ret_int E.out.symm, (Joins.below_alloc1 _ _).trans (hb1.mono (by simp))⟩
  · rw [if_neg hlt] at C
    have C' := fun W => Lib.hid (szSurgeS_any A' n' c' W hn' (lim - (n : Int)) (by omega) (by omega))
    obtain ⟨r, hr⟩ : ∃ r, leftL lim n n' = r := ⟨_, rfl⟩
    have e2 : (if lim - (n : Int) < (n' : Int) then (-1 : Int) else lim - (n : Int) - (n' : Int)) = r := by rw [← hr]; unfold leftL; rw [if_neg hlt]
    rw [e2] at C'
    have E := Lib.hid hr
    have z0 : (n : Int) ≤ lim := by omega
    have e3 : r < 0 → r = -1 := by
      rw [← e2]
      split
      · intro _; rfl
      · omega
    have HR := Lib.hid e3
    clear e2 e3 hr
    go_enter Try.func27, Try.ntmps27
    go_wp2_with fail
    refine (C _).out.mono ?_
    rintro e w1 ⟨rfl, hb1⟩
    obtain ⟨hc, hf⟩ := bcell hb1
    go_wp2_with fail
    refine (C' _).out.mono ?_
    rintro e w2 ⟨rfl, rfl⟩
    clear C C'
    by_cases hrn : r < 0
    · go_wp2
      go_ret
      exact ⟨ret_int (by rw [E.out, HR.out hrn]), (Joins.below_alloc1 _ _).trans (hb1.mono (by simp))⟩
    · go_wp2
      go_ret
      exact ⟨ret_int E.out.symm, (Joins.below_alloc1 _ _).trans (hb1.mono (by simp))⟩

/-- Two variables that hold forecasts hold what they held, and nothing below W has changed. -/
def BothF (W : World) (b b' : Nat) (m m' : Int) (v u v' u' : Value) (w' : World) : Prop :=
  w'.cell? ⟨b, 0, none⟩ = some (.int .i64 m) ∧ w'.cell? ⟨b, 1, none⟩ = some v ∧ w'.cell? ⟨b, 2, none⟩ = some u ∧ w'.cell? ⟨b', 0, none⟩ = some (.int .i64 m') ∧ w'.cell? ⟨b', 1, none⟩ = some v' ∧ w'.cell? ⟨b', 2, none⟩ = some u' ∧ Hid (Below W.heap.size W w')
theorem BothF.of {W : World} {b b' : Nat} {m m' : Int} {v u v' u' : Value} {l l' : List PartD} {s s' : List SurgeD} (hT : FBox W b m v u l s) (hX : FBox W b' m' v' u' l' s') {w' : World} (hb : Below W.heap.size W w') : BothF W b b' m m' v u v' u' w' :=
  ⟨(hT.below hb).1, (hT.below hb).2.1, (hT.below hb).2.2.1, (hX.below hb).1, (hX.below hb).2.1, (hX.below hb).2.2.1, Lib.hid hb⟩

def NewBoth (W : World) (b b' : Nat) (m m' : Int) (v u v' u' : Value) (l : List PartD) (s : List SurgeD) (w0 : World) (e : Ending) (w1 : World) : Prop :=
  ∃ A c D d, e = .returned (.agg #[.int .i64 m, .slice A l.length c, .slice D s.length d]) ∧ Hid (SlP w1 (.slice A l.length c) l) ∧ Hid (SlSurge w1 (.slice D s.length d) s) ∧ Hid (Below w0.heap.size w0 w1) ∧ BothF W b b' m m' v u v' u' w1
theorem to_keep {W : World} {b b' : Nat} {m m' : Int} {v u v' u' : Value} {l l' : List PartD} {s s' : List SurgeD} (hT : FBox W b m v u l s) (hX : FBox W b' m' v' u' l' s') (w0 : World) (hb : Hid (Below W.heap.size W w0)) :
    Calls Try.prog 29 #[.agg #[.int .i64 m, v, u]] w0 (NewBoth W b b' m m' v u v' u' l s w0) := by
  refine (toForecast_any m v u l s w0 (hT.below hb.out).2.2.2.1 (hT.below hb.out).2.2.2.2).mono ?_
  intro e w1 h
  obtain ⟨A, c, D, d, he, h1, h2, hb1⟩ := h.sl hT.2.2.2.1.1 hT.2.2.2.2.1
  exact ⟨A, c, D, d, he, Lib.hid h1, Lib.hid h2, Lib.hid hb1, BothF.of hT hX (hb.out.trans (hb1.mono hb.out.size))⟩
theorem to_keep' {W : World} {b b' : Nat} {m m' : Int} {v u v' u' : Value} {l l' : List PartD} {s s' : List SurgeD} (hT : FBox W b m v u l s) (hX : FBox W b' m' v' u' l' s') (w0 : World) (hb : Hid (Below W.heap.size W w0)) :
    Calls Try.prog 29 #[.agg #[.int .i64 m', v', u']] w0 fun e w1 => ∃ A c D d, e = .returned (.agg #[.int .i64 m', .slice A l'.length c, .slice D s'.length d]) ∧ Hid (SlP w1 (.slice A l'.length c) l') ∧ Hid (SlSurge w1 (.slice D s'.length d) s') ∧ Hid (Below w0.heap.size w0 w1) ∧ BothF W b b' m m' v u v' u' w1 := by
  refine (toForecast_any m' v' u' l' s' w0 (hX.below hb.out).2.2.2.1 (hX.below hb.out).2.2.2.2).mono ?_
  intro e w1 h
  obtain ⟨A, c, D, d, he, h1, h2, hb1⟩ := h.sl hX.2.2.2.1.1 hX.2.2.2.2.1
  exact ⟨A, c, D, d, he, Lib.hid h1, Lib.hid h2, Lib.hid hb1, BothF.of hT hX (hb.out.trans (hb1.mono hb.out.size))⟩
theorem nar_keep {W : World} {b b' : Nat} {m m' : Int} {v u v' u' : Value} {l l' : List PartD} {s s' : List SurgeD} (hT : FBox W b m v u l s) (hX : FBox W b' m' v' u' l' s') (w0 : World) (va ua vb ub : Value) (h1 : Hid (SlP w0 va l)) (h2 : Hid (SlSurge w0 ua s)) (h3 : Hid (SlP w0 vb l')) (h4 : Hid (SlSurge w0 ub s')) (hb : Hid (Below W.heap.size W w0)) :
    Calls Try.prog 38 #[.agg #[.int .i64 m, va, ua], .agg #[.int .i64 m', vb, ub]] w0 fun e w1 => e = .returned (.bool (narB m l s m' l' s')) ∧ BothF W b b' m m' v u v' u' w1 := by
  refine (specNarrowerBand m va ua l s m' vb ub l' s' w0 h1.out h2.out h3.out h4.out).mono ?_
  rintro e w1 ⟨rfl, hb1⟩
  exact ⟨rfl, BothF.of hT hX (hb.out.trans (hb1.mono hb.out.size))⟩

set_option maxHeartbeats 4000000 in
theorem law (m : Int) (A : Option Addr) (c : Nat) (l : List PartD) (D : Option Addr) (d : Nat) (s : List SurgeD) (m' : Int) (A' : Option Addr) (c' : Nat) (l' : List PartD) (D' : Option Addr) (d' : Nat) (s' : List SurgeD) (w : World) (hin : FcIn w m A c l D d s) (hin' : FcIn w m' A' c' l' D' d' s') :
    Calls Try.prog 11 #[.agg #[.int .i64 m, .slice A l.length c, .slice D s.length d], .agg #[.int .i64 m', .slice A' l'.length c', .slice D' s'.length d']] w fun e w' => e = .returned (.bool true) ∧ Below w.heap.size w w' := by
  obtain ⟨_, hmax, hmaxs, hsl, hss, _, _⟩ := hin
  obtain ⟨_, hmax', hmaxs', hsl', hss', _, _⟩ := hin'
  have HSL := Lib.hid hsl
  have HSL' := Lib.hid hsl'
  have HSS := Lib.hid hss
  have HSS' := Lib.hid hss'
  clear hsl hsl' hss hss'
  unfold maxLen at hmax hmax' hmaxs hmaxs'
  have B0 := Lib.hid (Joins.below_alloc2 w (.cells #[.int .i64 m, .slice A l.length c, .slice D s.length d] 52) (.cells #[.int .i64 m', .slice A' l'.length c', .slice D' s'.length d'] 52))
  have C := fun W => Lib.hid (szForecast_lim m A D l.length s.length c d W (by omega) (by omega) 1048576 (by omega) (by omega))
  by_cases hbig : leftL 1048576 l.length s.length < 0
  · obtain ⟨r, hr⟩ : ∃ r, leftL 1048576 l.length s.length = r := ⟨_, rfl⟩
    rw [hr] at C hbig
    clear hr
    go_enter Try.func11, Try.ntmps11
    go_wp2_with fail
    refine (C _).out.mono ?_
    rintro e w1 ⟨rfl, hb1⟩
    go_wp2
    go_ret
    exact ⟨rfl, B0.out.trans (hb1.mono B0.out.size)⟩
  · have e1 : leftL 1048576 l.length s.length = 1048576 - (l.length : Int) - (s.length : Int) ∧ (l.length : Int) + (s.length : Int) ≤ 1048576 := by
      unfold leftL at hbig ⊢
      split at hbig
      · omega
      · split at hbig
        · omega
        · rename_i h1 h2
          rw [if_neg h1, if_neg h2]
          exact ⟨rfl, by omega⟩
    obtain ⟨e1, z1⟩ := e1
    obtain ⟨r, hr⟩ : ∃ r, leftL 1048576 l.length s.length = r := ⟨_, rfl⟩
    rw [hr] at C hbig e1
    clear hr
    have r0 : 0 ≤ r := by omega
    have r1 : r ≤ 1048576 := by omega
    have S0 := Lib.hid (HSL.out (by omega))
    have S1 := Lib.hid (HSS.out (by omega))
    have C' := fun W => Lib.hid (szForecast_lim m' A' D' l'.length s'.length c' d' W (by omega) (by omega) r (by omega) (by omega))
    by_cases hbig' : leftL r l'.length s'.length < 0
    · obtain ⟨r', hr'⟩ : ∃ r', leftL r l'.length s'.length = r' := ⟨_, rfl⟩
      rw [hr'] at C' hbig'
      clear hr' HSL HSL' HSS HSS' e1
      go_enter Try.func11, Try.ntmps11
      go_wp2_with fail
      refine (C _).out.mono ?_
      rintro e w1 ⟨rfl, hb1⟩
      obtain ⟨hc, hf⟩ := bcell hb1
      have B1 := Lib.hid (B0.out.trans (hb1.mono B0.out.size))
      clear hb1
      go_wp2_with fail
      refine (C' _).out.mono ?_
      rintro e w2 ⟨rfl, hb2⟩
      have B2 := Lib.hid (B1.out.trans (hb2.mono B1.out.size))
      clear hb2 hc hf
      go_wp2
      go_ret
      exact ⟨rfl, B2.out⟩
    · have z2 : (l'.length : Int) + (s'.length : Int) ≤ 1048576 := by
        unfold leftL at hbig'
        split at hbig'
        · omega
        · split at hbig'
          · omega
          · omega
      obtain ⟨r', hr'⟩ : ∃ r', leftL r l'.length s'.length = r' := ⟨_, rfl⟩
      rw [hr'] at C' hbig'
      have r0' : 0 ≤ r' := by omega
      have S0' := Lib.hid (HSL'.out (by omega))
      have S1' := Lib.hid (HSS'.out (by omega))
      obtain ⟨b, hb⟩ : ∃ b, narB m l s m' l' s' = b := ⟨_, rfl⟩
      have HB := Lib.hid hb
      have T00 := FBox.new 52 (m := m) S0.out S1.out
      have b01 := Joins.below_alloc1 w (.cells #[.int .i64 m, .slice A l.length c, .slice D s.length d] 52)
      have T0 := Lib.hid (T00.below (Joins.below_alloc1 _ (.cells #[.int .i64 m', .slice A' l'.length c', .slice D' s'.length d'] 52)))
      have U00 := FBox.new 52 (m := m') (S0'.out.below b01) (S1'.out.below b01)
      rw [show (w.alloc (.cells #[.int .i64 m, .slice A l.length c, .slice D s.length d] 52)).heap.size = w.heap.size + 1 by simp] at U00
      have U0 := Lib.hid U00
      clear HSL HSL' HSS HSS' T00 hb hr' e1 U00 b01
      go_enter Try.func11, Try.ntmps11
      go_wp2_with fail
      refine (C _).out.mono ?_
      rintro e w1 ⟨rfl, hb1⟩
      have T1 := Lib.hid (T0.out.below hb1)
      have U1 := Lib.hid (U0.out.below hb1)
      have B1 := Lib.hid (B0.out.trans (hb1.mono B0.out.size))
      obtain ⟨c0, c1, c2, _⟩ := U1.out
      clear hb1
      go_wp2_with fail
      refine (C' _).out.mono ?_
      rintro e w2 ⟨rfl, hb2⟩
      have T2 := Lib.hid (T1.out.below hb2)
      have U2 := Lib.hid (U1.out.below hb2)
      have B2 := Lib.hid (B1.out.trans (hb2.mono B1.out.size))
      clear hb2 c0 c1 c2 C C'
      obtain ⟨c0, c1, c2, _⟩ := T2.out
      obtain ⟨d0, d1, d2, _⟩ := U2.out
      have hD := Lib.hid ((Below.refl w2.heap.size w2).drew)
      go_upto_region 8 with fail
      go_cut [6] (fun s6 wx => s6 = .bool b ∧ Hid (Below w2.heap.size w2 wx))
      case first =>
        go_region_held3 (fun w' => w'.cell? ⟨w.heap.size, 0, none⟩ = some (.int .i64 m) ∧ w'.cell? ⟨w.heap.size, 1, none⟩ = some (.slice A l.length c) ∧ w'.cell? ⟨w.heap.size, 2, none⟩ = some (.slice D s.length d) ∧ w'.cell? ⟨w.heap.size + 1, 0, none⟩ = some (.int .i64 m') ∧ w'.cell? ⟨w.heap.size + 1, 1, none⟩ = some (.slice A' l'.length c') ∧ w'.cell? ⟨w.heap.size + 1, 2, none⟩ = some (.slice D' s'.length d') ∧ Hid (Below w2.heap.size w2 w')) (go_keep)
          (first
            | (go_at_call 29; (with_reducible refine (to_keep T2.out U2.out _ ?_).mono ?_); (simp [*]); rintro e w3 ⟨A3, k3, D3, j3, rfl, s3, s3', t3, y0, y1, y2, y3, y4, y5, y6⟩)
            | (go_at_call 29; (with_reducible refine (to_keep' T2.out U2.out _ ?_).mono ?_); (simp [*]); rintro e w4 ⟨A4, k4, D4, j4, rfl, s4, s4', t4, y0, y1, y2, y3, y4, y5, y6⟩)
            | (go_at_call 38; (refine (nar_keep T2.out U2.out _ _ _ _ _ ?_ ?_ ?_ ?_ ?_).mono ?_); (first | exact s3 | exact Lib.hid (s3.out.below t4.out)); (first | exact s3' | exact Lib.hid (s3'.out.below t4.out)); (first | exact s4 | exact Lib.hid (s4.out.below t3.out)); (first | exact s4' | exact Lib.hid (s4'.out.below t3.out)); (simp [*]); rw [HB.out]; rintro e w5 ⟨rfl, y0, y1, y2, y3, y4, y5, y6⟩)
            | fail "no arm")
        all_goals
          go_wp2_with fail
          go_meet
          exact ⟨rfl, y6⟩
      case rest =>
        obtain ⟨rfl, x4⟩ := hcut
        rename_i w5
        have T5 := Lib.hid (T2.out.below x4.out)
        have U5 := Lib.hid (U2.out.below x4.out)
        have B5 := Lib.hid (B2.out.trans (x4.out.mono B2.out.size))
        clear c0 c1 c2 d0 d1 d2 hD
        obtain ⟨c0, c1, c2, _⟩ := T5.out
        go_wp2_with fail
        refine (toForecast_any m _ _ l s _ T5.out.2.2.2.1 T5.out.2.2.2.2).mono ?_
        intro e w6 hN
        obtain ⟨A6, k6, D6, j6, rfl, s6, s6', hb6⟩ := hN.sl (by omega) (by omega)
        have T6 := T5.out.below hb6
        have U6 := U5.out.below hb6
        have B6 := Lib.hid (B5.out.trans (hb6.mono B5.out.size))
        have hal := Joins.below_alloc1 w6 (.cells #[.int .i64 m, .slice A6 l.length k6, .slice D6 s.length j6] 28)
        have X6 := Lib.hid (FBox.new 28 (m := m) s6 s6')
        have T6' := Lib.hid (T6.below hal)
        have U6' := Lib.hid (U6.below hal)
        have B6' := Lib.hid (B6.out.trans (hal.mono B6.out.size))
        clear hb6 T6 U6 B6 hal s6 s6' hN c0 c1 c2
        obtain ⟨c0, c1, c2, _⟩ := U6'.out
        go_wp2_with fail
        refine (toForecast_any m' _ _ l' s' _ U6'.out.2.2.2.1 U6'.out.2.2.2.2).mono ?_
        intro e w7 hN
        obtain ⟨A7, k7, D7, j7, rfl, s7, s7', hb7⟩ := hN.sl (by omega) (by omega)
        have T7 := T6'.out.below hb7
        have U7 := U6'.out.below hb7
        have X7 := X6.out.below hb7
        have B7 := Lib.hid (B6'.out.trans (hb7.mono B6'.out.size))
        have hal := Joins.below_alloc1 w7 (.cells #[.int .i64 m', .slice A7 l'.length k7, .slice D7 s'.length j7] 28)
        have Y7' := Lib.hid (FBox.new 28 (m := m') s7 s7')
        have T7' := Lib.hid (T7.below hal)
        have U7' := Lib.hid (U7.below hal)
        have X7' := Lib.hid (X7.below hal)
        have B7' := Lib.hid (B7.out.trans (hal.mono B7.out.size))
        clear hb7 T7 U7 X7 B7 hal s7 s7' hN c0 c1 c2
        obtain ⟨c0, c1, c2, _⟩ := X7'.out
        obtain ⟨d0, d1, d2, _⟩ := Y7'.out
        go_wp2_with fail
        refine (implNarrowerBand m _ _ l s m' _ _ l' s' _ X7'.out.2.2.2.1 X7'.out.2.2.2.2 Y7'.out.2.2.2.1 Y7'.out.2.2.2.2).mono ?_
        rintro e w8 ⟨rfl, hb8⟩
        rw [HB.out]
        have T8 := Lib.hid (T7'.out.below hb8)
        have U8 := Lib.hid (U7'.out.below hb8)
        have X8 := Lib.hid (X7'.out.below hb8)
        have Y8 := Lib.hid (Y7'.out.below hb8)
        have B8 := Lib.hid (B7'.out.trans (hb8.mono B7'.out.size))
        clear hb8 c0 c1 c2 d0 d1 d2
        have hD := Lib.hid ((Below.refl w8.heap.size w8).drew)
        obtain ⟨c0, c1, c2, _⟩ := T8.out
        obtain ⟨d0, d1, d2, _⟩ := X8.out
        cases b
        all_goals
          go_wp2
          go_region_held3 (fun w' => w'.cell? ⟨w.heap.size, 0, none⟩ = some (.int .i64 m) ∧ w'.cell? ⟨w.heap.size, 1, none⟩ = some (.slice A l.length c) ∧ w'.cell? ⟨w.heap.size, 2, none⟩ = some (.slice D s.length d) ∧ w'.cell? ⟨w6.heap.size, 0, none⟩ = some (.int .i64 m) ∧ w'.cell? ⟨w6.heap.size, 1, none⟩ = some (.slice A6 l.length k6) ∧ w'.cell? ⟨w6.heap.size, 2, none⟩ = some (.slice D6 s.length j6) ∧ Hid (Below w8.heap.size w8 w')) (go_keep)
            (first
              | (go_at_call 29; refine (toForecast_keep T8.out X8.out _ ?_).mono ?_; (simp [*]); rintro e w9 ⟨A9, k9, D9, j9, rfl, s9, s9', y0, y1, y2, y3, y4, y5, y6⟩)
              | (go_at_call 30; refine (eqForecast_keep T8.out X8.out _ _ _ ?_ ?_ ?_).mono ?_; (simp [*]); (simp [*]); (simp [*]); rintro e w10 ⟨rfl, z0, z1, z2, z3, z4, z5, z6⟩))
          all_goals
            have U10 := Lib.hid (U8.out.below z6.out)
            have Y10 := Lib.hid (Y8.out.below z6.out)
            have B10 := Lib.hid (B8.out.trans (z6.out.mono B8.out.size))
            clear c0 c1 c2 d0 d1 d2 hD z0 z1 z2 z3 z4 z5 z6
            have hD := Lib.hid ((Below.refl w10.heap.size w10).drew)
            obtain ⟨c0, c1, c2, _⟩ := U10.out
            obtain ⟨d0, d1, d2, _⟩ := Y10.out
            go_wp2
            go_region_held3 (fun w' => w'.cell? ⟨w.heap.size + 1, 0, none⟩ = some (.int .i64 m') ∧ w'.cell? ⟨w.heap.size + 1, 1, none⟩ = some (.slice A' l'.length c') ∧ w'.cell? ⟨w.heap.size + 1, 2, none⟩ = some (.slice D' s'.length d') ∧ w'.cell? ⟨w7.heap.size, 0, none⟩ = some (.int .i64 m') ∧ w'.cell? ⟨w7.heap.size, 1, none⟩ = some (.slice A7 l'.length k7) ∧ w'.cell? ⟨w7.heap.size, 2, none⟩ = some (.slice D7 s'.length j7) ∧ Hid (Below w10.heap.size w10 w')) (go_keep)
              (first
                | (go_at_call 29; refine (toForecast_keep U10.out Y10.out _ ?_).mono ?_; (simp [*]); rintro e w11 ⟨A9, k9, D9, j9, rfl, s9, s9', y0, y1, y2, y3, y4, y5, y6⟩)
                | (go_at_call 30; refine (eqForecast_keep U10.out Y10.out _ _ _ ?_ ?_ ?_).mono ?_; (simp [*]); (simp [*]); (simp [*]); rintro e w12 ⟨rfl, z0, z1, z2, z3, z4, z5, z6⟩))
            all_goals
              go_wp2
              go_ret
              exact ⟨rfl, B10.out.trans (z6.out.mono B10.out.size)⟩

set_option maxRecDepth 100000 in
theorem lifted (os : Os) (started : os.Started) (H : Type) (enc : TypeId × Value → H) :
    ReturnsInHanded {} Try.checked os 11 .any (Rows.fnExactNarrowerBandSpec.pre6 enc Try.prog Try.f11 Rows.fnExactNarrowerBandRow.domain false) (Rows.fnExactNarrowerBandSpec.post enc Try.prog Try.f11 false true false false) := by
  refine returnsInHanded_of_change (C := Try.checked) own started (by kernel_rfl) Try.func11
    (ChangeSpec.witness6 (enc := enc) (C := Try.checked) false ⟨#[], #[.agg #[.int .i64 0, .slice none 0 0, .slice none 0 0], .agg #[.int .i64 0, .slice none 0 0, .slice none 0 0]], []⟩ 8 (by kernel_rfl) (by kernel_rfl) (by kernel_rfl) (by kernel_rfl)) ?_
  intro W base args ds gs before hval0 hW _ _
  have hval : ∀ (j : Nat) t v, Try.f11.params[j]? = some t → args[j]? = some v → Value.okWide Try.prog W .any base t v := hval0
  have hW' := hW
  obtain ⟨p, q, hA0, hV, rfl, _, _⟩ := hW
  have hA : DataW.TrodAll enc Try.prog W 0 (fun _ => true) true Try.f11.params.toList args.toList ds p := hA0
  rw [Try.params11] at hA hval
  obtain ⟨v0, vs0, d0, ds0, p0, q0, hargs, rfl, rfl, h0, r0⟩ := trodAll_cons hA
  obtain ⟨v1, vs1, d1, ds1, p1, q1, rfl, rfl, rfl, h1, r1⟩ := trodAll_cons r0
  obtain ⟨rfl, rfl, rfl⟩ := trodAll_nil r1
  obtain rfl : args = #[v0, v1] := by cases args; simp_all
  obtain ⟨m0, A0, c0, l0, D0, e0, s0, rfl, g0⟩ := open_fc_arg (hval 0 52 v0 rfl rfl) h0
  obtain ⟨m1, A1, c1, l1, D1, e1, s1, rfl, g1⟩ := open_fc_arg (hval 1 52 v1 rfl rfl) h1
  refine (law m0 A0 c0 l0 D0 e0 s0 m1 A1 c1 l1 D1 e1 s1 W g0 g1).mono fun e W' ⟨he, hb⟩ => ⟨_, he, ?_⟩
  exact law_post laidOut (by kernel_rfl) rfl (by kernel_rfl) Try.underlying4 rfl rfl rfl hW' hb

theorem holds : Rows.FnExactNarrowerBandSaid :=
  OpenClaim.holds_of_wide 11 Try.f11 rfl rfl rfl rfl rfl rfl rfl ⟨rfl, rfl, rfl, rfl, rfl⟩ rfl rfl rfl rfl rfl (by kernel_rfl) Try.func11 (by kernel_rfl)
    (of_decide_eq_true (by kernel_rfl)) (by unfold Func.isWrapper; first | (rw [if_pos (by decide +kernel)]; kernel_rfl) | (rw [if_neg (by decide +kernel)]; exact ⟨rfl, rfl⟩))
    (fun os started H enc _ => lifted os started H enc)

end Go.Proofs.Ytbcbbolakjjglaa.exactNarrowerBand
