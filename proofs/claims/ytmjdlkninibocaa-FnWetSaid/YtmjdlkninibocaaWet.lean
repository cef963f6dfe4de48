
/- FnWet holds for every code: the windows of a level are the minutes at which the ends of the band reach it. No condition. -/
import Derived.Test.YtmjdlkninibocaaRows
import Derived.Test.YtmjdlkninibocaaCodeArg
import Derived.Test.YtmjdlkninibocaaKit
import Derived.Test.YtmjdlkninibocaaDrawFc
import Derived.Test.YtmjdlkninibocaaWinWet
import Derived.Test.YtmjdlkninibocaaWinCount
import Derived.Test.YtmjdlkninibocaaWinHas
namespace Go.Proofs.Ytmjdlkninibocaa.lawWet
open Go.ChangeShapes Go.WideShapes Go.ChangeAt Go.RowKit
set_option maxRecDepth 100000

theorem own : ownKnob Try.prog.godebug = none := by kernel_rfl
theorem laidOut : laidOutB Try.prog = true := by kernel_rfl

theorem has_bool {l : List WindowD} {m : Int} {b : Bool} (h : Has l m ↔ b = true) : hasB l m = b := by
  have h1 := has_iff l m
  cases hb : hasB l m <;> cases b <;> simp_all
theorem new_window {R : List WindowD} {w w' : World} {e : Ending} (h : NewWindow R w e w') (hl : R.length ≤ 1000000000) : ∃ A c, e = .returned (.slice A R.length c) ∧ SlWindow w' (.slice A R.length c) R ∧ Below w.heap.size w w' := by
  obtain ⟨v, rfl, h1, h2⟩ := h
  have hs := OwnWindow.sl h1 hl
  obtain ⟨A, c, rfl⟩ := own_form h1
  exact ⟨A, c, rfl, hs, h2⟩
/-- As many minutes as marks. -/
theorem sum_marks (f : Nat → Bool) (k : Nat) : sumW (ofMarks f k) = (((List.range k).countP f : Nat) : Int) := by
  induction k with
  | zero => rfl
  | succ k ih =>
    rw [List.range_succ, List.countP_append]
    cases hf : f k with
    | false => rw [ofMarks_no hf, ih]; simp [hf]
    | true =>
      rw [ofMarks_yes hf]
      rcases snoc_or (ofMarks f k) with e | ⟨a, y, e⟩
      · rw [e] at ih ⊢
        have h0 : sumW [] = 0 := rfl
        rw [h0] at ih
        rw [markStep_nil]
        have h1 : sumW [(⟨k, k⟩ : WindowD)] = 1 := by show (0 : Int) + ((k : Int) - k + 1) = 1; omega
        rw [h1]
        simp [hf]; omega
      · rw [e, sumW_snoc] at ih
        rw [e]
        by_cases hy : y.tt = k - 1
        · rw [markStep_join hy, sumW_snoc]
          simp [hf]; omega
        · rw [markStep_apart hy, sumW_snoc, sumW_snoc]
          simp [hf]; omega
theorem sum_le {f g : Nat → Bool} (h : ∀ j, j < 2881 → f j = true → g j = true) : sumW (ofMarks f 2881) ≤ sumW (ofMarks g 2881) := by
  rw [sum_marks, sum_marks]
  have := List.countP_mono_left (l := List.range 2881) (p := f) (q := g) (fun j hj => h j (List.mem_range.1 hj))
  omega
theorem has_marks {f : Nat → Bool} {t : Int} (h0 : 0 ≤ t) (h1 : t ≤ 2880) : hasB (ofMarks f 2881) t = f t.toNat := by
  refine has_bool (((ofMarks_spec f 2881 (by omega)).2 t).trans ⟨?_, fun h => ⟨t.toNat, by omega, by omega, h⟩⟩)
  rintro ⟨j, rfl, _, hj⟩
  simpa using hj
theorem ends_le {m : Int} {l : List PartD} {s : List SurgeD} {t : Int} (hf : fcB m l s = true) (h0 : 0 ≤ t) (h1 : t ≤ 2880) : endI false m l s t ≤ endI true m l s t := by
  have hat := sAt_mk hf (inB_mk (x := t) (lo := 0) (hi := 2880) h0 h1)
  have := sAt_facts hat
  rw [endI_lo hat, endI_hi hat]
  omega
theorem wet_le {m : Int} {l : List PartD} {s : List SurgeD} {level : Int} (hf : fcB m l s = true) : sumW (wetL false m l s level) ≤ sumW (wetL true m l s level) := by
  rw [wetL_ok hf, wetL_ok hf]
  refine sum_le (fun j hj h => ?_)
  have := ends_le hf (t := (j : Int)) (by omega) (by omega)
  exact decide_eq_true (by have := of_decide_eq_true h; omega)
theorem wet_has {hi : Bool} {m : Int} {l : List PartD} {s : List SurgeD} {level t : Int} (hf : fcB m l s = true) (h0 : 0 ≤ t) (h1 : t ≤ 2880) : hasB (wetL hi m l s level) t = decide (level ≤ endI hi m l s t) := by
  rw [wetL_ok hf, has_marks h0 h1]
  unfold wetF
  rw [show ((t.toNat : Nat) : Int) = t by omega]
theorem wet_ok {hi : Bool} {m : Int} {l : List PartD} {s : List SurgeD} {level : Int} (hf : fcB m l s = true) : winB (wetL hi m l s level) = true := by
  rw [wetL_ok hf]
  exact (ofMarks_spec _ 2881 (by omega)).1.to

set_option maxHeartbeats 16000000 in
theorem law (A : Option Addr) (n c : Nat) (w : World) (hcode : n ≤ maxLen ∧ (n ≤ 1048576 → CodeAt w A n)) :
    Calls Try.prog 5 #[.slice A n c] w fun e w' => e = .returned (.bool true) ∧ Below w.heap.size w w' := by
  obtain ⟨hn, hcode⟩ := hcode
  have HC := Lib.hid hcode
  clear hcode
  unfold maxLen at hn
  by_cases hbig : 1048576 < n
  · go_enter Try.func5, Try.ntmps5
    go_wp2
    go_ret
    exact ⟨rfl, Below.refl _ _⟩
  · have HC0 := Lib.hid (HC.out (by omega))
    clear HC
    go_enter Try.func5, Try.ntmps5
    go_wp2_with fail
    refine (makeForecast_any A n c w HC0.out).mono ?_
    rintro e w1 ⟨m, A1, k1, l, D1, j1, s, rfl, hf, hs3, hv, hu, hb1⟩
    have hal := Joins.below_alloc1 w1 (.cells #[.int .i64 m, .slice A1 l.length k1, .slice D1 s.length j1] 42)
    have T1 := Lib.hid (FBox.new 42 (m := m) hv hu)
    have B1 := Lib.hid (hb1.trans (hal.mono hb1.size))
    have HC1 := Lib.hid ((HC0.out.below hb1).below hal)
    have HF := Lib.hid hf
    clear hb1 hal hv hu hf hs3 HC0
    go_wp2_with fail
    refine (makeNum_any A n c 60 _ HC1.out (by omega)).mono ?_
    rintro e w2 ⟨x, rfl, x0, x1, hb2⟩
    have T2 := Lib.hid (T1.out.below hb2)
    have B2 := Lib.hid (B1.out.trans (hb2.mono B1.out.size))
    have HC2 := Lib.hid (HC1.out.below hb2)
    obtain ⟨v, hv⟩ : ∃ v, x % 500 - 100 = v := ⟨_, rfl⟩
    have hvw : IntKind.i64.wrap (x % 500 - 100) = v := by rw [IntKind.wrap_i64]; omega
    obtain ⟨x0', x1', x2', _⟩ := T2.out
    clear hb2 T1 B1 HC1 hv
    go_wp2_with fail
    clear hvw x0 x1 x0' x1' x2'

    refine (implLowWindows m _ _ l s v _ T2.out.2.2.2.1 T2.out.2.2.2.2).mono ?_
    intro e w3 hP
    obtain ⟨A3, k3, rfl, hs3, hb3⟩ := new_window hP (by have := wetL_len false m l s v; omega)
    obtain ⟨L, hL⟩ : ∃ L, wetL false m l s v = L := ⟨_, rfl⟩
    rw [hL] at hs3 ⊢
    have HL := Lib.hid hL
    have SL3 := Lib.hid hs3
    have T3 := Lib.hid (T2.out.below hb3)
    have B3 := Lib.hid (B2.out.trans (hb3.mono B2.out.size))
    have HC3 := Lib.hid (HC2.out.below hb3)
    obtain ⟨x0', x1', x2', _⟩ := T3.out
    clear hb3 hs3 hL hP T2 B2 HC2
    go_wp2_with fail
    clear x0' x1' x2'
    refine (implHighWindows m _ _ l s v _ T3.out.2.2.2.1 T3.out.2.2.2.2).mono ?_
    intro e w4 hP
    obtain ⟨A4, k4, rfl, hs4, hb4⟩ := new_window hP (by have := wetL_len true m l s v; omega)
    obtain ⟨H, hH⟩ : ∃ H, wetL true m l s v = H := ⟨_, rfl⟩
    rw [hH] at hs4 ⊢
    have HH := Lib.hid hH
    have SH4 := Lib.hid hs4
    have SL4 := Lib.hid (SL3.out.below hb4)
    have T4 := Lib.hid (T3.out.below hb4)
    have B4 := Lib.hid (B3.out.trans (hb4.mono B3.out.size))
    have HC4 := Lib.hid (HC3.out.below hb4)
    have OL := Lib.hid (show winB L = true by rw [← HL.out]; exact wet_ok HF.out)
    have OH := Lib.hid (show winB H = true by rw [← HH.out]; exact wet_ok HF.out)
    have SUM := Lib.hid (show sumW L ≤ sumW H by rw [← HL.out, ← HH.out]; exact wet_le HF.out)
    have HASL := Lib.hid (show ∀ t, 0 ≤ t → t ≤ 2880 → hasB L t = decide (v ≤ endI false m l s t) from fun t h0 h1 => by rw [← HL.out]; exact wet_has HF.out h0 h1)
    have HASH := Lib.hid (show ∀ t, 0 ≤ t → t ≤ 2880 → hasB H t = decide (v ≤ endI true m l s t) from fun t h0 h1 => by rw [← HH.out]; exact wet_has HF.out h0 h1)
    clear hb4 hs4 hH hP HL HH SL3 T3 B3 HC3
    go_wp2_with fail
    refine (implWindowsOk _ L _ SL4.out).mono ?_
    rw [OL.out]
    rintro e w5 ⟨rfl, hb5⟩
    have SH5 := Lib.hid (SH4.out.below hb5)
    have SL5 := Lib.hid (SL4.out.below hb5)
    have T5 := Lib.hid (T4.out.below hb5)
    have B5 := Lib.hid (B4.out.trans (hb5.mono B4.out.size))
    have HC5 := Lib.hid (HC4.out.below hb5)
    clear hb5 SH4 SL4 T4 B4 HC4
    go_wp2_with fail
    refine (implWindowsOk _ H _ SH5.out).mono ?_
    rw [OH.out]
    rintro e w6 ⟨rfl, hb6⟩
    have SH6 := Lib.hid (SH5.out.below hb6)
    have SL6 := Lib.hid (SL5.out.below hb6)
    have T6 := Lib.hid (T5.out.below hb6)
    have B6 := Lib.hid (B5.out.trans (hb6.mono B5.out.size))
    have HC6 := Lib.hid (HC5.out.below hb6)
    clear hb6 SH5 SL5 T5 B5 HC5
    go_wp2_with fail
    refine (implCountMinutes _ L _ SL6.out).mono ?_
    rw [show countI L = sumW L by unfold countI; rw [OL.out]; rfl]
    rintro e w7 ⟨rfl, hb7⟩
    have SH7 := Lib.hid (SH6.out.below hb7)
    have SL7 := Lib.hid (SL6.out.below hb7)
    have T7 := Lib.hid (T6.out.below hb7)
    have B7 := Lib.hid (B6.out.trans (hb7.mono B6.out.size))
    have HC7 := Lib.hid (HC6.out.below hb7)
    clear hb7 SH6 SL6 T6 B6 HC6
    go_wp2_with fail
    refine (implCountMinutes _ H _ SH7.out).mono ?_
    rw [show countI H = sumW H by unfold countI; rw [OH.out]; rfl]
    rintro e w8 ⟨rfl, hb8⟩
    have SH8 := Lib.hid (SH7.out.below hb8)
    have SL8 := Lib.hid (SL7.out.below hb8)
    have T8 := Lib.hid (T7.out.below hb8)
    have B8 := Lib.hid (B7.out.trans (hb8.mono B7.out.size))
    have HC8 := Lib.hid (HC7.out.below hb8)
    clear hb8 SH7 SL7 T7 B7 HC7
    have hsum := SUM.out
    have hd : decide (sumW H < sumW L) = false := decide_eq_false (by omega)
    obtain ⟨x0', x1', x2', _⟩ := T8.out
    clear SUM hsum
    go_wp2_with fail
    clear hd x0' x1' x2'
    refine (implForecastOk m _ _ l s _ T8.out.2.2.2.1 T8.out.2.2.2.2).mono ?_
    rw [HF.out]
    rintro e w9 ⟨rfl, hb9⟩
    have SH9 := Lib.hid (SH8.out.below hb9)
    have SL9 := Lib.hid (SL8.out.below hb9)
    have T9 := Lib.hid (T8.out.below hb9)
    have B9 := Lib.hid (B8.out.trans (hb9.mono B8.out.size))
    have HC9 := Lib.hid (HC8.out.below hb9)
    clear hb9 SH8 SL8 T8 B8 HC8
    go_wp2_with fail
    refine (makeNum_any A n c 62 _ HC9.out (by omega)).mono ?_
    rintro e w10 ⟨z, rfl, z0, z1, hb10⟩
    have SH10 := Lib.hid (SH9.out.below hb10)
    have SL10 := Lib.hid (SL9.out.below hb10)
    have T10 := Lib.hid (T9.out.below hb10)
    have B10 := Lib.hid (B9.out.trans (hb10.mono B9.out.size))
    have HC10 := Lib.hid (HC9.out.below hb10)
    clear hb10 SH9 SL9 T9 B9 HC9
    obtain ⟨a, ha⟩ : ∃ a, z % 2600 = a := ⟨_, rfl⟩
    have a0 : 0 ≤ a := by omega
    have a1 : a < 2600 := by omega
    go_wp2
    rw [ha]
    clear ha z0 z1
    have hlast : IntKind.i64.wrap (a + 200) = a + 200 := by rw [IntKind.wrap_i64]; omega
    go_loopw [8] (fun i wr => ∃ k : Nat, k ≤ 200 ∧ i = .int .i64 (a + (k : Int)) ∧ Hid (Below w10.heap.size w10 wr)) (fun i _ => (a + 200 - intOf i).toNat)
    case atStart => exact ⟨0, by omega, by simp, Lib.hid (Below.refl _ _)⟩
    case round =>
      obtain ⟨k, hk, rfl, hB⟩ := hrel
      by_cases hlt : k < 200
      · have hh1 := Lib.hid (HASL.out (a + (k : Int)) (by omega) (by omega))
        have hh2 := Lib.hid (HASH.out (a + (k : Int)) (by omega) (by omega))
        obtain ⟨eL, hE1⟩ : ∃ eL, endI false m l s (a + (k : Int)) = eL := ⟨_, rfl⟩
        obtain ⟨eH, hE2⟩ : ∃ eH, endI true m l s (a + (k : Int)) = eH := ⟨_, rfl⟩
        rw [hE1] at hh1
        rw [hE2] at hh2
        have HE1 := Lib.hid hE1
        have HE2 := Lib.hid hE2
        clear hE1 hE2
        obtain ⟨t, ht⟩ : ∃ t, a + (k : Int) = t := ⟨_, rfl⟩
        rw [ht] at hh1 hh2 HE1 HE2 ⊢
        have hlt2 : t < a + 200 := by omega
        have HSR := Lib.hid (SH10.out.below hB.out)
        have LSR := Lib.hid (SL10.out.below hB.out)
        have TR := Lib.hid (T10.out.below hB.out)
        obtain ⟨x0', x1', x2', _⟩ := TR.out
        have DD := Lib.hid ((Below.refl wr.heap.size wr).drew)
        have n1 : (decide (v ≤ eL) != decide (v ≤ eL)) = false := by simp
        have n2 : (decide (v ≤ eH) != decide (v ≤ eH)) = false := by simp
        go_upto_region 13 with fail
        go_cut [73] (fun s73 wx => s73 = .bool false ∧ Hid (Below wr.heap.size wr wx))
        case first =>
          refine wp_region_held_drew (S := (fun w' => w'.cell? ⟨w1.heap.size, 0, none⟩ = some (.int .i64 m) ∧ w'.cell? ⟨w1.heap.size, 1, none⟩ = some (.slice A1 l.length k1) ∧ w'.cell? ⟨w1.heap.size, 2, none⟩ = some (.slice D1 s.length j1) ∧ Hid (Below wr.heap.size wr w'))) (by kernel_rfl) ?_ (fun hHeld => ?_)
          · (try dsimp only); go_keep
          refine wpAnyH_take (i := 0) (v := ?_) (by simp only [List.getElem?_toArray, List.getElem?_cons_zero]; rfl) (by kernel_rfl) (by kernel_rfl) (by kernel_rfl) (by exact fun _ _ _ h => h) (Or.inl ⟨by rfl, ?_⟩) (by assumption) ?_; rotate_left; focus (intro w hSw; (try dsimp only at hSw); first | (go_simp; done) | (go_simp; with_reducible rfl))
          try simp only [Act.put, List.setIfInBounds_toArray, List.set_cons_zero, List.set_cons_succ]
          refine wpAnyH_take (i := 1) (v := ?_) (by simp only [List.getElem?_toArray, List.getElem?_cons_succ, List.getElem?_cons_zero]; rfl) (by kernel_rfl) (by kernel_rfl) (by kernel_rfl) (by exact fun _ _ _ h => h) (Or.inl ⟨by rfl, ?_⟩) (by assumption) ?_; rotate_left; focus (intro w hSw; (try dsimp only at hSw); first | (go_simp; done) | (go_simp; with_reducible rfl))
          try simp only [Act.put, List.setIfInBounds_toArray, List.set_cons_zero, List.set_cons_succ]
          refine wpAnyH_take (i := 3) (v := ?_) (by simp only [List.getElem?_toArray, List.getElem?_cons_succ, List.getElem?_cons_zero]; rfl) (by kernel_rfl) (by kernel_rfl) (by kernel_rfl) (by exact fun _ _ _ h => h) (Or.inl ⟨by rfl, ?_⟩) (by assumption) ?_; rotate_left; focus (intro w hSw; (try dsimp only at hSw); first | (go_simp; done) | (go_simp; with_reducible rfl))
          try simp only [Act.put, List.setIfInBounds_toArray, List.set_cons_zero, List.set_cons_succ]
          refine wpAnyH_take (i := 4) (v := ?_) (by simp only [List.getElem?_toArray, List.getElem?_cons_succ, List.getElem?_cons_zero]; rfl) (by kernel_rfl) (by kernel_rfl) (by kernel_rfl) (by exact fun _ _ _ h => h) (Or.inl ⟨by rfl, ?_⟩) (by assumption) ?_; rotate_left; focus (intro w hSw; (try dsimp only at hSw); first | (go_simp; done) | (go_simp; with_reducible rfl))
          try simp only [Act.put, List.setIfInBounds_toArray, List.set_cons_zero, List.set_cons_succ]
          refine wpAnyH_take (i := 6) (v := ?_) (by simp only [List.getElem?_toArray, List.getElem?_cons_succ, List.getElem?_cons_zero]; rfl) (by kernel_rfl) (by kernel_rfl) (by kernel_rfl) (by exact fun _ _ _ h => h) (Or.inl ⟨by rfl, ?_⟩) (by assumption) ?_; rotate_left; focus (intro w hSw; (try dsimp only at hSw); first | (go_simp; done) | (go_simp; with_reducible rfl))
          try simp only [Act.put, List.setIfInBounds_toArray, List.set_cons_zero, List.set_cons_succ]
          refine wpAnyH_ready (rs := [2]) (by kernel_rfl) (by simp) ?_
          refine AllReadyH.cons rfl (fun K hK => ?_) AllReadyH.nil
          rw [if_pos (by rfl)]
          go_simp
          go_at_call 13
          have kB := hHeld.2.2.2
          refine (implHasMinute _ L t _ (LSR.out.below kB.out)).mono ?_
          rw [hh1.out]
          rintro e wk2 ⟨rfl, hbk⟩
          have Q := Lib.hid (fb_keep TR.out kB hbk)
          clear hbk kB hHeld
          go_simp
          refine hK.out _ _ ?_ (fun hHeld => ?_)
          · (try dsimp only); exact Q.out
          clear hK K
          try simp only [Act.put, List.setIfInBounds_toArray, List.set_cons_zero, List.set_cons_succ]
          refine wpAnyH_ready (rs := [5]) (by kernel_rfl) (by simp) ?_
          refine AllReadyH.cons rfl (fun K hK => ?_) AllReadyH.nil
          rw [if_pos (by rfl)]
          go_simp
          go_at_call 21
          have kB := hHeld.2.2.2
          have kT := Lib.hid (TR.out.below kB.out)
          refine (implLowAt m _ _ l s t _ kT.out.2.2.2.1 kT.out.2.2.2.2).mono ?_
          rw [HE1.out]
          rintro e wk5 ⟨rfl, hbk⟩
          have Q := Lib.hid (fb_keep TR.out kB hbk)
          clear hbk kB kT hHeld
          go_simp
          refine hK.out _ _ ?_ (fun hHeld => ?_)
          · (try dsimp only); exact Q.out
          clear hK K
          try simp only [Act.put, List.setIfInBounds_toArray, List.set_cons_zero, List.set_cons_succ]
          refine wpAnyH_take (i := 7) (v := ?_) (by simp only [List.getElem?_toArray, List.getElem?_cons_succ, List.getElem?_cons_zero]; rfl) (by kernel_rfl) (by kernel_rfl) (by kernel_rfl) (by exact fun _ _ _ h => h) (Or.inl ⟨by rfl, ?_⟩) (by assumption) ?_; rotate_left; focus (intro w hSw; (try dsimp only at hSw); first | (go_simp; done) | (go_simp; with_reducible rfl))
          try simp only [Act.put, List.setIfInBounds_toArray, List.set_cons_zero, List.set_cons_succ]
          refine wpAnyH_take (i := 8) (v := ?_) (by simp only [List.getElem?_toArray, List.getElem?_cons_succ, List.getElem?_cons_zero]; rfl) (by kernel_rfl) (by kernel_rfl) (by kernel_rfl) (by exact fun _ _ _ h => h) (Or.inl ⟨by rfl, ?_⟩) (by assumption) ?_; rotate_left; focus (intro w hSw; (try dsimp only at hSw); first | (go_simp; done) | (go_simp; with_reducible rfl))
          try simp only [Act.put, List.setIfInBounds_toArray, List.set_cons_zero, List.set_cons_succ]
          refine wpAnyH_take (i := 9) (v := ?_) (by simp only [List.getElem?_toArray, List.getElem?_cons_succ, List.getElem?_cons_zero]; rfl) (by kernel_rfl) (by kernel_rfl) (by kernel_rfl) (by exact fun _ _ _ h => h) (Or.inl ⟨by rfl, ?_⟩) (by assumption) ?_; rotate_left; focus (intro w hSw; (try dsimp only at hSw); first | (go_simp; done) | (go_simp; with_reducible rfl))
          try simp only [Act.put, List.setIfInBounds_toArray, List.set_cons_zero, List.set_cons_succ]
          refine wpAnyH_take (i := 10) (v := ?_) (by simp only [List.getElem?_toArray, List.getElem?_cons_succ, List.getElem?_cons_zero]; rfl) (by kernel_rfl) (by kernel_rfl) (by kernel_rfl) (by exact fun _ _ _ h => h) (Or.inl ⟨by rfl, ?_⟩) (by assumption) ?_; rotate_left; focus (intro w hSw; (try dsimp only at hSw); first | (go_simp; done) | (go_simp; with_reducible rfl))
          try simp only [Act.put, List.setIfInBounds_toArray, List.set_cons_zero, List.set_cons_succ]
          refine wpAnyH_take (i := 11) (v := ?_) (by simp only [List.getElem?_toArray, List.getElem?_cons_succ, List.getElem?_cons_zero]; rfl) (by kernel_rfl) (by kernel_rfl) (by kernel_rfl) (by exact fun _ _ _ h => h) (Or.inl ⟨by rfl, ?_⟩) (by assumption) ?_; rotate_left; focus (intro w hSw; (try dsimp only at hSw); first | (go_simp; done) | (go_simp; with_reducible rfl))
          try simp only [Act.put, List.setIfInBounds_toArray, List.set_cons_zero, List.set_cons_succ]
          refine wpAnyH_take (i := 13) (v := ?_) (by simp only [List.getElem?_toArray, List.getElem?_cons_succ, List.getElem?_cons_zero]; rfl) (by kernel_rfl) (by kernel_rfl) (by kernel_rfl) (by exact fun _ _ _ h => h) (Or.inl ⟨by rfl, ?_⟩) (by assumption) ?_; rotate_left; focus (intro w hSw; (try dsimp only at hSw); first | (go_simp; done) | (go_simp; with_reducible rfl))
          try simp only [Act.put, List.setIfInBounds_toArray, List.set_cons_zero, List.set_cons_succ]
          refine wpAnyH_take (i := 14) (v := ?_) (by simp only [List.getElem?_toArray, List.getElem?_cons_succ, List.getElem?_cons_zero]; rfl) (by kernel_rfl) (by kernel_rfl) (by kernel_rfl) (by exact fun _ _ _ h => h) (Or.inl ⟨by rfl, ?_⟩) (by assumption) ?_; rotate_left; focus (intro w hSw; (try dsimp only at hSw); first | (go_simp; done) | (go_simp; with_reducible rfl))
          try simp only [Act.put, List.setIfInBounds_toArray, List.set_cons_zero, List.set_cons_succ]
          refine wpAnyH_take (i := 16) (v := ?_) (by simp only [List.getElem?_toArray, List.getElem?_cons_succ, List.getElem?_cons_zero]; rfl) (by kernel_rfl) (by kernel_rfl) (by kernel_rfl) (by exact fun _ _ _ h => h) (Or.inl ⟨by rfl, ?_⟩) (by assumption) ?_; rotate_left; focus (intro w hSw; (try dsimp only at hSw); first | (go_simp; done) | (go_simp; with_reducible rfl))
          try simp only [Act.put, List.setIfInBounds_toArray, List.set_cons_zero, List.set_cons_succ]
          refine wpAnyH_ready (rs := [12]) (by kernel_rfl) (by simp) ?_
          refine AllReadyH.cons rfl (fun K hK => ?_) AllReadyH.nil
          rw [if_pos (by rfl)]
          go_simp
          go_at_call 13
          have kB := hHeld.2.2.2
          refine (implHasMinute _ H t _ (HSR.out.below kB.out)).mono ?_
          rw [hh2.out]
          rintro e wk12 ⟨rfl, hbk⟩
          have Q := Lib.hid (fb_keep TR.out kB hbk)
          clear hbk kB hHeld
          go_simp
          refine hK.out _ _ ?_ (fun hHeld => ?_)
          · (try dsimp only); exact Q.out
          clear hK K
          try simp only [Act.put, List.setIfInBounds_toArray, List.set_cons_zero, List.set_cons_succ]
          refine wpAnyH_ready (rs := [15]) (by kernel_rfl) (by simp) ?_
          refine AllReadyH.cons rfl (fun K hK => ?_) AllReadyH.nil
          rw [if_pos (by rfl)]
          go_simp
          go_at_call 22
          have kB := hHeld.2.2.2
          have kT := Lib.hid (TR.out.below kB.out)
          refine (implHighAt m _ _ l s t _ kT.out.2.2.2.1 kT.out.2.2.2.2).mono ?_
          rw [HE2.out]
          rintro e wk15 ⟨rfl, hbk⟩
          have Q := Lib.hid (fb_keep TR.out kB hbk)
          clear hbk kB kT hHeld
          go_simp
          refine hK.out _ _ ?_ (fun hHeld => ?_)
          · (try dsimp only); exact Q.out
          clear hK K
          try simp only [Act.put, List.setIfInBounds_toArray, List.set_cons_zero, List.set_cons_succ]
          refine wpAnyH_take (i := 17) (v := ?_) (by simp only [List.getElem?_toArray, List.getElem?_cons_succ, List.getElem?_cons_zero]; rfl) (by kernel_rfl) (by kernel_rfl) (by kernel_rfl) (by exact fun _ _ _ h => h) (Or.inl ⟨by rfl, ?_⟩) (by assumption) ?_; rotate_left; focus (intro w hSw; (try dsimp only at hSw); first | (go_simp; done) | (go_simp; with_reducible rfl))
          try simp only [Act.put, List.setIfInBounds_toArray, List.set_cons_zero, List.set_cons_succ]
          refine wpAnyH_take (i := 18) (v := ?_) (by simp only [List.getElem?_toArray, List.getElem?_cons_succ, List.getElem?_cons_zero]; rfl) (by kernel_rfl) (by kernel_rfl) (by kernel_rfl) (by exact fun _ _ _ h => h) (Or.inl ⟨by rfl, ?_⟩) (by assumption) ?_; rotate_left; focus (intro w hSw; (try dsimp only at hSw); first | (go_simp; done) | (go_simp; with_reducible rfl))
          try simp only [Act.put, List.setIfInBounds_toArray, List.set_cons_zero, List.set_cons_succ]
          refine wpAnyH_take (i := 19) (v := ?_) (by simp only [List.getElem?_toArray, List.getElem?_cons_succ, List.getElem?_cons_zero]; rfl) (by kernel_rfl) (by kernel_rfl) (by kernel_rfl) (by exact fun _ _ _ h => h) (Or.inl ⟨by rfl, ?_⟩) (by assumption) ?_; rotate_left; focus (intro w hSw; (try dsimp only at hSw); first | (go_simp; done) | (go_simp; with_reducible rfl))
          try simp only [Act.put, List.setIfInBounds_toArray, List.set_cons_zero, List.set_cons_succ]
          refine wpAnyH_done (by kernel_rfl) ?_ _
          go_wp2_with fail
          go_meet
          exact ⟨rfl, hHeld.2.2.2⟩
        case rest =>
          obtain ⟨rfl, hb11⟩ := hcut
          have B11 := Lib.hid (hB.out.trans (hb11.out.mono hB.out.size))
          have hnext : IntKind.i64.wrap (t + 1) = t + 1 := by rw [IntKind.wrap_i64]; omega
          clear hb11
          go_wp2
          go_roundw
          case rel => exact ⟨k + 1, by omega, by rw [← ht]; congr 1; omega, B11⟩
          case measure => simp [intOf]; omega
      · obtain rfl : k = 200 := by omega
        have B11 := Lib.hid (B10.out.trans (hB.out.mono B10.out.size))
        go_wp2
        go_ret
        exact ⟨rfl, B11.out⟩

set_option maxRecDepth 100000 in
theorem lifted (os : Os) (started : os.Started) (H : Type) (enc : TypeId × Value → H) :
    ReturnsInHanded {} Try.checked os 5 .any (Rows.fnWetSpec.pre6 enc Try.prog Try.f5 Rows.fnWetRow.domain false) (Rows.fnWetSpec.post enc Try.prog Try.f5 false true false false) := by
  refine returnsInHanded_of_change (C := Try.checked) own started (by kernel_rfl) Try.func5
    (ChangeSpec.witness6 (enc := enc) (C := Try.checked) false ⟨#[], #[.slice none 0 0], []⟩ 8 (by kernel_rfl) (by kernel_rfl) (by kernel_rfl) (by kernel_rfl)) ?_
  intro W base args ds gs before hval0 hW _ _
  have hval : ∀ (j : Nat) t v, Try.f5.params[j]? = some t → args[j]? = some v → Value.okWide Try.prog W .any base t v := hval0
  have hW' := hW
  obtain ⟨p, q, hA0, hV, rfl, _, _⟩ := hW
  have hA : DataW.TrodAll enc Try.prog W 0 (fun _ => true) true Try.f5.params.toList args.toList ds p := hA0
  rw [Try.params5] at hA hval
  obtain ⟨v0, vs0, d0, ds0, p0, q0, hargs, rfl, rfl, h0, r0⟩ := trodAll_cons hA
  obtain ⟨rfl, rfl, rfl⟩ := trodAll_nil r0
  obtain rfl : args = #[v0] := by cases args; simp_all
  obtain ⟨A0, n0, c0, rfl, g0⟩ := open_code_arg (hval 0 22 v0 rfl rfl) h0
  refine (law A0 n0 c0 W g0).mono fun e W' ⟨he, hb⟩ => ⟨_, he, ?_⟩
  exact law_post laidOut (by kernel_rfl) rfl (by kernel_rfl) Try.underlying4 rfl rfl rfl hW' hb

theorem holds : Rows.FnWetSaid :=
  OpenClaim.holds_of_wide 5 Try.f5 rfl rfl rfl rfl rfl rfl rfl ⟨rfl, rfl, rfl, rfl, rfl⟩ rfl rfl rfl rfl rfl (by kernel_rfl) Try.func5 (by kernel_rfl)
    (of_decide_eq_true (by kernel_rfl)) (by unfold Func.isWrapper; first | (rw [if_pos (by decide +kernel)]; kernel_rfl) | (rw [if_neg (by decide +kernel)]; exact ⟨rfl, rfl⟩))
    (fun os started H enc _ => lifted os started H enc)

end Go.Proofs.Ytmjdlkninibocaa.lawWet

