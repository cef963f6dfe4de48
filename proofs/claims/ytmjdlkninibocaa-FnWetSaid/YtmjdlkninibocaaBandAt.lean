
/- The ends of the band at a minute: levelAtEnd, LowAt, HighAt of the program and of the model: contracts. -/
import Derived.Test.YtmjdlkninibocaaSurgeAt
namespace Go.Proofs.Ytmjdlkninibocaa
open Go.RowKit
set_option maxRecDepth 100000

/-- The level at the end of the band that the second argument picks; 0 outside. -/
def endI (hi : Bool) (m : Int) (l : List PartD) (s : List SurgeD) (t : Int) : Int := if sAt m l s t = true then levI m l t + (if hi = true then (atS s t).hi else (atS s t).lo) else 0
theorem endI_no {hi : Bool} {m : Int} {l : List PartD} {s : List SurgeD} {t : Int} (h : sAt m l s t = false) : endI hi m l s t = 0 := if_neg (by rw [h]; simp)
theorem endI_lo {m : Int} {l : List PartD} {s : List SurgeD} {t : Int} (h : sAt m l s t = true) : endI false m l s t = levI m l t + (atS s t).lo := if_pos h
theorem endI_hi {m : Int} {l : List PartD} {s : List SurgeD} {t : Int} (h : sAt m l s t = true) : endI true m l s t = levI m l t + (atS s t).hi := if_pos h
theorem sAt_facts {m : Int} {l : List PartD} {s : List SurgeD} {t : Int} (h : sAt m l s t = true) : tideB m l = true ∧ 0 ≤ t ∧ t ≤ 2880 ∧ -5000 ≤ levI m l t ∧ levI m l t ≤ 5000 ∧ -500 ≤ (atS s t).lo ∧ (atS s t).lo ≤ (atS s t).hi ∧ (atS s t).hi ≤ 500 := by
  obtain ⟨hf, t0, t1⟩ := sAt_true h
  obtain ⟨ht, s0, _, _, hall⟩ := fcB_true hf
  obtain ⟨m0, m1, hlen, hpart⟩ := tideB_true ht
  have hl := levI_le m t l hpart
  have hs := surgeB_true (atS_ok (t := t) s0 hall)
  exact ⟨ht, t0, t1, by omega, by omega, hs.2.2.1, hs.2.2.2.1, hs.2.2.2.2⟩
theorem atI_sAt {m : Int} {l : List PartD} {s : List SurgeD} {t : Int} (h : sAt m l s t = true) : atI m l t = levI m l t := by
  obtain ⟨ht, t0, t1, _⟩ := sAt_facts h
  exact atI_yes ht t0 t1

/-- LevelAt keeps the cells that lay before it. -/
theorem cells_on {a b : World} (hb : Below a.heap.size a b) : ∀ (p : Addr) (v : Value), a.cell? p = some v → b.cell? p = some v := fun _ _ h => cell_on h hb

theorem levelAt_keep {W : World} {b1 b2 : Nat} {m : Int} {v u : Value} {l : List PartD} {s : List SurgeD} {t xl xh : Int} (hT : FBox W b1 m v u l s) (w0 : World) (hb : Hid (Below W.heap.size W w0)) (h0 : w0.cell? ⟨b2, 0, none⟩ = some (.int .i64 xl)) (h1 : w0.cell? ⟨b2, 1, none⟩ = some (.int .i64 xh)) :
    Calls Try.prog 56 #[.agg #[.int .i64 m, v], .int .i64 t] w0 fun e w1 => e = .returned (.int .i64 (atI m l t)) ∧ w1.cell? ⟨b1, 0, none⟩ = some (.int .i64 m) ∧ w1.cell? ⟨b1, 1, none⟩ = some v ∧ w1.cell? ⟨b2, 0, none⟩ = some (.int .i64 xl) ∧ w1.cell? ⟨b2, 1, none⟩ = some (.int .i64 xh) ∧ Hid (Below W.heap.size W w1) := by
  have hT0 := hT.below hb.out
  refine (implLevelAt m v l t w0 hT0.2.2.2.1).mono ?_
  rintro e w1 ⟨rfl, hb1⟩
  have hT1 := hT0.below hb1
  exact ⟨rfl, hT1.1, hT1.2.1, cell_on h0 hb1, cell_on h1 hb1, Lib.hid (hb.out.trans (hb1.mono hb.out.size))⟩

set_option maxHeartbeats 2000000 in
theorem levelAtEndLo (m : Int) (v u : Value) (l : List PartD) (s : List SurgeD) (t : Int) (w : World) (h : SlP w v l) (h' : SlSurge w u s) :
    Calls Try.prog 43 #[.agg #[.int .i64 m, v, u], .int .i64 t, .int .i64 0] w fun e w' => e = .returned (.int .i64 (endI false m l s t)) ∧ Below w.heap.size w w' := by
  have H := Lib.hid h
  have H' := Lib.hid h'
  obtain ⟨A, c, rfl⟩ := h.at
  obtain ⟨A', c', rfl⟩ := h'.at
  clear h h'
  have F0 := Lib.hid (FBox.new 42 (m := m) H.out H'.out)
  have B0 := Lib.hid (Joins.below_alloc1 w (.cells #[.int .i64 m, .slice A l.length c, .slice A' s.length c'] 42))
  cases ha : sAt m l s t with
  | false =>
    have E := Lib.hid (endI_no (hi := false) ha)
    have R := Lib.hid (sRes_no ha)
    clear ha
    go_enter Try.func43, Try.ntmps43
    go_wp2_with fail
    refine (implSurgeAt m _ _ l s t _ F0.out.2.2.2.1 F0.out.2.2.2.2).mono ?_
    rw [R.out]
    rintro e w1 ⟨rfl, hb1⟩
    go_wp2
    go_ret
    exact ⟨ret_int E.out.symm, B0.out.trans (hb1.mono B0.out.size)⟩
  | true =>
    obtain ⟨_, _, _, l0, l1, q0, q1, q2⟩ := sAt_facts ha
    have E := Lib.hid (endI_lo ha)
    have R := Lib.hid (sRes_yes ha)
    have TA := Lib.hid (atI_sAt ha)
    obtain ⟨x, hx⟩ : ∃ x, atS s t = x := ⟨_, rfl⟩
    rw [hx] at q0 q1 q2
    have HX := Lib.hid hx
    obtain ⟨xa, xl, xh⟩ := x
    simp only at q0 q1 q2
    clear ha hx
    go_enter Try.func43, Try.ntmps43
    go_wp2_with fail
    refine (implSurgeAt m _ _ l s t _ F0.out.2.2.2.1 F0.out.2.2.2.2).mono ?_
    rw [R.out, HX.out]
    rintro e w1 ⟨rfl, hb1⟩
    have F1 := Lib.hid (F0.out.below hb1)
    have B1 := Lib.hid (B0.out.trans (hb1.mono B0.out.size))
    have hs := B1.out.size
    have hbs : w.heap.size < w1.heap.size := by have := hb1.size; simp at this; omega
    obtain ⟨x0, x1, _⟩ := F1.out
    clear hb1
    have D1 := Lib.hid (((Below.refl w1.heap.size w1).alloc (Nat.le_refl _) (.cells #[.int .i64 xl, .int .i64 xh] 85)).drew)
    have F2 := Lib.hid (F1.out.below ((Below.refl w1.heap.size w1).alloc (Nat.le_refl _) (.cells #[.int .i64 xl, .int .i64 xh] 85)))
    go_wp2
    go_region_held3 (fun w' => w'.cell? ⟨w.heap.size, 0, none⟩ = some (.int .i64 m) ∧ w'.cell? ⟨w.heap.size, 1, none⟩ = some (.slice A l.length c) ∧ w'.cell? ⟨w1.heap.size, 0, none⟩ = some (.int .i64 xl) ∧ w'.cell? ⟨w1.heap.size, 1, none⟩ = some (.int .i64 xh) ∧ Hid (Below w1.heap.size w1 w')) (go_keep)
      (first
        | (go_at_call 56; refine (levelAt_keep (b2 := w1.heap.size) (xl := xl) (xh := xh) (t := t) F1.out _ ?_ ?_ ?_).mono ?_; (simp [*]); (simp [*]); (simp [*]); rw [TA.out]; rintro e w7 ⟨rfl, y0, y1, y2, y3, y4⟩))
    all_goals
      go_wp2
      go_ret
      refine ⟨ret_int ?_, ?_⟩
      · rw [E.out, HX.out]; exact IntWalk.i64_in _ (by omega)
      · first | exact B1.out.trans (y4.out.mono B1.out.size) | skip

set_option maxHeartbeats 2000000 in
theorem levelAtEndHi (m : Int) (v u : Value) (l : List PartD) (s : List SurgeD) (t : Int) (w : World) (h : SlP w v l) (h' : SlSurge w u s) :
    Calls Try.prog 43 #[.agg #[.int .i64 m, v, u], .int .i64 t, .int .i64 1] w fun e w' => e = .returned (.int .i64 (endI true m l s t)) ∧ Below w.heap.size w w' := by
  have H := Lib.hid h
  have H' := Lib.hid h'
  obtain ⟨A, c, rfl⟩ := h.at
  obtain ⟨A', c', rfl⟩ := h'.at
  clear h h'
  have F0 := Lib.hid (FBox.new 42 (m := m) H.out H'.out)
  have B0 := Lib.hid (Joins.below_alloc1 w (.cells #[.int .i64 m, .slice A l.length c, .slice A' s.length c'] 42))
  cases ha : sAt m l s t with
  | false =>
    have E := Lib.hid (endI_no (hi := true) ha)
    have R := Lib.hid (sRes_no ha)
    clear ha
    go_enter Try.func43, Try.ntmps43
    go_wp2_with fail
    refine (implSurgeAt m _ _ l s t _ F0.out.2.2.2.1 F0.out.2.2.2.2).mono ?_
    rw [R.out]
    rintro e w1 ⟨rfl, hb1⟩
    go_wp2
    go_ret
    exact ⟨ret_int E.out.symm, B0.out.trans (hb1.mono B0.out.size)⟩
  | true =>
    obtain ⟨_, _, _, l0, l1, q0, q1, q2⟩ := sAt_facts ha
    have E := Lib.hid (endI_hi ha)
    have R := Lib.hid (sRes_yes ha)
    have TA := Lib.hid (atI_sAt ha)
    obtain ⟨x, hx⟩ : ∃ x, atS s t = x := ⟨_, rfl⟩
    rw [hx] at q0 q1 q2
    have HX := Lib.hid hx
    obtain ⟨xa, xl, xh⟩ := x
    simp only at q0 q1 q2
    clear ha hx
    go_enter Try.func43, Try.ntmps43
    go_wp2_with fail
    refine (implSurgeAt m _ _ l s t _ F0.out.2.2.2.1 F0.out.2.2.2.2).mono ?_
    rw [R.out, HX.out]
    rintro e w1 ⟨rfl, hb1⟩
    have F1 := Lib.hid (F0.out.below hb1)
    have B1 := Lib.hid (B0.out.trans (hb1.mono B0.out.size))
    have hs := B1.out.size
    have hbs : w.heap.size < w1.heap.size := by have := hb1.size; simp at this; omega
    obtain ⟨x0, x1, _⟩ := F1.out
    clear hb1
    have D1 := Lib.hid (((Below.refl w1.heap.size w1).alloc (Nat.le_refl _) (.cells #[.int .i64 xl, .int .i64 xh] 85)).drew)
    have F2 := Lib.hid (F1.out.below ((Below.refl w1.heap.size w1).alloc (Nat.le_refl _) (.cells #[.int .i64 xl, .int .i64 xh] 85)))
    go_wp2
    go_region_held3 (fun w' => w'.cell? ⟨w.heap.size, 0, none⟩ = some (.int .i64 m) ∧ w'.cell? ⟨w.heap.size, 1, none⟩ = some (.slice A l.length c) ∧ w'.cell? ⟨w1.heap.size, 0, none⟩ = some (.int .i64 xl) ∧ w'.cell? ⟨w1.heap.size, 1, none⟩ = some (.int .i64 xh) ∧ Hid (Below w1.heap.size w1 w')) (go_keep)
      (first
        | (go_at_call 56; refine (levelAt_keep (b2 := w1.heap.size) (xl := xl) (xh := xh) (t := t) F1.out _ ?_ ?_ ?_).mono ?_; (simp [*]); (simp [*]); (simp [*]); rw [TA.out]; rintro e w7 ⟨rfl, y0, y1, y2, y3, y4⟩))
    all_goals
      go_wp2
      go_ret
      refine ⟨ret_int ?_, ?_⟩
      · rw [E.out, HX.out]; exact IntWalk.i64_in _ (by omega)
      · first | exact B1.out.trans (y4.out.mono B1.out.size) | skip

set_option maxHeartbeats 1000000 in
theorem implLowAt (m : Int) (v u : Value) (l : List PartD) (s : List SurgeD) (t : Int) (w : World) (h : SlP w v l) (h' : SlSurge w u s) :
    Calls Try.prog 21 #[.agg #[.int .i64 m, v, u], .int .i64 t] w fun e w' => e = .returned (.int .i64 (endI false m l s t)) ∧ Below w.heap.size w w' := by
  have H := Lib.hid h
  have H' := Lib.hid h'
  obtain ⟨A, c, rfl⟩ := h.at
  obtain ⟨A', c', rfl⟩ := h'.at
  clear h h'
  have F0 := Lib.hid (FBox.new 42 (m := m) H.out H'.out)
  go_enter Try.func21, Try.ntmps21
  go_wp2_with fail
  refine (levelAtEndLo m _ _ l s t _ F0.out.2.2.2.1 F0.out.2.2.2.2).mono ?_
  rintro e w1 ⟨rfl, hb1⟩
  go_wp2
  go_ret
  exact ⟨rfl, (Joins.below_alloc1 _ _).trans (hb1.mono (by simp))⟩

set_option maxHeartbeats 1000000 in
theorem implHighAt (m : Int) (v u : Value) (l : List PartD) (s : List SurgeD) (t : Int) (w : World) (h : SlP w v l) (h' : SlSurge w u s) :
    Calls Try.prog 22 #[.agg #[.int .i64 m, v, u], .int .i64 t] w fun e w' => e = .returned (.int .i64 (endI true m l s t)) ∧ Below w.heap.size w w' := by
  have H := Lib.hid h
  have H' := Lib.hid h'
  obtain ⟨A, c, rfl⟩ := h.at
  obtain ⟨A', c', rfl⟩ := h'.at
  clear h h'
  have F0 := Lib.hid (FBox.new 42 (m := m) H.out H'.out)
  go_enter Try.func22, Try.ntmps22
  go_wp2_with fail
  refine (levelAtEndHi m _ _ l s t _ F0.out.2.2.2.1 F0.out.2.2.2.2).mono ?_
  rintro e w1 ⟨rfl, hb1⟩
  go_wp2
  go_ret
  exact ⟨rfl, (Joins.below_alloc1 _ _).trans (hb1.mono (by simp))⟩

/-- InBand. -/
def bandB (m : Int) (l : List PartD) (s : List SurgeD) (t x : Int) : Bool := sAt m l s t && inB x (endI false m l s t) (endI true m l s t)
theorem bandB_no {m : Int} {l : List PartD} {s : List SurgeD} {t x : Int} (h : sAt m l s t = false) : bandB m l s t x = false := by unfold bandB; rw [h]; rfl
theorem bandB_yes {m : Int} {l : List PartD} {s : List SurgeD} {t x : Int} (h : sAt m l s t = true) : bandB m l s t x = inB x (endI false m l s t) (endI true m l s t) := by unfold bandB; rw [h]; rfl

theorem fb_keep {W w0 w1 : World} {b1 : Nat} {m : Int} {v u : Value} {l : List PartD} {s : List SurgeD} (hT : FBox W b1 m v u l s) (hb : Hid (Below W.heap.size W w0)) (hb1 : Below w0.heap.size w0 w1) :
    w1.cell? ⟨b1, 0, none⟩ = some (.int .i64 m) ∧ w1.cell? ⟨b1, 1, none⟩ = some v ∧ w1.cell? ⟨b1, 2, none⟩ = some u ∧ Hid (Below W.heap.size W w1) := by
  have hB := hb.out.trans (hb1.mono hb.out.size)
  have h := hT.below hB
  exact ⟨h.1, h.2.1, h.2.2.1, Lib.hid hB⟩
end Go.Proofs.Ytmjdlkninibocaa
