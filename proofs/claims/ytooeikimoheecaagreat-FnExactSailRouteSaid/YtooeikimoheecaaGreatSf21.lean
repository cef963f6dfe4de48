
/- What ExactSailRoute and ExactFirstSail rests on, part 21: contracts and mathematics. -/
import Derived.Test.YtooeikimoheecaaGreatSf17
import Derived.Test.YtooeikimoheecaaGreatSf13
import Derived.Test.YtooeikimoheecaaGreatSf6
import Derived.Test.YtooeikimoheecaaGreatSf4
import Derived.Test.YtooeikimoheecaaGreatSf1
import Derived.Test.YtooeikimoheecaaGreatSf14
import Derived.StillTailTactics
namespace Go.Proofs.YtooeikimoheecaaGreat
open Go.ChangeShapes Go.WideShapes Go.ChangeAt Go.Deep Go.RowKit
set_option maxRecDepth 100000
structure ForecastD where
  mean : Int
  parts : List PartD
  surges : List SurgeD
def SlPart : World → Value → List PartD → Prop := SlP
def OwnPart : World → Nat → Value → List PartD → Prop := OwnP
theorem OwnPart.sl {w : World} {base : Nat} {v : Value} {l : List PartD} (h : OwnPart w base v l) (hl : l.length ≤ 1000000000) : SlPart w v l := OwnP.sl h hl
def RdForecast (w : World) (v0 v1 : Value) (d : ForecastD) : Prop := SlP w v0 d.parts ∧ SlSurge w v1 d.surges
theorem RdForecast.below {w w' : World} {v0 v1 : Value} {d : ForecastD} (h : RdForecast w v0 v1 d) (hb : Below w.heap.size w w') : RdForecast w' v0 v1 d := ⟨h.1.below hb, h.2.below hb⟩
def NewForecast (d : ForecastD) (w : World) (e : Ending) (w' : World) : Prop :=
  ∃ v0 v1, e = .returned (.agg #[.int .i64 d.mean, v0, v1]) ∧ OwnPart w' w.heap.size v0 d.parts ∧ OwnSurge w' w.heap.size v1 d.surges ∧ ApartV v0 v1 ∧ Below w.heap.size w w'
theorem toForecastC_any (v0 v1 : Value) (d : ForecastD) (w : World) (h : RdForecast w v0 v1 d) :
    Calls Tryz.prog 10 #[.agg #[.int .i64 d.mean, v0, v1]] w (NewForecast d w) :=
  (toForecast_any d.mean v0 v1 d.parts d.surges w h.1 h.2).mono fun _ _ hN => hN
def bulkForecast (d : ForecastD) : Int := (d.parts.length : Int) + (d.surges.length : Int)
theorem bulkForecast_pos (d : ForecastD) : 0 ≤ bulkForecast d := by unfold bulkForecast; omega
theorem bulkForecast_le (d : ForecastD) : (d.parts.length : Int) ≤ bulkForecast d ∧ (d.surges.length : Int) ≤ bulkForecast d := by unfold bulkForecast; omega
def SizForecast (w : World) (A0 A1 : Option Addr) (c0 c1 : Nat) (d : ForecastD) : Prop := d.parts.length ≤ 9223372036854775807 ∧ (d.parts.length ≤ 1000000000 → SlPart w (.slice A0 d.parts.length c0) d.parts) ∧ (∀ x ∈ d.parts, PartD.wf x) ∧ d.surges.length ≤ 9223372036854775807 ∧ (d.surges.length ≤ 1000000000 → SlSurge w (.slice A1 d.surges.length c1) d.surges) ∧ (∀ x ∈ d.surges, SurgeD.wf x)
theorem SizForecast.below {w w' : World} {A0 A1 : Option Addr} {c0 c1 : Nat} {d : ForecastD} (h : SizForecast w A0 A1 c0 c1 d) (hb : Below w.heap.size w w') : SizForecast w' A0 A1 c0 c1 d := by
  obtain ⟨l0, s0, f0, l1, s1, f1⟩ := h
  exact ⟨l0, fun h => SlOf.below (s0 h) hb, f0, l1, fun h => (s1 h).below hb, f1⟩
set_option maxHeartbeats 1000000 in
theorem szForecastC_any (A0 A1 : Option Addr) (c0 c1 : Nat) (d : ForecastD) (w : World) (h : SizForecast w A0 A1 c0 c1 d) (lim : Int) (h0 : 0 ≤ lim) (h1 : lim ≤ 1048576) :
    Calls Tryz.prog 6 #[.agg #[.int .i64 d.mean, .slice A0 d.parts.length c0, .slice A1 d.surges.length c1], .int .i64 lim] w fun e w' => e = .returned (.int .i64 (leftOf lim (bulkForecast d))) ∧ Below w.heap.size w w' := by
  obtain ⟨hn, -, -, hn', -, -⟩ := h
  obtain ⟨m, l, s⟩ := d
  obtain ⟨r, hr⟩ : ∃ r, leftOf lim (bulkForecast ⟨m, l, s⟩) = r := ⟨_, rfl⟩
  rw [hr]
  dsimp only at hn hn' ⊢
  obtain ⟨n, hnl⟩ : ∃ n, l.length = n := ⟨_, rfl⟩
  obtain ⟨n', hnl'⟩ : ∃ n', s.length = n' := ⟨_, rfl⟩
  rw [show bulkForecast ⟨m, l, s⟩ = (n : Int) + (n' : Int) by unfold bulkForecast; rw [← hnl, ← hnl']] at hr
  rw [hnl] at hn ⊢
  rw [hnl'] at hn' ⊢
  clear hnl hnl'
  have HR := Lib.hid hr
  clear hr
  have C := fun W => Lib.hid (szTide_any m A0 n c0 W hn lim h0 h1)
  by_cases hlt : lim < (n : Int)
  · rw [if_pos hlt] at C
    have E := Lib.hid (show r = -1 by rw [← HR.out]; exact leftOf_no (by omega))
    clear HR
    go_enter Tryz.func6, Tryz.ntmps6
    go_wp2_with fail
    refine (C _).out.mono ?_
    rintro e w1 ⟨rfl, hb1⟩
    clear C
    go_wp2
    go_ret
    exact ⟨ret_int E.out.symm, (Joins.below_alloc1 _ _).trans (hb1.mono (by simp))⟩
  · rw [if_neg hlt] at C
    have C' := fun W => Lib.hid (szSurgeS_any A1 n' c1 W hn' (lim - (n : Int)) (by omega) (by omega))
    have hz : ¬ lim - (n : Int) < 0 := by omega
    by_cases hlt' : lim - (n : Int) < (n' : Int)
    · rw [if_pos hlt'] at C'
      have E := Lib.hid (show r = -1 by rw [← HR.out]; exact leftOf_no (by omega))
      clear HR
      go_enter Tryz.func6, Tryz.ntmps6
      go_wp2_with fail
      refine (C _).out.mono ?_
      rintro e w1 ⟨rfl, hb1⟩
      obtain ⟨hc, hf⟩ := bcell hb1
      go_wp2_with fail
      refine (C' _).out.mono ?_
      rintro e w2 ⟨rfl, rfl⟩
      clear C C'
      go_wp2
      go_ret
      exact ⟨ret_int E.out.symm, (Joins.below_alloc1 _ _).trans (hb1.mono (by simp))⟩
    · rw [if_neg hlt'] at C'
      have E := Lib.hid (show r = lim - (n : Int) - (n' : Int) by rw [← HR.out, leftOf_yes (by omega)]; omega)
      have hz' : ¬ lim - (n : Int) - (n' : Int) < 0 := by omega
      clear HR
      go_enter Tryz.func6, Tryz.ntmps6
      go_wp2_with fail
      refine (C _).out.mono ?_
      rintro e w1 ⟨rfl, hb1⟩
      obtain ⟨hc, hf⟩ := bcell hb1
      go_wp2_with fail
      refine (C' _).out.mono ?_
      rintro e w2 ⟨rfl, rfl⟩
      clear C C'
      go_wp2
      go_ret
      exact ⟨ret_int E.out.symm, (Joins.below_alloc1 _ _).trans (hb1.mono (by simp))⟩
theorem eqForecastC_same (va0 va1 vb0 vb1 : Value) (d : ForecastD) (w : World) (ha : RdForecast w va0 va1 d) (hb : RdForecast w vb0 vb1 d) :
    Calls Tryz.prog 15 #[.agg #[.int .i64 d.mean, va0, va1], .agg #[.int .i64 d.mean, vb0, vb1]] w fun e w' => e = .returned (.bool true) ∧ Below w.heap.size w w' :=
  eqForecast_same d.mean va0 va1 vb0 vb1 d.parts d.surges w ha.1 ha.2 hb.1 hb.2
theorem markForecastC_any (v0 v1 : Value) (d : ForecastD) (k : Int) (a b : Nat) (w : World) (h : RdForecast w v0 v1 d) (f0 : FreeV w v0) (f1 : FreeV w v1) (r0 : RangeV v0 a b) (r1 : RangeV v1 a b) (p0_1 : ApartV v0 v1) (h0 : 0 ≤ k) (h1 : k ≤ 1000) (l0 : d.parts.length ≤ 10000000) (l1 : d.surges.length ≤ 10000000) :
    Calls Tryz.prog 24 #[.agg #[.int .i64 d.mean, v0, v1], .int .i64 k] w fun e w' => e = .returned (.int .i64 (k + (d.parts.length : Int) * 3 + (d.surges.length : Int) * 3)) ∧ Marked w' v0 (d.parts.length * 3) k ∧ Marked w' v1 (d.surges.length * 3) (k + (d.parts.length : Int) * 3) ∧ TouchR w w' a b :=
  (markForecast_any d.mean v0 v1 d.parts d.surges k w h.1 h.2 p0_1 (fun g hg => (f0 g hg).1) (fun g hg => (f1 g hg).1) (fun g hg => (f0 g hg).2) (fun g hg => (f1 g hg).2) h0 h1 l0 l1).mono
    fun _ _ ⟨he, m0, m1, _, g0, g1⟩ => ⟨he, m0, m1, (touch_grown g0 r0).trans (touch_grown g1 r1)⟩
def ForecastBox (w : World) (b : Nat) (v0 v1 : Value) (d : ForecastD) : Prop := w.cell? ⟨b, 0, none⟩ = some (.int .i64 d.mean) ∧ w.cell? ⟨b, 1, none⟩ = some (v0) ∧ w.cell? ⟨b, 2, none⟩ = some (v1) ∧ RdForecast w v0 v1 d
theorem ForecastBox.below {w w' : World} {b : Nat} {v0 v1 : Value} {d : ForecastD} (h : ForecastBox w b v0 v1 d) (hb : Below w.heap.size w w') : ForecastBox w' b v0 v1 d := by
  obtain ⟨h0, h1, h2, hr⟩ := h
  exact ⟨cell_onV h0 hb, cell_onV h1 hb, cell_onV h2 hb, hr.below hb⟩
theorem ForecastBox.new {w : World} {v0 v1 : Value} {d : ForecastD} (t : TypeId) (h : RdForecast w v0 v1 d) : ForecastBox (w.alloc (.cells #[.int .i64 d.mean, v0, v1] t)) w.heap.size v0 v1 d := by
  refine ⟨?_, ?_, ?_, h.below (Joins.below_alloc1 _ _)⟩
  all_goals (rw [World.cell?_alloc_at _ _ _ _ rfl]; rfl)
theorem NewForecast.rd {d : ForecastD} {w w' : World} {e : Ending} (h : NewForecast d w e w') (hl0 : d.parts.length ≤ 1000000000) (hl1 : d.surges.length ≤ 1000000000) :
    ∃ A0 c0 A1 c1, e = .returned (.agg #[.int .i64 d.mean, .slice A0 d.parts.length c0, .slice A1 d.surges.length c1]) ∧ RdForecast w' (.slice A0 d.parts.length c0) (.slice A1 d.surges.length c1) d ∧ Below w.heap.size w w' := by
  obtain ⟨v0, v1, rfl, o0, o1, _, hb⟩ := h
  have s0 := OwnPart.sl o0 hl0
  obtain ⟨A0, c0, rfl⟩ := own_form o0
  have s1 := own_sl surgeLen o1 hl1
  obtain ⟨A1, c1, rfl⟩ := own_form o1
  exact ⟨A0, c0, A1, c1, rfl, ⟨s0, s1⟩, hb⟩
section
variable {H : Type} {enc : TypeId × Value → H} {w : World} {base : Nat} {spare : Nat → Bool} {held : Bool}
def ForecastIn (w : World) (A0 A1 : Option Addr) (c0 c1 : Nat) (d : ForecastD) : Prop := (Lit.int .i64 d.mean).wf = true ∧ SizForecast w A0 A1 c0 c1 d
theorem open_forecast_arg {r : Reach} {b0 : Nat} {v : Value} {y : DataW H} {ps : List MemPlace} (hval : Value.okWide Tryz.prog w r b0 27 v) (hd : DataW.Trod enc Tryz.prog w 0 (fun _ => true) true 27 v y ps) :
    ∃ A0 c0 A1 c1 d, v = .agg #[.int .i64 d.mean, .slice A0 d.parts.length c0, .slice A1 d.surges.length c1] ∧ ForecastIn w A0 A1 c0 c1 d := by
  obtain ⟨m, A, c, l, A', c', s, hv, h1, h2, h3, h4, h5, h6, h7⟩ := open_fc_arg hval hd
  unfold maxLen at h2 h3
  exact ⟨A, c, A', c', ⟨m, l, s⟩, hv, h1, by show l.length ≤ _; omega, h4, h6, by show s.length ≤ _; omega, h5, h7⟩
end
end Go.Proofs.YtooeikimoheecaaGreat
namespace Go.Proofs.YtooeikimoheecaaGreat
open Go.RowKit
set_option maxRecDepth 100000
set_option maxHeartbeats 2000000 in
theorem specSquatOf (s : ShipD) (w : World) (hw : s.wf) :
    Calls Tryz.prog 139 #[s.val] w fun e w' => e = .returned (.int .i64 (squatI s)) ∧ Below w.heap.size w w' := by
  have B := Lib.hid (Joins.below_alloc1 w (.cells #[.string s.name, .int .i64 s.length, .int .i64 s.draught, .int .i64 s.line, .int .i64 s.tugs, .bool s.slow] 65))
  have K := Lib.hid (Blk.new w #[.string s.name, .int .i64 s.length, .int .i64 s.draught, .int .i64 s.line, .int .i64 s.tugs, .bool s.slow] 65)
  obtain ⟨t, ht⟩ : ∃ t, shipB s = t := ⟨_, rfl⟩
  have HT := Lib.hid ht
  cases t with
  | false =>
    have E := Lib.hid (show squatI s = 0 from if_neg (by rw [ht]; simp))
    clear ht
    go_enter Tryz.func139, Tryz.ntmps139
    go_wp2_with fail
    refine (specShipOk s _ hw).mono ?_
    rw [HT.out]
    rintro e w1 ⟨rfl, hb1⟩
    have B1 := Lib.hid (B.out.trans (hb1.mono B.out.size))
    clear hb1
    go_wp2
    go_ret
    exact ⟨ret_int E.out.symm, B1.out⟩
  | true =>
    obtain ⟨-, -, -, d0, d1, -⟩ := shipB_true ht
    have v1 : IntKind.i64.wrap (s.draught.tdiv 50) = s.draught.tdiv 50 := by rw [IntKind.wrap_i64, Int.tdiv_eq_ediv_of_nonneg (by omega)]; omega
    have v2 : IntKind.i64.wrap (s.draught.tdiv 20) = s.draught.tdiv 20 := by rw [IntKind.wrap_i64, Int.tdiv_eq_ediv_of_nonneg (by omega)]; omega
    have E0 : squatI s = (if s.slow = true then s.draught.tdiv 50 else s.draught.tdiv 20) := if_pos ht
    clear ht
    cases hs : s.slow with
    | true =>
      have E := Lib.hid (E0.trans (if_pos hs))
      have HSL := Lib.hid hs
      clear E0 hs
      go_enter Tryz.func139, Tryz.ntmps139
      go_wp2_with fail
      refine (specShipOk s _ hw).mono ?_
      rw [HT.out]
      rintro e w1 ⟨rfl, hb1⟩
      have K1 := K.out.below hb1
      have z2 := K1.cell 2
      have z5 := K1.cell 5
      simp at z2 z5
      rw [HSL.out] at z5
      have B1 := Lib.hid (B.out.trans (hb1.mono B.out.size))
      clear hb1 K1
      go_wp2
      go_ret
      exact ⟨ret_int E.out.symm, B1.out⟩
    | false =>
      have E := Lib.hid (E0.trans (if_neg (by rw [hs]; simp)))
      have HSL := Lib.hid hs
      clear E0 hs
      go_enter Tryz.func139, Tryz.ntmps139
      go_wp2_with fail
      refine (specShipOk s _ hw).mono ?_
      rw [HT.out]
      rintro e w1 ⟨rfl, hb1⟩
      have K1 := K.out.below hb1
      have z2 := K1.cell 2
      have z5 := K1.cell 5
      simp at z2 z5
      rw [HSL.out] at z5
      have B1 := Lib.hid (B.out.trans (hb1.mono B.out.size))
      clear hb1 K1
      go_wp2
      go_ret
      exact ⟨ret_int E.out.symm, B1.out⟩
set_option maxHeartbeats 2000000 in
theorem implSquatOf (s : ShipD) (w : World) (hw : s.wf) :
    Calls Tryz.prog 143 #[s.val] w fun e w' => e = .returned (.int .i64 (squatI s)) ∧ Below w.heap.size w w' := by
  have B := Lib.hid (Joins.below_alloc1 w (.cells #[.string s.name, .int .i64 s.length, .int .i64 s.draught, .int .i64 s.line, .int .i64 s.tugs, .bool s.slow] 65))
  have K := Lib.hid (Blk.new w #[.string s.name, .int .i64 s.length, .int .i64 s.draught, .int .i64 s.line, .int .i64 s.tugs, .bool s.slow] 65)
  obtain ⟨t, ht⟩ : ∃ t, shipB s = t := ⟨_, rfl⟩
  have HT := Lib.hid ht
  cases t with
  | false =>
    have E := Lib.hid (show squatI s = 0 from if_neg (by rw [ht]; simp))
    clear ht
    go_enter Tryz.func143, Tryz.ntmps143
    go_wp2_with fail
    refine (implShipOk s _ hw).mono ?_
    rw [HT.out]
    rintro e w1 ⟨rfl, hb1⟩
    have B1 := Lib.hid (B.out.trans (hb1.mono B.out.size))
    clear hb1
    go_wp2
    go_ret
    exact ⟨ret_int E.out.symm, B1.out⟩
  | true =>
    obtain ⟨-, -, -, d0, d1, -⟩ := shipB_true ht
    have v1 : IntKind.i64.wrap (s.draught.tdiv 50) = s.draught.tdiv 50 := by rw [IntKind.wrap_i64, Int.tdiv_eq_ediv_of_nonneg (by omega)]; omega
    have v2 : IntKind.i64.wrap (s.draught.tdiv 20) = s.draught.tdiv 20 := by rw [IntKind.wrap_i64, Int.tdiv_eq_ediv_of_nonneg (by omega)]; omega
    have E0 : squatI s = (if s.slow = true then s.draught.tdiv 50 else s.draught.tdiv 20) := if_pos ht
    clear ht
    cases hs : s.slow with
    | true =>
      have E := Lib.hid (E0.trans (if_pos hs))
      have HSL := Lib.hid hs
      clear E0 hs
      go_enter Tryz.func143, Tryz.ntmps143
      go_wp2_with fail
      refine (implShipOk s _ hw).mono ?_
      rw [HT.out]
      rintro e w1 ⟨rfl, hb1⟩
      have K1 := K.out.below hb1
      have z2 := K1.cell 2
      have z5 := K1.cell 5
      simp at z2 z5
      rw [HSL.out] at z5
      have B1 := Lib.hid (B.out.trans (hb1.mono B.out.size))
      clear hb1 K1
      go_wp2
      go_ret
      exact ⟨ret_int E.out.symm, B1.out⟩
    | false =>
      have E := Lib.hid (E0.trans (if_neg (by rw [hs]; simp)))
      have HSL := Lib.hid hs
      clear E0 hs
      go_enter Tryz.func143, Tryz.ntmps143
      go_wp2_with fail
      refine (implShipOk s _ hw).mono ?_
      rw [HT.out]
      rintro e w1 ⟨rfl, hb1⟩
      have K1 := K.out.below hb1
      have z2 := K1.cell 2
      have z5 := K1.cell 5
      simp at z2 z5
      rw [HSL.out] at z5
      have B1 := Lib.hid (B.out.trans (hb1.mono B.out.size))
      clear hb1 K1
      go_wp2
      go_ret
      exact ⟨ret_int E.out.symm, B1.out⟩
end Go.Proofs.YtooeikimoheecaaGreat
namespace Go.Proofs.YtooeikimoheecaaGreat
set_option maxRecDepth 100000
theorem ints_nodup_le (n : Nat) : ∀ l : List Int, l.Nodup → (∀ x ∈ l, 0 ≤ x ∧ x < (n : Int)) → l.length ≤ n := by
  induction n with
  | zero =>
    intro l _ h
    cases l with
    | nil => exact Nat.le_refl _
    | cons x l => have := h x (by simp); omega
  | succ n ih =>
    intro l hn h
    by_cases hm : (n : Int) ∈ l
    · have h1 := ih (l.erase (n : Int)) (hn.erase _) (fun x hx => by
        have := (hn.mem_erase_iff).1 hx
        have h2 := h x this.2
        have h3 := this.1
        omega)
      rw [List.length_erase_of_mem hm] at h1
      omega
    · have h1 := ih l hn (fun x hx => by
        have h2 := h x hx
        have : x ≠ (n : Int) := fun e => hm (e ▸ hx)
        omega)
      omega
theorem pts_nodup {d : ChartD} {fr : Int} (l : List Int) : ∀ {out : List Int}, ptsO d fr l = some out → out.Nodup := by
  refine snocInd (P := fun l => ∀ {out : List Int}, ptsO d fr l = some out → out.Nodup) ?_ ?_ l
  · intro out h
    simp [ptsO] at h
    subst h
    simp
  · intro l i ih out h
    rw [ptsO_snoc] at h
    cases hp : ptsO d fr l with
    | none => rw [hp] at h; cases h
    | some o =>
      have h1 := ih hp
      rw [hp] at h
      unfold stepP at h
      cases hs : segAt d i with
      | none => rw [hs] at h; cases h
      | some g =>
        rw [hs] at h
        simp only at h
        split at h
        · cases h
        · rename_i hn
          injection h with e
          subst e
          rw [List.nodup_append]
          refine ⟨h1, by simp, fun a ha b hb => ?_⟩
          simp at hb
          subst hb
          intro e2
          subst e2
          exact hn (.inr (List.any_eq_true.2 ⟨_, ha, by simp⟩))
theorem rte_few {d : ChartD} {fr : Int} {l : List Int} (h : routeB d fr l = true) : (rteL d fr l).length ≤ 8 := by
  have e : rteL d fr l = (ptsO d fr l).getD [] := if_pos h
  have hf := (route_facts h).2.2.1
  unfold routeB at h
  simp only [Bool.and_eq_true] at h
  obtain ⟨⟨h1, h2⟩, h3⟩ := h
  obtain ⟨out, ho⟩ := Option.isSome_iff_exists.1 h3
  have e2 : rteL d fr l = out := by rw [e, ho]; rfl
  rw [e2] at hf ⊢
  have := ints_nodup_le d.points.length out (pts_nodup l ho) hf
  have := (chartB_true h1).1
  omega
end Go.Proofs.YtooeikimoheecaaGreat
