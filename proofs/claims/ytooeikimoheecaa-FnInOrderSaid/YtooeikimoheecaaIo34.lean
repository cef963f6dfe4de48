
/- What InOrderLaw rests on, part 34: contracts and mathematics. -/
import Derived.Test.YtooeikimoheecaaIo32
import Derived.Deep.RegionHeld3
namespace Go.Proofs.Ytooeikimoheecaa
open Go.RowKit
set_option maxRecDepth 100000
theorem implOnward (d : ChartD) (hd : chartB d = true) (tgt : Int) : ∀ f : Nat, OnwardAt d tgt f := by
  intro f
  induction f with
  | zero => exact onwardStep d hd tgt 0 (fun f' e => by cases e)
  | succ f ih => exact onwardStep d hd tgt (f + 1) (fun f' e => by cases e; exact ih)
/-- All routes between two points. -/
def rtsL (d : ChartD) (a b : Int) : List (List Int) := if chartB d = true ∧ inB a 0 ((d.points.length : Int) - 1) = true ∧ inB b 0 ((d.points.length : Int) - 1) = true then walkF d b 7 [a] [] else []
theorem rtsL_bad {d : ChartD} {a b : Int} (h : chartB d = false) : rtsL d a b = [] := if_neg (by rw [h]; simp)
theorem rtsL_offA {d : ChartD} {a b : Int} (h : inB a 0 ((d.points.length : Int) - 1) = false) : rtsL d a b = [] := if_neg (by rw [h]; simp)
theorem rtsL_offB {d : ChartD} {a b : Int} (h : inB b 0 ((d.points.length : Int) - 1) = false) : rtsL d a b = [] := if_neg (by rw [h]; simp)
theorem rtsL_ok {d : ChartD} {a b : Int} (h : chartB d = true) (h1 : inB a 0 ((d.points.length : Int) - 1) = true) (h2 : inB b 0 ((d.points.length : Int) - 1) = true) : rtsL d a b = walkF d b 7 [a] [] := if_pos ⟨h, h1, h2⟩
theorem sum_le (ll : List (List Int)) (n : Nat) (h : ∀ l ∈ ll, l.length ≤ n) : sumLen ll ≤ ll.length * n := by
  induction ll with
  | nil => simp [sumLen]
  | cons x ll ih =>
    have h1 := h x (by simp)
    have h2 := ih (fun l hl => h l (by simp [hl]))
    simp only [sumLen, List.length_cons, Nat.add_mul, Nat.one_mul]
    omega
theorem rtsL_len (d : ChartD) (a b : Int) : (rtsL d a b).length ≤ 10000000 ∧ sumLen (rtsL d a b) ≤ 70000000 := by
  unfold rtsL
  split
  · rename_i h
    have hs := (chartB_true h.1).2.1
    have h1 := walkF_len hs b 7 [a] []
    have h2 := sum_le (walkF d b 7 [a] []) 7 (fun l hl => by have := walkF_each b 7 [a] [] l hl; simpa using this)
    have : (10 : Nat) ^ 7 = 10000000 := by decide
    omega
  · simp [sumLen]
set_option maxHeartbeats 4000000 in
theorem implRoutesBetween (v0 v1 : Value) (d : ChartD) (a b : Int) (w : World) (h : RdChart w v0 v1 d) (hw : ∀ x ∈ d.points, PointD.wf x) :
    Calls Try.prog 44 #[.agg #[v0, v1], .int .i64 a, .int .i64 b] w fun e w' => ∃ v, e = .returned v ∧ OwnLL w' w.heap.size v (rtsL d a b) ∧ Below w.heap.size w w' := by
  have HR := Lib.hid h
  have HWF := Lib.hid hw
  obtain ⟨h0, h1⟩ := h
  obtain ⟨A0, c0, rfl⟩ := h0.at
  obtain ⟨A1, c1, rfl⟩ := h1.at
  have B := Lib.hid (Joins.below_alloc1 w (.cells #[.slice A0 d.points.length c0, .slice A1 d.segs.length c1] 32))
  have BB := Lib.hid (Blk.new w #[.slice A0 d.points.length c0, .slice A1 d.segs.length c1] 32)
  clear h0 h1 hw
  cases hok : chartB d with
  | false =>
    have HOK := Lib.hid hok
    have E := Lib.hid (rtsL_bad (a := a) (b := b) hok)
    clear hok
    go_enter Try.func44, Try.ntmps44
    go_wp2_with fail
    refine (implChartOk _ _ d _ (HR.out.below B.out) HWF.out).mono ?_
    rw [HOK.out]
    rintro e w1 ⟨rfl, hb1⟩
    have B1 := Lib.hid (B.out.trans (hb1.mono B.out.size))
    clear hb1
    go_wp2
    go_ret
    exact ⟨_, rfl, by rw [E.out]; exact (LLIn.nil w1 w.heap.size 0).own, B1.out⟩
  | true =>
    have HOK := Lib.hid hok
    have hpn := (chartB_true hok).1
    clear hok
    cases ha : inB a 0 ((d.points.length : Int) - 1) with
    | false =>
      have HA := Lib.hid ha
      have E := Lib.hid (rtsL_offA (b := b) ha)
      clear ha
      go_enter Try.func44, Try.ntmps44
      go_wp2_with fail
      refine (implChartOk _ _ d _ (HR.out.below B.out) HWF.out).mono ?_
      rw [HOK.out]
      rintro e w1 ⟨rfl, hb1⟩
      have B1 := Lib.hid (B.out.trans (hb1.mono B.out.size))
      have z0 := (BB.out.below hb1).cell 0
      simp at z0
      clear hb1
      go_wp2_with fail
      refine (isIndex_any _ _ _).mono ?_
      rw [HA.out]
      rintro e w2 ⟨rfl, rfl⟩
      go_wp2
      go_ret
      exact ⟨_, rfl, by rw [E.out]; exact (LLIn.nil w1 w.heap.size 0).own, B1.out⟩
    | true =>
      have HA := Lib.hid ha
      clear ha
      cases hb : inB b 0 ((d.points.length : Int) - 1) with
      | false =>
        have HB := Lib.hid hb
        have E := Lib.hid (rtsL_offB (a := a) hb)
        clear hb
        go_enter Try.func44, Try.ntmps44
        go_wp2_with fail
        refine (implChartOk _ _ d _ (HR.out.below B.out) HWF.out).mono ?_
        rw [HOK.out]
        rintro e w1 ⟨rfl, hb1⟩
        have B1 := Lib.hid (B.out.trans (hb1.mono B.out.size))
        have z0 := (BB.out.below hb1).cell 0
        simp at z0
        clear hb1
        go_wp2_with fail
        refine (isIndex_any _ _ _).mono ?_
        rw [HA.out]
        rintro e w2 ⟨rfl, rfl⟩
        go_wp2_with fail
        refine (isIndex_any _ _ _).mono ?_
        rw [HB.out]
        rintro e w2 ⟨rfl, rfl⟩
        go_wp2
        go_ret
        exact ⟨_, rfl, by rw [E.out]; exact (LLIn.nil w1 w.heap.size 0).own, B1.out⟩
      | true =>
        have HB := Lib.hid hb
        have E := Lib.hid (rtsL_ok HOK.out HA.out hb)
        clear hb
        go_enter Try.func44, Try.ntmps44
        go_wp2_with fail
        refine (implChartOk _ _ d _ (HR.out.below B.out) HWF.out).mono ?_
        rw [HOK.out]
        rintro e w1 ⟨rfl, hb1⟩
        have B1 := Lib.hid (B.out.trans (hb1.mono B.out.size))
        have z0 := (BB.out.below hb1).cell 0
        have z1 := (BB.out.below hb1).cell 1
        simp at z0 z1
        have hs1 := B1.out.size
        have G0 := Lib.hid (GathO.one (cs := intCells) (t := 3) (k := 1) (x := a) (Below.refl w1.heap.size w1) rfl)
        clear hb1
        go_wp2_with fail
        refine (isIndex_any _ _ _).mono ?_
        rw [HA.out]
        rintro e w2 ⟨rfl, rfl⟩
        go_wp2_with fail
        refine (isIndex_any _ _ _).mono ?_
        rw [HB.out]
        rintro e w2 ⟨rfl, rfl⟩
        go_wp2_with fail
        refine (implOnward d HOK.out b 7 [a] [] _ _ (.slice (some ⟨w1.heap.size, 0, none⟩) 1 1) (.slice none 0 0) w _ HR.out (B1.out.trans (G0.out.2.mono hs1)) (own_lo G0.out.1 hs1) ⟨by simp, .inl ⟨rfl, rfl⟩⟩ (fun g _ hg' => by cases hg') (fun _ => rfl) (GoodP.one HA.out) (by simp; omega) (by simp) (by omega)).mono ?_
        rintro e w3 ⟨u, rfl, hll, _, _, hk⟩
        have hs2 := G0.out.2.size
        have HL := Lib.hid (hll.lo (Nat.le_trans hs1 hs2)).own
        have BZ := Lib.hid (hk.toBelow (B1.out.trans (G0.out.2.mono hs1)) (Nat.le_refl _) (fun i hi e => by
          rcases e with e | e
          · simp [Value.ownBlock] at e; omega
          · cases e))
        obtain ⟨U, cu, hU, _⟩ := hll.form
        subst hU
        clear hll hk z0 z1
        go_wp2
        go_ret
        exact ⟨_, rfl, by rw [E.out]; exact HL.out, BZ.out⟩
end Go.Proofs.Ytooeikimoheecaa
