/- The exact law of ReviseBand holds for every forecast and all integers: impl.ReviseBand answers as its model, writes into no argument, and its answer owns its memory. No condition. -/
import Derived.Test.YtbcbbolakjjglaaRows
import Derived.Test.YtbcbbolakjjglaaFcArg
import Derived.Test.YtbcbbolakjjglaaReviseSpec
import Derived.Test.YtbcbbolakjjglaaFcMarks
namespace Go.Proofs.Ytbcbbolakjjglaa.exactReviseBand
open Go.ChangeShapes Go.WideShapes Go.ChangeAt Go.RowKit
set_option maxRecDepth 100000

theorem own : ownKnob Try.prog.godebug = none := by kernel_rfl
theorem laidOut : laidOutB Try.prog = true := by kernel_rfl

/-- A forecast over two lists of its own, in blocks from base to top. -/
def Has (base top : Nat) (v u : Value) (l : List PartD) (s : List SurgeD) (w : World) : Prop :=
  OwnP w base v l ∧ OwnSurge w base u s ∧ Apart v u ∧ (∀ g, v.ownBlock = some g → base ≤ g ∧ g < top) ∧ (∀ g, u.ownBlock = some g → base ≤ g ∧ g < top) ∧ top ≤ w.heap.size
theorem Has.mk' {base : Nat} {v u : Value} {l : List PartD} {s : List SurgeD} {w : World} (h1 : OwnP w base v l) (h2 : OwnSurge w base u s) (h3 : Apart v u) : Has base w.heap.size v u l s w :=
  ⟨h1, h2, h3, World.ownsRow.lt h1, World.ownsRow.lt h2, Nat.le_refl _⟩
theorem Has.below {base top : Nat} {v u : Value} {l : List PartD} {s : List SurgeD} {w w' : World} (h : Has base top v u l s w) (hb : Below w.heap.size w w') : Has base top v u l s w' :=
  ⟨own_below h.1 hb, own_below h.2.1 hb, h.2.2.1, h.2.2.2.1, h.2.2.2.2.1, Nat.le_trans h.2.2.2.2.2 hb.size⟩
theorem ne_row {base top : Nat} {v : Value} {row : Option Nat} (hv : ∀ g, v.ownBlock = some g → base ≤ g ∧ g < top) (hr : ∀ g, row = some g → g < base ∨ top ≤ g) : v.ownBlock = none ∨ v.ownBlock ≠ row := by
  cases e : v.ownBlock with
  | none => exact .inl rfl
  | some g =>
    right
    intro e2
    have h1 := hv g e
    have h2 := hr g e2.symm
    omega
theorem Has.grown {base top : Nat} {v u : Value} {l : List PartD} {s : List SurgeD} {w w' : World} {row : Option Nat} (h : Has base top v u l s w) (hg : w.grownBy w' row) (hr : ∀ g, row = some g → g < base ∨ top ≤ g) : Has base top v u l s w' :=
  ⟨World.ownsRow.kept h.1 hg (ne_row h.2.2.2.1 hr), World.ownsRow.kept h.2.1 hg (ne_row h.2.2.2.2.1 hr), h.2.2.1, h.2.2.2.1, h.2.2.2.2.1, Nat.le_trans h.2.2.2.2.2 hg.size⟩
theorem Has.slp {base top : Nat} {v u : Value} {l : List PartD} {s : List SurgeD} {w : World} (h : Has base top v u l s w) (hl : l.length ≤ 1000000000) : SlP w v l := own_sl partLen h.1 hl
theorem Has.sls {base top : Nat} {v u : Value} {l : List PartD} {s : List SurgeD} {w : World} (h : Has base top v u l s w) (hl : s.length ≤ 1000000000) : SlSurge w u s := own_sl surgeLen h.2.1 hl
theorem free_own {k : Nat} {w : World} {base : Nat} {e : TypeId} {v : Value} {n : Nat} {xs : List Value} (h : w.ownsRow base e k v n xs) : Free w v := by
  intro g hg j
  obtain ⟨_, ⟨rfl, _⟩ | ⟨g', cap, cur, rfl, _, hb, _⟩⟩ := h
  · cases hg
  · simp [Value.ownBlock] at hg
    subst hg
    exact Joins.unfrozen_of_block hb j

/-- What both sides of ReviseBand leave. -/
def RevQ (rm : Int) (rl : List PartD) (rs : List SurgeD) (ok : Bool) (w : World) (e : Ending) (w' : World) : Prop :=
  ∃ A c A' c', e = .returned (.tuple #[.agg #[.int .i64 rm, .slice A rl.length c, .slice A' rs.length c'], .bool ok]) ∧ Has w.heap.size w'.heap.size (.slice A rl.length c) (.slice A' rs.length c') rl rs w' ∧ Below w.heap.size w w'
theorem RevPost.q {m : Int} {l : List PartD} {s : List SurgeD} {t lo hi : Int} {w w' : World} {e : Ending} (h : RevPost m l s t lo hi w e w') : RevQ (if revB m l s t lo hi = true then m else 0) (if revB m l s t lo hi = true then l else []) (if revB m l s t lo hi = true then revL s t lo hi else []) (revB m l s t lo hi) w e w' := by
  obtain ⟨v, u, rfl, h1, h2, h3, hb⟩ := h
  obtain ⟨A, c, rfl⟩ := own_form h1
  obtain ⟨A', c', rfl⟩ := own_form h2
  exact ⟨A, c, A', c', rfl, Has.mk' h1 h2 h3, hb⟩
theorem rev_len (m : Int) (l : List PartD) (s : List SurgeD) (t lo hi : Int) : (if revB m l s t lo hi = true then revL s t lo hi else []).length ≤ 6 := by
  split
  · rename_i h
    unfold revB at h
    rw [Bool.and_eq_true] at h
    exact (fcB_true h.2).2.2.1
  · simp
theorem revl_len (b : Bool) (l : List PartD) : (if b = true then l else []).length ≤ l.length := by split <;> simp
theorem NewFc.has {m : Int} {l : List PartD} {s : List SurgeD} {w w' : World} {e : Ending} (h : NewFc m l s w e w') :
    ∃ A c A' c', e = .returned (.agg #[.int .i64 m, .slice A l.length c, .slice A' s.length c']) ∧ Has w.heap.size w'.heap.size (.slice A l.length c) (.slice A' s.length c') l s w' ∧ Below w.heap.size w w' := by
  obtain ⟨v, u, rfl, h1, h2, h3, hb⟩ := h
  obtain ⟨A, c, rfl⟩ := own_form h1
  obtain ⟨A', c', rfl⟩ := own_form h2
  exact ⟨A, c, A', c', rfl, Has.mk' h1 h2 h3, hb⟩

set_option maxHeartbeats 8000000 in
theorem law (m : Int) (A : Option Addr) (c : Nat) (l : List PartD) (A' : Option Addr) (c' : Nat) (s : List SurgeD) (t0 t1 t2 : Int) (w : World) (hin : FcIn w m A c l A' c' s) (_ : (Lit.int .i64 t0).wf = true) (_ : (Lit.int .i64 t1).wf = true) (_ : (Lit.int .i64 t2).wf = true) :
    Calls Try.prog 10 #[.agg #[.int .i64 m, .slice A l.length c, .slice A' s.length c'], .int .i64 t0, .int .i64 t1, .int .i64 t2] w fun e w' => e = .returned (.bool true) ∧ Below w.heap.size w w' := by
  obtain ⟨_, hmax, hmax', hsl, hsl', _, _⟩ := hin
  have HSL := Lib.hid hsl
  have HSL' := Lib.hid hsl'
  clear hsl hsl'
  unfold maxLen at hmax hmax'
  have C := fun W => Lib.hid (szForecast_any m A A' l.length s.length c c' W (by omega) (by omega))
  by_cases hbig : (1048576 : Int) < (l.length : Int) ∨ 1048576 - (l.length : Int) < (s.length : Int)
  · have e : leftI l.length s.length = -1 := by
      unfold leftI
      rcases hbig with h | h
      · rw [if_pos h]
      · split
        · rfl
        · rfl
    rw [e] at C
    clear e hbig
    go_enter Try.func10, Try.ntmps10
    go_wp2_with fail
    refine (C _).out.mono ?_
    rintro e w1 ⟨rfl, hb1⟩
    go_wp2
    go_ret
    exact ⟨rfl, (Joins.below_alloc1 w _).trans (hb1.mono (by simp))⟩
  · have e : leftI l.length s.length = 1048576 - (l.length : Int) - (s.length : Int) := by
      unfold leftI
      rw [if_neg (by omega), if_neg (by omega)]
    rw [e] at C
    have z1 : (l.length : Int) ≤ 1048576 := by omega
    have z2 : (s.length : Int) ≤ 1048576 - (l.length : Int) := by omega
    have S0 := Lib.hid (HSL.out (by omega))
    have S0' := Lib.hid (HSL'.out (by omega))
    have zl : l.length ≤ 1048576 := by omega
    have zs : s.length ≤ 1048576 := by omega
    clear e hbig
    obtain ⟨rm, rl, rs, ok, hR1, hR2, hrl, hrs⟩ : ∃ (rm : Int) (rl : List PartD) (rs : List SurgeD) (ok : Bool),
        (∀ (W : World) (v u : Value), SlP W v l → SlSurge W u s → Calls Try.prog 35 #[.agg #[.int .i64 m, v, u], .int .i64 t0, .int .i64 t1, .int .i64 t2] W (RevQ rm rl rs ok W)) ∧
        (∀ (W : World) (v u : Value), SlP W v l → SlSurge W u s → Calls Try.prog 21 #[.agg #[.int .i64 m, v, u], .int .i64 t0, .int .i64 t1, .int .i64 t2] W (RevQ rm rl rs ok W)) ∧ rl.length ≤ l.length ∧ rs.length ≤ 6 :=
      ⟨_, _, _, _, fun W v u h h' => (specReviseBand m v u l s t0 t1 t2 W h h').mono fun _ _ h => RevPost.q h, fun W v u h h' => (implReviseBand m v u l s t0 t1 t2 W h h').mono fun _ _ h => RevPost.q h, revl_len _ l, rev_len m l s t0 t1 t2⟩
    have CS := Lib.hid hR1
    have CI := Lib.hid hR2
    clear hR1 hR2
    have T0 := Lib.hid (FBox.new 52 (m := m) S0.out S0'.out)
    have B0 := Lib.hid (Joins.below_alloc1 w (.cells #[.int .i64 m, .slice A l.length c, .slice A' s.length c'] 52))
    clear HSL HSL'
    go_enter Try.func10, Try.ntmps10
    go_wp2_with fail
    refine (C _).out.mono ?_
    rintro e w1 ⟨rfl, hb1⟩
    have T1 := Lib.hid (T0.out.below hb1)
    have B1 := Lib.hid (B0.out.trans (hb1.mono (by simp)))
    have BB1 := Lib.hid hb1
    obtain ⟨c0, c1, c2, _⟩ := T1.out
    clear hb1 C
    go_wp2_with fail
    refine (toForecast_any m _ _ l s w1 T1.out.2.2.2.1 T1.out.2.2.2.2).mono ?_
    intro e w2 hN
    obtain ⟨A2, k2, D2, j2, rfl, h2, hb2⟩ := NewFc.has hN
    have S2 := Lib.hid (h2.slp (by omega))
    have S2' := Lib.hid (h2.sls (by omega))
    have T2 := Lib.hid (T1.out.below hb2)
    have B2 := Lib.hid (B1.out.trans (hb2.mono B1.out.size))
    have BB2 := Lib.hid (BB1.out.trans (hb2.mono BB1.out.size))
    clear hN h2 hb2 c0 c1 c2
    go_wp2_with fail
    refine (CS.out _ _ _ S2.out S2'.out).mono ?_
    rintro e w3 ⟨A3, k3, D3, j3, rfl, h3, hb3⟩
    have T3 := T2.out.below hb3
    have B3 := B2.out.trans (hb3.mono B2.out.size)
    have BB3 := BB2.out.trans (hb3.mono BB2.out.size)
    have a3 := Joins.below_alloc1 w3 (.cells #[.int .i64 rm, .slice A3 rl.length k3, .slice D3 rs.length j3] 28)
    have T4 := Lib.hid (T3.below a3)
    have B4 := Lib.hid (B3.trans (a3.mono B3.size))
    have BB4 := Lib.hid (BB3.trans (a3.mono BB3.size))
    have W4 := Lib.hid (h3.below a3)
    have P4 := Lib.hid (Blk.new w3 #[.int .i64 rm, .slice A3 rl.length k3, .slice D3 rs.length j3] 28)
    have y0 : w.heap.size ≤ w3.heap.size := B3.size
    clear hb3 h3 T3 B3 BB3 a3
    obtain ⟨c0, c1, c2, _⟩ := T4.out
    go_wp2_with fail
    refine (toForecast_any m _ _ l s _ T4.out.2.2.2.1 T4.out.2.2.2.2).mono ?_
    intro e w5 hN
    obtain ⟨A5, k5, D5, j5, rfl, h5, hb5⟩ := NewFc.has hN
    have a5 := Joins.below_alloc1 w5 (.cells #[.int .i64 m, .slice A5 l.length k5, .slice D5 s.length j5] 28)
    have hb6 := hb5.trans (a5.mono hb5.size)
    have T6 := Lib.hid (T4.out.below hb6)
    have B6 := Lib.hid (B4.out.trans (hb6.mono B4.out.size))
    have BB6 := Lib.hid (BB4.out.trans (hb6.mono BB4.out.size))
    have W6 := Lib.hid (W4.out.below hb6)
    have P6 := Lib.hid (P4.out.below hb6)
    have X6 := Lib.hid (h5.below a5)
    have Q6 := Lib.hid (Blk.new w5 #[.int .i64 m, .slice A5 l.length k5, .slice D5 s.length j5] 28)
    have FX6 := Lib.hid (FBox.new 28 (m := m) (h5.slp (by omega)) (h5.sls (by omega)))
    have y1 : w3.heap.size + 1 ≤ w5.heap.size := by have := hb5.size; simpa using this
    clear hN hb5 h5 a5 hb6 c0 c1 c2 W4 P4 T4 B4
    obtain ⟨c0, c1, c2, _⟩ := FX6.out
    go_wp2_with fail
    refine (CI.out _ _ _ FX6.out.2.2.2.1 FX6.out.2.2.2.2).mono ?_
    rintro e w7 ⟨A7, k7, D7, j7, rfl, h7, hb7⟩
    have a7 := Joins.below_alloc1 w7 (.cells #[.int .i64 rm, .slice A7 rl.length k7, .slice D7 rs.length j7] 28)
    have hb8 := hb7.trans (a7.mono hb7.size)
    have T8 := Lib.hid (T6.out.below hb8)
    have B8 := Lib.hid (B6.out.trans (hb8.mono B6.out.size))
    have BB8 := Lib.hid (BB6.out.trans (hb8.mono BB6.out.size))
    have W8 := Lib.hid (W6.out.below hb8)
    have P8 := Lib.hid (P6.out.below hb8)
    have X8 := Lib.hid (X6.out.below hb8)
    have Q8 := Lib.hid (Q6.out.below hb8)
    have FX8 := Lib.hid (FX6.out.below hb8)
    have G8 := Lib.hid (h7.below a7)
    have R8 := Lib.hid (Blk.new w7 #[.int .i64 rm, .slice A7 rl.length k7, .slice D7 rs.length j7] 28)
    have y2 : w5.heap.size + 1 ≤ w7.heap.size := by have := hb7.size; simpa using this
    clear hb7 h7 a7 hb8 c0 c1 c2 W6 P6 X6 Q6 T6 B6 FX6
    have d0 := P8.out.cell 0
    have d1 := P8.out.cell 1
    have d2 := P8.out.cell 2
    simp at d0 d1 d2
    go_wp2_with fail
    refine (eqForecast_same rm _ _ _ _ rl rs _ (G8.out.slp (by omega)) (G8.out.sls (by omega)) (W8.out.slp (by omega)) (W8.out.sls (by omega))).mono ?_
    rintro e w9 ⟨rfl, hb9⟩
    have T9 := Lib.hid (T8.out.below hb9)
    have B9 := Lib.hid (B8.out.trans (hb9.mono B8.out.size))
    have BB9 := Lib.hid (BB8.out.trans (hb9.mono BB8.out.size))
    have W9 := Lib.hid (W8.out.below hb9)
    have P9 := Lib.hid (P8.out.below hb9)
    have X9 := Lib.hid (X8.out.below hb9)
    have Q9 := Lib.hid (Q8.out.below hb9)
    have FX9 := Lib.hid (FX8.out.below hb9)
    have G9 := Lib.hid (G8.out.below hb9)
    have R9 := Lib.hid (R8.out.below hb9)
    have y3 : w7.heap.size + 1 ≤ w9.heap.size := by have := hb9.size; simpa using this
    clear hb9 d0 d1 d2 T8 B8 W8 P8 X8 Q8 FX8 G8 R8
    have hD := Lib.hid ((Below.refl w9.heap.size w9).drew)
    obtain ⟨p0, p1, p2, _⟩ := T9.out
    obtain ⟨x0, x1, x2, _⟩ := FX9.out
    go_upto_region 10 with fail
    go_cut [57] (fun s57 wx => s57 = .bool false ∧ Hid (Below w9.heap.size w9 wx))
    case first =>
      go_region_held3 (fun w' => w'.cell? ⟨w.heap.size, 0, none⟩ = some (.int .i64 m) ∧ w'.cell? ⟨w.heap.size, 1, none⟩ = some (.slice A l.length c) ∧ w'.cell? ⟨w.heap.size, 2, none⟩ = some (.slice A' s.length c') ∧ w'.cell? ⟨w5.heap.size, 0, none⟩ = some (.int .i64 m) ∧ w'.cell? ⟨w5.heap.size, 1, none⟩ = some (.slice A5 l.length k5) ∧ w'.cell? ⟨w5.heap.size, 2, none⟩ = some (.slice D5 s.length j5) ∧ Hid (Below w9.heap.size w9 w')) (go_keep)
        (first
          | (go_at_call 29; refine (toForecast_keep T9.out FX9.out _ ?_).mono ?_; (simp [*]); rintro e w10 ⟨A9, k9, D9, j9, rfl, s9, s9', v0, v1, v2, v3, v4, v5, v6⟩)
          | (go_at_call 30; refine (eqForecast_keep T9.out FX9.out _ _ _ ?_ ?_ ?_).mono ?_; (simp [*]); (simp [*]); (simp [*]); rintro e w10 ⟨rfl, v0, v1, v2, v3, v4, v5, v6⟩)
          | fail "no arm")
      all_goals
        go_wp2_with fail
        go_meet
        exact ⟨rfl, v6⟩
    case rest =>
      obtain ⟨rfl, hb10⟩ := hcut
      have V9 := Lib.hid ((Blk.new w #[.int .i64 m, .slice A l.length c, .slice A' s.length c'] 52).below BB9.out)
      clear p0 p1 p2 x0 x1 x2 hD T9
      have B10 := Lib.hid (B9.out.trans (hb10.out.mono B9.out.size))
      have V10 := Lib.hid (V9.out.below hb10.out)
      have W10 := Lib.hid (W9.out.below hb10.out)
      have P10 := Lib.hid (P9.out.below hb10.out)
      have X10 := Lib.hid (X9.out.below hb10.out)
      have Q10 := Lib.hid (Q9.out.below hb10.out)
      have G10 := Lib.hid (G9.out.below hb10.out)
      have R10 := Lib.hid (R9.out.below hb10.out)
      have y4 := hb10.out.size
      clear hb10 FX9 B9 V9 W9 P9 X9 Q9 G9 R9
      have x0 := Q10.out.cell 0
      have x1 := Q10.out.cell 1
      have x2 := Q10.out.cell 2
      simp at x0 x1 x2
      have MV : ∀ g, Value.ownBlock (.slice A5 l.length k5) = some g → w3.heap.size + 1 ≤ g ∧ g < w5.heap.size := fun g hg => by have := X10.out.2.2.2.1 g hg; simpa using this
      have MU : ∀ g, Value.ownBlock (.slice D5 s.length j5) = some g → w3.heap.size + 1 ≤ g ∧ g < w5.heap.size := fun g hg => by have := X10.out.2.2.2.2.1 g hg; simpa using this
      have MT := X10.out.2.2.2.2.2
      go_wp2_with fail
      refine (markForecast_any m _ _ l s 1 _ (X10.out.slp (by omega)) (X10.out.sls (by omega)) X10.out.2.2.1 (free_own X10.out.1) (free_own X10.out.2.1) (fun g hg => Nat.lt_of_lt_of_le (MV g hg).2 MT) (fun g hg => Nat.lt_of_lt_of_le (MU g hg).2 MT) (by omega) (by omega) (by omega) (by omega)).mono ?_
      rintro e w12 ⟨rfl, hm1, hm2, w11, hg1, hg2⟩
      have B12 := Lib.hid ((B10.out.grown hg1 B10.out.size (fun g hg => by have := MV g hg; omega)).grown hg2 (Nat.le_trans B10.out.size hg1.size) (fun g hg => by have := MU g hg; omega))
      have V12 := Lib.hid ((V10.out.grown hg1 (fun e => by have := MV _ e.symm; omega)).grown hg2 (fun e => by have := MU _ e.symm; omega))
      have W12 := Lib.hid ((W10.out.grown hg1 (fun g hg => by have := MV g hg; first | omega | (simp; omega))).grown hg2 (fun g hg => by have := MU g hg; first | omega | (simp; omega)))
      have P12 := Lib.hid ((P10.out.grown hg1 (fun e => by have := MV _ e.symm; omega)).grown hg2 (fun e => by have := MU _ e.symm; omega))
      have G12 := Lib.hid ((G10.out.grown hg1 (fun g hg => by have := MV g hg; first | omega | (simp; omega))).grown hg2 (fun g hg => by have := MU g hg; first | omega | (simp; omega)))
      have R12 := Lib.hid ((R10.out.grown hg1 (fun e => by have := MV _ e.symm; omega)).grown hg2 (fun e => by have := MU _ e.symm; omega))
      have y5 := Nat.le_trans hg1.size hg2.size
      clear hm1 hm2 hg1 hg2 MV MU MT x0 x1 x2 B10 V10 W10 P10 X10 Q10 G10 R10
      have d0 := P12.out.cell 0
      have d1 := P12.out.cell 1
      have d2 := P12.out.cell 2
      simp at d0 d1 d2
      have f0 := R12.out.cell 0
      have f1 := R12.out.cell 1
      have f2 := R12.out.cell 2
      simp at f0 f1 f2
      go_wp2_with fail
      refine (eqForecast_same rm _ _ _ _ rl rs _ (G12.out.slp (by omega)) (G12.out.sls (by omega)) (W12.out.slp (by omega)) (W12.out.sls (by omega))).mono ?_
      rintro e w13 ⟨rfl, hb13⟩
      have B13 := Lib.hid (B12.out.trans (hb13.mono B12.out.size))
      have V13 := Lib.hid (V12.out.below hb13)
      have W13 := Lib.hid (W12.out.below hb13)
      have P13 := Lib.hid (P12.out.below hb13)
      have G13 := Lib.hid (G12.out.below hb13)
      have R13 := Lib.hid (R12.out.below hb13)
      have y6 : w12.heap.size ≤ w13.heap.size := hb13.size
      clear hb13 d0 d1 d2 f0 f1 f2 B12 V12 W12 P12 G12 R12
      have f0 := R13.out.cell 0
      have f1 := R13.out.cell 1
      have f2 := R13.out.cell 2
      simp at f0 f1 f2
      have MV : ∀ g, Value.ownBlock (.slice A7 rl.length k7) = some g → w5.heap.size + 1 ≤ g ∧ g < w7.heap.size := fun g hg => by have := G13.out.2.2.2.1 g hg; simpa using this
      have MU : ∀ g, Value.ownBlock (.slice D7 rs.length j7) = some g → w5.heap.size + 1 ≤ g ∧ g < w7.heap.size := fun g hg => by have := G13.out.2.2.2.2.1 g hg; simpa using this
      have MT := G13.out.2.2.2.2.2
      go_wp2_with fail
      refine (markForecast_any rm _ _ rl rs 1 _ (G13.out.slp (by omega)) (G13.out.sls (by omega)) G13.out.2.2.1 (free_own G13.out.1) (free_own G13.out.2.1) (fun g hg => Nat.lt_of_lt_of_le (MV g hg).2 MT) (fun g hg => Nat.lt_of_lt_of_le (MU g hg).2 MT) (by omega) (by omega) (by omega) (by omega)).mono ?_
      rintro e w15 ⟨rfl, hm1, hm2, w14, hg1, hg2⟩
      have B15 := Lib.hid ((B13.out.grown hg1 B13.out.size (fun g hg => by have := MV g hg; omega)).grown hg2 (Nat.le_trans B13.out.size hg1.size) (fun g hg => by have := MU g hg; omega))
      have V15 := Lib.hid ((V13.out.grown hg1 (fun e => by have := MV _ e.symm; omega)).grown hg2 (fun e => by have := MU _ e.symm; omega))
      have W15 := Lib.hid ((W13.out.grown hg1 (fun g hg => by have := MV g hg; first | omega | (simp; omega))).grown hg2 (fun g hg => by have := MU g hg; first | omega | (simp; omega)))
      have P15 := Lib.hid ((P13.out.grown hg1 (fun e => by have := MV _ e.symm; omega)).grown hg2 (fun e => by have := MU _ e.symm; omega))
      have R15 := Lib.hid ((R13.out.grown hg1 (fun e => by have := MV _ e.symm; omega)).grown hg2 (fun e => by have := MU _ e.symm; omega))
      have y7 := Nat.le_trans hg1.size hg2.size
      have M15 := Lib.hid hm1
      have N15 := Lib.hid hm2
      clear hm1 hm2 hg1 hg2 MV MU MT f0 f1 f2 B13 V13 W13 P13 G13 R13
      have f0 := R15.out.cell 0
      have f1 := R15.out.cell 1
      have f2 := R15.out.cell 2
      simp at f0 f1 f2
      go_wp2_with fail
      refine (heldForecast_any rm rl.length rs.length _ _ _ _ 1 _ M15.out N15.out (by omega) (by omega) (by omega) (by omega)).mono ?_
      rintro e w16 ⟨rfl, hb16⟩
      have B16 := Lib.hid (B15.out.trans (hb16.mono B15.out.size))
      have V16 := Lib.hid (V15.out.below hb16)
      have W16 := Lib.hid (W15.out.below hb16)
      have P16 := Lib.hid (P15.out.below hb16)
      have R16 := Lib.hid (R15.out.below hb16)
      have M16 := Lib.hid (M15.out.below hb16)
      have N16 := Lib.hid (N15.out.below hb16)
      have y8 : w15.heap.size ≤ w16.heap.size := hb16.size
      clear hb16 f0 f1 f2 B15 V15 W15 P15 R15 M15 N15
      have f0 := V16.out.cell 0
      have f1 := V16.out.cell 1
      have f2 := V16.out.cell 2
      simp at f0 f1 f2
      go_wp2_with fail
      refine (toForecast_any m _ _ l s _ (S0.out.below B16.out) (S0'.out.below B16.out)).mono ?_
      intro e w17 hN
      obtain ⟨A17, k17, D17, j17, rfl, h17, hb17⟩ := NewFc.has hN
      have S17 := Lib.hid (h17.slp (by omega))
      have S17' := Lib.hid (h17.sls (by omega))
      have B17 := Lib.hid (B16.out.trans (hb17.mono B16.out.size))
      have W17 := Lib.hid (W16.out.below hb17)
      have P17 := Lib.hid (P16.out.below hb17)
      have R17 := Lib.hid (R16.out.below hb17)
      have M17 := Lib.hid (M16.out.below hb17)
      have N17 := Lib.hid (N16.out.below hb17)
      have y9 : w16.heap.size ≤ w17.heap.size := hb17.size
      clear hN h17 hb17 f0 f1 f2 B16 V16 W16 P16 R16 M16 N16
      go_wp2_with fail
      refine (CI.out _ _ _ S17.out S17'.out).mono ?_
      rintro e w18 ⟨A18, k18, D18, j18, rfl, h18, hb18⟩
      have a18 := Joins.below_alloc1 w18 (.cells #[.int .i64 rm, .slice A18 rl.length k18, .slice D18 rs.length j18] 28)
      have hb19 := hb18.trans (a18.mono hb18.size)
      have H19 := Lib.hid (h18.below a18)
      have B19 := Lib.hid (B17.out.trans (hb19.mono B17.out.size))
      have W19 := Lib.hid (W17.out.below hb19)
      have P19 := Lib.hid (P17.out.below hb19)
      have R19 := Lib.hid (R17.out.below hb19)
      have M19 := Lib.hid (M17.out.below hb19)
      have N19 := Lib.hid (N17.out.below hb19)
      have y10 : w17.heap.size ≤ w18.heap.size := hb18.size
      clear h18 hb18 a18 hb19 B17 W17 P17 R17 M17 N17
      have d0 := P19.out.cell 0
      have d1 := P19.out.cell 1
      have d2 := P19.out.cell 2
      simp at d0 d1 d2
      go_wp2_with fail
      refine (eqForecast_same rm _ _ _ _ rl rs _ (H19.out.slp (by omega)) (H19.out.sls (by omega)) (W19.out.slp (by omega)) (W19.out.sls (by omega))).mono ?_
      rintro e w20 ⟨rfl, hb20⟩
      have B20 := Lib.hid (B19.out.trans (hb20.mono B19.out.size))
      have R20 := Lib.hid (R19.out.below hb20)
      have M20 := Lib.hid (M19.out.below hb20)
      have N20 := Lib.hid (N19.out.below hb20)
      clear hb20 d0 d1 d2 B19 W19 P19 R19 M19 N19 H19
      have f0 := R20.out.cell 0
      have f1 := R20.out.cell 1
      have f2 := R20.out.cell 2
      simp at f0 f1 f2
      go_wp2_with fail
      refine (heldForecast_any rm rl.length rs.length _ _ _ _ 1 _ M20.out N20.out (by omega) (by omega) (by omega) (by omega)).mono ?_
      rintro e w21 ⟨rfl, hb21⟩
      have B21 := Lib.hid (B20.out.trans (hb21.mono B20.out.size))
      clear hb21 f0 f1 f2 B20 R20 M20 N20
      go_wp2
      go_ret
      exact ⟨rfl, B21.out⟩

set_option maxRecDepth 100000 in
theorem lifted (os : Os) (started : os.Started) (H : Type) (enc : TypeId × Value → H) :
    ReturnsInHanded {} Try.checked os 10 .any (Rows.fnExactReviseBandSpec.pre6 enc Try.prog Try.f10 Rows.fnExactReviseBandRow.domain false) (Rows.fnExactReviseBandSpec.post enc Try.prog Try.f10 false true false false) := by
  refine returnsInHanded_of_change (C := Try.checked) own started (by kernel_rfl) Try.func10
    (ChangeSpec.witness6 (enc := enc) (C := Try.checked) false ⟨#[], #[.agg #[.int .i64 0, .slice none 0 0, .slice none 0 0], .int .i64 0, .int .i64 0, .int .i64 0], []⟩ 8 (by kernel_rfl) (by kernel_rfl) (by kernel_rfl) (by kernel_rfl)) ?_
  intro W base args ds gs before hval0 hW _ _
  have hval : ∀ (j : Nat) t v, Try.f10.params[j]? = some t → args[j]? = some v → Value.okWide Try.prog W .any base t v := hval0
  have hW' := hW
  obtain ⟨p, q, hA0, hV, rfl, _, _⟩ := hW
  have hA : DataW.TrodAll enc Try.prog W 0 (fun _ => true) true Try.f10.params.toList args.toList ds p := hA0
  rw [Try.params10] at hA hval
  obtain ⟨v0, vs0, d0, ds0, p0, q0, hargs, rfl, rfl, h0, r0⟩ := trodAll_cons hA
  obtain ⟨v1, vs1, d1, ds1, p1, q1, rfl, rfl, rfl, h1, r1⟩ := trodAll_cons r0
  obtain ⟨v2, vs2, d2, ds2, p2, q2, rfl, rfl, rfl, h2, r2⟩ := trodAll_cons r1
  obtain ⟨v3, vs3, d3, ds3, p3, q3, rfl, rfl, rfl, h3, r3⟩ := trodAll_cons r2
  obtain ⟨rfl, rfl, rfl⟩ := trodAll_nil r3
  obtain rfl : args = #[v0, v1, v2, v3] := by cases args; simp_all
  obtain ⟨m0, A0, c0, l0, D0, e0, s0, rfl, g0⟩ := open_fc_arg (hval 0 52 v0 rfl rfl) h0
  obtain ⟨a1, rfl, rfl, rfl, g1⟩ := open_int Try.underlying3 (hval 1 3 v1 rfl rfl) h1
  obtain ⟨a2, rfl, rfl, rfl, g2⟩ := open_int Try.underlying3 (hval 2 3 v2 rfl rfl) h2
  obtain ⟨a3, rfl, rfl, rfl, g3⟩ := open_int Try.underlying3 (hval 3 3 v3 rfl rfl) h3
  refine (law m0 A0 c0 l0 D0 e0 s0 a1 a2 a3 W g0 g1 g2 g3).mono fun e W' ⟨he, hb⟩ => ⟨_, he, ?_⟩
  exact law_post laidOut (by kernel_rfl) rfl (by kernel_rfl) Try.underlying4 rfl rfl rfl hW' hb

theorem holds : Rows.FnExactReviseBandSaid :=
  OpenClaim.holds_of_wide 10 Try.f10 rfl rfl rfl rfl rfl rfl rfl ⟨rfl, rfl, rfl, rfl, rfl⟩ rfl rfl rfl rfl rfl (by kernel_rfl) Try.func10 (by kernel_rfl)
    (of_decide_eq_true (by kernel_rfl)) (by unfold Func.isWrapper; first | (rw [if_pos (by decide +kernel)]; kernel_rfl) | (rw [if_neg (by decide +kernel)]; exact ⟨rfl, rfl⟩))
    (fun os started H enc _ => lifted os started H enc)

end Go.Proofs.Ytbcbbolakjjglaa.exactReviseBand
