
/- What AfloatLaw rests on, part 3: contracts and mathematics. -/
import Derived.Test.YtpimcbhjkednpaaAf1
import Derived.Test.YtpimcbhjkednpaaAf2
import Derived.Deep.DeepCutAuto
import Derived.Test.YtpimcbhjkednpaaAf0
import Derived.StillTailTactics
import Derived.Deep.RegionHeld3
namespace Go.Proofs.Ytpimcbhjkednpaa
open Go.RowKit
set_option maxRecDepth 100000
/-- The surges that have been drawn, and where the next one begins. -/
def VS (s : List SurgeD) (a : Int) : Prop := Asc s ∧ (∀ x ∈ s, surgeB x = true ∧ x.fr < a) ∧ (s = [] → a = 0) ∧ (s ≠ [] → headB s = true) ∧ 0 ≤ a ∧ a ≤ 799 * s.length
theorem VS.nil : VS [] 0 := ⟨asc_pair.2 (by simp), by simp, fun _ => rfl, fun h => absurd rfl h, by omega, by simp⟩
theorem VS.next {s : List SurgeD} {a : Int} (h : VS s a) (hl : s.length ≤ 2) (lo d r : Int) (h1 : -40 ≤ lo) (h2 : lo ≤ 20) (d0 : 0 ≤ d) (d1 : d < 60) (r0 : 0 ≤ r) (r1 : r < 700) : VS (s ++ [⟨a, lo, lo + d⟩]) (a + 100 + r) := by
  obtain ⟨p1, p2, p3, p4, p5, p6⟩ := h
  have p7 : a ≤ 1598 := by omega
  refine ⟨?_, ?_, by simp, ?_, by omega, by simp; omega⟩
  · rw [asc_pair, List.pairwise_append]
    refine ⟨asc_pair.1 p1, by simp, fun x hx y hy => ?_⟩
    simp at hy
    subst hy
    exact (p2 x hx).2
  · intro x hx
    rw [List.mem_append] at hx
    rcases hx with hx | hx
    · exact ⟨(p2 x hx).1, by have := (p2 x hx).2; omega⟩
    · simp at hx
      subst hx
      exact ⟨surgeB_mk ⟨p5, by show a ≤ 2880; omega, by show -500 ≤ lo; omega, by show lo ≤ lo + d; omega, by show lo + d ≤ 500; omega⟩, by show a < _; omega⟩
  · intro _
    cases hs : s with
    | nil =>
      rw [hs] at p3
      have := p3 rfl
      subst this
      rfl
    | cons z q =>
      have h := p4 (by rw [hs]; simp)
      rw [hs] at h
      have e : ((z :: q) ++ [(⟨a, lo, lo + d⟩ : SurgeD)])[0]? = some z := rfl
      rw [headB_of e]
      rw [headB_of (show (z :: q)[0]? = some z from rfl)] at h
      exact h
theorem VS.fc {s : List SurgeD} {a : Int} {m : Int} {l : List PartD} (h : VS s a) (hs : 0 < s.length) (hl : s.length ≤ 3) (ht : tideB m l = true) : fcB m l s = true :=
  fcB_mk ht hs (by omega) (h.2.2.2.1 (by intro e; rw [e] at hs; simp at hs)) (first_of h.1 (fun x hx => (h.2.1 x hx).1))
/-- A forecast's variable b3 while it is drawn with the cursor p; b2 is the result's. -/
def DrawF (w : World) (p b2 b3 : Nat) (m : Int) (v u : Value) (l : List PartD) (s : List SurgeD) (wr : World) : Prop :=
  Cursor wr p ∧ w.grownBy wr (some p) ∧ Blk wr b2 #[.int .i64 0, .slice none 0 0, .slice none 0 0] 28 ∧ Blk wr b3 #[.int .i64 m, v, u] 28 ∧ OwnP wr w.heap.size v l ∧ (∀ g, v.ownBlock = some g → g < b3) ∧ OwnSurge wr (b3 + 1) u s ∧ p < w.heap.size ∧ w.heap.size ≤ b2 ∧ b2 < b3
theorem DrawF.step {w wr w3 : World} {p b2 b3 : Nat} {m : Int} {v u : Value} {l : List PartD} {s : List SurgeD} (h : DrawF w p b2 b3 m v u l s wr) (hg : wr.grownBy w3 (some p)) (hc : Cursor w3 p) : DrawF w p b2 b3 m v u l s w3 := by
  obtain ⟨h1, h2, h3, h4, h5, h6, h7, h8, h9, h10⟩ := h
  have n1 : v.ownBlock = none ∨ v.ownBlock ≠ some p := by
    cases hv : v.ownBlock with
    | none => exact .inl rfl
    | some g => right; intro e; have := (World.ownsRow.lt h5 g hv).1; have := Option.some.inj e; omega
  have n2 : u.ownBlock = none ∨ u.ownBlock ≠ some p := by
    cases hv : u.ownBlock with
    | none => exact .inl rfl
    | some g => right; intro e; have := (World.ownsRow.lt h7 g hv).1; have := Option.some.inj e; omega
  exact ⟨hc, grown_trans h2 hg, h3.grown hg (by simp; omega), h4.grown hg (by simp; omega), World.ownsRow.kept h5 hg n1, h6, World.ownsRow.kept h7 hg n2, h8, h9, h10⟩
theorem DrawF.drew {w wr : World} {p b2 b3 : Nat} {m : Int} {v u : Value} {l : List PartD} {s : List SurgeD} (h : DrawF w p b2 b3 m v u l s wr) : DrawF w p b2 b3 m v u l s wr.drew :=
  ⟨h.1.drew, ⟨h.2.1.os, h.2.1.tape, h.2.1.output, h.2.1.size, h.2.1.block⟩, h.2.2.1, h.2.2.2.1, h.2.2.2.2.1, h.2.2.2.2.2.1, h.2.2.2.2.2.2⟩
theorem DrawF.next {w w3 w4 : World} {p b2 b3 : Nat} {m : Int} {v u : Value} {l : List PartD} {s : List SurgeD} {x : SurgeD} {g4 cap4 : Nat} (h : DrawF w p b2 b3 m v u l s w3)
    (hown4 : w4.ownsRow (b3 + 1) 96 3 (.slice (some ⟨g4, 0, none⟩) (s.length + 1) cap4) (s.length + 1) (s.flatMap SurgeD.cells ++ x.cells)) (hgrow4 : (w3.alloc (.cells #[.int .i64 x.fr, .int .i64 x.lo, .int .i64 x.hi] 96)).grownBy w4 u.ownBlock) :
    w4.cell? ⟨b3, 2, none⟩ = some u ∧ w4.frozen? ⟨b3, 2, none⟩ = false ∧ DrawF w p b2 b3 m v (.slice (some ⟨g4, 0, none⟩) (s.length + 1) cap4) l (s ++ [x]) (w4.setCell ⟨b3, 2, none⟩ (.slice (some ⟨g4, 0, none⟩) (s.length + 1) cap4)) := by
  obtain ⟨hc, hg, hk, hj, hv, hvb, how, h1, h2, h3⟩ := h
  have hrow : ∀ b, u.ownBlock = some b → b3 < b := fun b hb => by have := (World.ownsRow.lt how b hb).1; omega
  have n3 : some b3 ≠ u.ownBlock := fun e => Nat.lt_irrefl _ (hrow b3 e.symm)
  have n2 : some b2 ≠ u.ownBlock := fun e => by have := hrow b2 e.symm; omega
  have nv : v.ownBlock = none ∨ v.ownBlock ≠ u.ownBlock := by
    cases e : v.ownBlock with
    | none => exact .inl rfl
    | some g => right; intro e2; have := hvb g e; have := hrow g e2.symm; omega
  have hal := Joins.below_alloc1 w3 (.cells #[.int .i64 x.fr, .int .i64 x.lo, .int .i64 x.hi] 96)
  have J4 := (hj.below hal).grown hgrow4 n3
  have K4 := (hk.below hal).grown hgrow4 n2
  have V4 := World.ownsRow.kept (own_below hv hal) hgrow4 nv
  refine ⟨J4.cell 2, J4.free 2, ?_, ?_, K4.other (by omega) _ _, J4.set 2 _, ?_, hvb, ?_, h1, h2, h3⟩
  · exact (((hc.below hal).grown hgrow4 (fun b hb => by have := hrow b hb; omega))).set (by omega) _ _
  · refine grown_setNew ?_ (by omega) _
    have e2 := grown_trans hg (grown_of_below hal (some p))
    refine ⟨hgrow4.os.trans e2.os, hgrow4.tape.trans e2.tape, hgrow4.output.trans e2.output, Nat.le_trans e2.size hgrow4.size, fun i hi hne => (hgrow4.block i (Nat.lt_of_lt_of_le hi e2.size) ?_).trans (e2.block i hi hne)⟩
    intro e
    have := hrow i e.symm
    omega
  · refine World.ownsRow.kept (row := some b3) V4 (grown_set1 w4 b3 2 _) ?_
    cases e : v.ownBlock with
    | none => exact .inl rfl
    | some g => right; intro e2; have := hvb g e; have := Option.some.inj e2; omega
  · refine own_set_under ?_ (by simp) _
    show World.ownsRow _ _ _ _ _ _ _
    have e : (s ++ [x]).flatMap SurgeD.cells = s.flatMap SurgeD.cells ++ x.cells := by simp
    rw [e]
    simpa using hown4
/-- What l03Draw leaves. -/
def DrawsFc (p : Nat) (w : World) (e : Ending) (w' : World) : Prop := ∃ (m : Int) (A : Option Addr) (c : Nat) (l : List PartD) (D : Option Addr) (d : Nat) (s : List SurgeD), e = .returned (.agg #[.int .i64 m, .slice A l.length c, .slice D s.length d]) ∧ fcB m l s = true ∧ s.length ≤ 3 ∧ OwnP w' w.heap.size (.slice A l.length c) l ∧ OwnSurge w' w.heap.size (.slice D s.length d) s ∧ Cursor w' p ∧ w.grownBy w' (some p)
set_option maxHeartbeats 4000000 in
theorem l03Draw_any (p : Nat) (w : World) (hcur : Cursor w p) : Calls Try.prog 33 #[.pointer (some ⟨p, 0, none⟩)] w (DrawsFc p w) := by
  have hb0 := Joins.below_alloc1 w (.cells #[.int .i64 0, .slice none 0 0, .slice none 0 0] 28)
  have C := Lib.hid (l02Draw_any p _ (hcur.below hb0))
  have hp := hcur.lt
  have G0 := Lib.hid (grown_alloc w (.cells #[.int .i64 0, .slice none 0 0, .slice none 0 0] 28) (some p))
  have K0 := Lib.hid (Blk.new w #[.int .i64 0, .slice none 0 0, .slice none 0 0] 28)
  obtain ⟨i0, hi, hz0, hz1, hz2⟩ := info_parts info_surge
  have HI := Lib.hid (And.intro hi (And.intro hz0 (And.intro hz1 hz2)))
  clear hcur hb0 hi hz0 hz1 hz2
  go_enter Try.func33, Try.ntmps33
  go_wp2_with fail
  refine C.out.mono ?_
  rintro e w1 ⟨m, v1, l, rfl, hv, how, hc1, hg1⟩
  obtain ⟨A1, c1, rfl⟩ := own_form how
  have hs1 : w.heap.size + 1 ≤ w1.heap.size := by have := hg1.size; simpa using this
  have hal := Joins.below_alloc1 w1 (.cells #[.int .i64 m, .slice A1 l.length c1, .slice none 0 0] 28)
  have HST := Lib.hid (show DrawF w p w.heap.size w1.heap.size m (.slice A1 l.length c1) (.slice none 0 0) l [] (w1.alloc (.cells #[.int .i64 m, .slice A1 l.length c1, .slice none 0 0] 28)) from
    ⟨hc1.below hal, grown_trans (grown_trans G0.out hg1) (grown_of_below hal (some p)), (K0.out.grown hg1 (by simp; omega)).below hal, Blk.new w1 _ _, own_lo (own_below how hal) (by simp), fun g hg => (World.ownsRow.lt how g hg).2, ⟨rfl, .inl ⟨rfl, rfl⟩⟩, hp, Nat.le_refl _, by omega⟩)
  have HV := Lib.hid hv
  have HNE := Lib.hid (show ∀ g, Value.ownBlock (.slice A1 l.length c1) = some g → g ≠ w.heap.size from fun g hg => by have := (World.ownsRow.lt how g hg).1; simp at this; omega)
  clear hc1 hg1 hal C how hv
  go_wp2_with fail
  refine (l01Below_any p 3 _ (by omega) (by omega) HST.out.1).mono ?_
  rintro e w2 ⟨n, rfl, n0, n1, hc2, hg2⟩
  have ST2 := Lib.hid (HST.out.step hg2 hc2)
  clear hc2 hg2 HST
  go_wp2
  go_loopw [4, 5] (fun a i wr => ∃ (k : Nat) (u : Value) (s : List SurgeD) (t : Int), s.length + k ≤ 3 ∧ 0 < s.length + k ∧ i = .int .i64 k ∧ a = .int .i64 t ∧ Hid (VS s t) ∧ Hid (DrawF w p w.heap.size w1.heap.size m (.slice A1 l.length c1) u l s wr)) (fun _ i _ => (intOf i).toNat)
  case atStart => exact ⟨(1 + n).toNat, _, [], 0, by simp; omega, by simp; omega, by simp; omega, rfl, Lib.hid VS.nil, ST2⟩
  case round =>
    obtain ⟨k, u, s, t, hlk, hpos, rfl, rfl, hVS, hD⟩ := hrel
    have tb := hVS.out.2.2.2.2
    have t0 : 0 ≤ t := tb.1
    have t1 : t ≤ 2397 := by omega
    clear tb
    by_cases hk : 0 < k
    · go_wp2_with fail
      refine (l01Below_any p 60 _ (by omega) (by omega) hD.out.1).mono ?_
      rintro e w3 ⟨lo, rfl, lo0, lo1, hc3, hg3⟩
      have D3 := Lib.hid (hD.out.step hg3 hc3)
      have P := Lib.hid (l01Below_any p 60 w3.drew (by omega) (by omega) D3.out.drew.1)
      have j2 := D3.out.2.2.2.1.cell 2
      simp at j2
      clear hc3 hg3
      go_upto_region 7 with fail
      go_cut [] (fun wx => ∃ (d : Int) (u8 : Value), 0 ≤ d ∧ d < 60 ∧ Hid (DrawF w p w.heap.size w1.heap.size m (.slice A1 l.length c1) u8 l (s ++ [⟨t, lo - 40, lo - 40 + d⟩]) wx))
      case first =>
        have hi := HI.out
        have HI' := Lib.hid hi
        clear hi
        go_region_law (first
          | (go_simp; go_at_call 62; refine P.out.mono ?_; rintro e w5 ⟨d, rfl, d0, d1, hc5, hg5⟩; have GA := Lib.hid (D3.out.drew.step hg5 hc5); have j3 := GA.out.2.2.2.1.cell 2; simp at j3; have hw1 : IntKind.i64.wrap (lo - 40 + d) = lo - 40 + d := (by rw [IntKind.wrap_i64]; omega); have j4 := (GA.out.2.2.2.1.below (Joins.below_alloc1 w5 (.cells #[.int .i64 t, .int .i64 (lo - 40), .int .i64 (lo - 40 + d)] 96))).cell 2; simp at j4; have ow7 := Lib.hid (own_below GA.out.2.2.2.2.2.2.1 (Joins.below_alloc1 w5 (.cells #[.int .i64 t, .int .i64 (lo - 40), .int .i64 (lo - 40 + d)] 96))); have hs5 : w1.heap.size + 1 ≤ w5.heap.size := GA.out.2.2.2.1.lt; clear hc5 hg5)
          | (refine step_append_lies _ (by rfl) _ _ _ (by rfl) (w1.heap.size + 1) 96 i0 _ 3 24 Try.underlying26 HI'.out.1 HI'.out.2.1 HI'.out.2.2.1 HI'.out.2.2.2 rfl (by omega) u s.length (s.flatMap SurgeD.cells) (by rfl) ow7.out ⟨w5.heap.size, 0, none⟩ 1 1 (SurgeD.cells ⟨t, lo - 40, lo - 40 + d⟩) (by rfl) (by rfl) (World.news_of_block (heap_alloc_new w5 _)) (surge_one _) (by omega) (by unfold maxLen; omega) (by omega) (by simp; omega) _ rfl ?_; intro g4 cap4 w4 hown4 hgrow4 hor4 hlt4; obtain ⟨t1, t2, t3⟩ := GA.out.next (x := ⟨t, lo - 40, lo - 40 + d⟩) hown4 hgrow4; have T3 := Lib.hid t3; clear hown4 hgrow4 hor4 t3))
        all_goals
          go_wp2_with fail
          go_meet
          exact ⟨d, _, d0, d1, T3⟩
      case rest =>
        obtain ⟨d, u8, d0, d1, G8⟩ := hcut
        clear P j2 D3
        go_wp2_with fail
        refine (l01Below_any p 700 _ (by omega) (by omega) G8.out.1).mono ?_
        rintro e w9 ⟨r, rfl, r0, r1, hc9, hg9⟩
        have G9 := Lib.hid (G8.out.step hg9 hc9)
        have V9 := Lib.hid (hVS.out.next (by omega) (lo - 40) d r (by omega) (by omega) d0 d1 r0 r1)
        clear hc9 hg9
        go_wp2
        go_roundw
        case rel => exact ⟨k - 1, u8, _, t + 100 + r, by simp; omega, by simp; omega, by go_num, rfl, V9, G9⟩
        case measure => simp [intOf]; omega
    · have hs0 : 0 < s.length := by omega
      have hs3 : s.length ≤ 3 := by omega
      have FC := Lib.hid (hVS.out.fc hs0 hs3 HV.out)
      obtain ⟨dc, dg, dk, dj, dv, dvb, du, _, _, _⟩ := hD.out
      obtain ⟨D9, d9, rfl⟩ := own_form du
      have j0 := dj.cell 0
      have j1 := dj.cell 1
      have j2 := dj.cell 2
      have k0 := dk.cell 0
      have k1 := dk.cell 1
      have k2 := dk.cell 2
      simp at j0 j1 j2 k0 k1 k2
      have f0 := dk.free 0
      have f1 := dk.free 1
      have f2 := dk.free 2
      have HDV := Lib.hid dv
      have HDU := Lib.hid du
      have HDC := Lib.hid dc
      have HDG := Lib.hid dg
      have hv1 := World.ownsRow.lt dv
      have LV := Lib.hid (show ∀ g, Value.ownBlock (.slice A1 l.length c1) = some g → w.heap.size ≤ g ∧ g ≠ w.heap.size from fun g hg => ⟨(hv1 g hg).1, fun e => (HNE.out g hg e)⟩)
      clear dc dg dk dj dv dvb du hD hVS hv1
      go_wp2
      refine bodyPost_ret (v := .agg #[.int .i64 m, .slice A1 l.length c1, .slice D9 s.length d9]) (by simp [results, Try.results33, go_sem, *]) rfl ⟨m, _, _, l, _, _, s, rfl, FC.out, hs3, ?_, ?_, ?_, ?_⟩
      · have key : ∀ (W : World) (j : Nat) (x : Value), OwnP W w.heap.size (.slice A1 l.length c1) l → OwnP (W.setCell ⟨w.heap.size, j, none⟩ x) w.heap.size (.slice A1 l.length c1) l := fun W j x h => by
          refine World.ownsRow.kept (row := some w.heap.size) h (grown_set1 W w.heap.size j x) ?_
          cases e : Value.ownBlock (.slice A1 l.length c1) with
          | none => exact .inl rfl
          | some g => right; intro e2; exact (LV.out g e).2 (Option.some.inj e2)
        repeat (first | exact HDV.out | refine key _ _ _ ?_)
      · refine own_lo (base := w1.heap.size + 1) ?_ (by omega)
        repeat (first | exact HDU.out | refine own_set_under ?_ (by simp; omega) _)
      · repeat (first | exact HDC.out | refine Cursor.set ?_ hp _ _)
      · repeat (first | exact HDG.out | refine grown_setNew ?_ (Nat.le_refl _) _)
/-- What MakeForecast leaves. -/
def MadeFc (w : World) (e : Ending) (w' : World) : Prop := ∃ (m : Int) (A : Option Addr) (c : Nat) (l : List PartD) (D : Option Addr) (d : Nat) (s : List SurgeD), e = .returned (.agg #[.int .i64 m, .slice A l.length c, .slice D s.length d]) ∧ fcB m l s = true ∧ s.length ≤ 3 ∧ SlP w' (.slice A l.length c) l ∧ SlSurge w' (.slice D s.length d) s ∧ Below w.heap.size w w'
set_option maxHeartbeats 2000000 in
theorem makeForecast_any (A : Option Addr) (n c : Nat) (w : World) (hcode : CodeAt w A n) : Calls Try.prog 8 #[.slice A n c] w (MadeFc w) := by
  have hb0 := Joins.below_alloc1 w (.cells #[.int .i64 0, .slice none 0 0, .slice none 0 0] 28)
  have C := Lib.hid (l01New_any A n c _ (hcode.below hb0))
  have K0 := Lib.hid (Blk.new w #[.int .i64 0, .slice none 0 0, .slice none 0 0] 28)
  have B0 := Lib.hid hb0
  clear hcode hb0
  go_enter Try.func8, Try.ntmps8
  go_wp2_with fail
  refine C.out.mono ?_
  rintro e w1 ⟨p, rfl, hp, hcur, hb1⟩
  have hp' : w.heap.size + 1 ≤ p := by simpa using hp
  have HC := Lib.hid hcur
  have K1 := Lib.hid (K0.out.below hb1)
  have B1 := Lib.hid (B0.out.trans (hb1.mono B0.out.size))
  clear hcur hb1 hp C
  go_wp2_with fail
  refine (l03Draw_any p w1 HC.out).mono ?_
  rintro e w2 ⟨m, A2, c2, l, D2, d2, s, rfl, hf, hs3, hv, hu, hc2, hg2⟩
  have K2 := K1.out.grown hg2 (by simp; omega)
  have k0 := K2.cell 0
  have k1 := K2.cell 1
  have k2 := K2.cell 2
  simp at k0 k1 k2
  have f0 := K2.free 0
  have f1 := K2.free 1
  have f2 := K2.free 2
  have HVV := Lib.hid hv
  have HUU := Lib.hid hu
  have HF := Lib.hid hf
  have B2 := Lib.hid (below_of_grown B1.out hg2 B1.out.size (by omega))
  have hsz : w.heap.size < w1.heap.size := K1.out.lt
  clear hv hu hf hc2 hg2 K2
  go_wp2
  refine bodyPost_ret (v := .agg #[.int .i64 m, .slice A2 l.length c2, .slice D2 s.length d2]) (by simp [results, Try.results8, go_sem, *]) rfl ⟨m, _, _, l, _, _, s, rfl, HF.out, hs3, ?_, ?_, ?_⟩
  · refine own_sl (t := 124) (base := w1.heap.size) partLen ?_ (by have := tideB_true (fcB_true HF.out).1; omega)
    repeat (first | exact HVV.out | refine own_set_under ?_ (by simpa using hsz) _)
  · refine own_sl (t := 96) (base := w1.heap.size) surgeLen ?_ (by omega)
    repeat (first | exact HUU.out | refine own_set_under ?_ (by simpa using hsz) _)
  · repeat (first | exact B2.out | refine Below.setCell ?_ (by simp) _)
end Go.Proofs.Ytpimcbhjkednpaa
namespace Go.Proofs.Ytpimcbhjkednpaa
open Go.RowKit
theorem cell_onV {a b : World} {p : Addr} {v : Value} (h : a.cell? p = some v) (hb : Below a.heap.size a b) : b.cell? p = some v := (hb.cell (World.block_lt_of_cell? a _ h)).trans h
end Go.Proofs.Ytpimcbhjkednpaa
namespace Go.Proofs.Ytpimcbhjkednpaa
open Go.ChangeShapes Go.WideShapes Go.ChangeAt Go.Deep Go.RowKit
set_option maxRecDepth 100000
structure PointD where
  name : ByteArray
  wait : Bool
@[reducible] def PointD.val (d : PointD) : Value := .agg #[.string d.name, .bool d.wait]
@[reducible] def PointD.cells (d : PointD) : List Value := [.string d.name, .bool d.wait]
theorem pointLen (d : PointD) : d.cells.length = 2 := rfl
def SlPoint : World → Value → List PointD → Prop := SlOf 2 PointD.cells
def OwnPoint : World → Nat → Value → List PointD → Prop := OwnOf 2 PointD.cells 100
theorem SlPoint.at {w : World} {v : Value} {l : List PointD} (h : SlPoint w v l) : ∃ A c, v = .slice A l.length c := SlOf.form h
theorem SlPoint.below {w w' : World} {v : Value} {l : List PointD} (h : SlPoint w v l) (hb : Below w.heap.size w w') : SlPoint w' v l := SlOf.below h hb
theorem OwnPoint.sl {w : World} {base : Nat} {v : Value} {l : List PointD} (h : OwnPoint w base v l) (hl : l.length ≤ 1000000000) : SlPoint w v l := own_sl pointLen h hl
theorem SlPoint.cells {w : World} {l : List PointD} {g o : Nat} (hc : ∀ i x, l[i]? = some x → ∀ j u, (PointD.cells x)[j]? = some u → w.cell? ⟨g, o + i * 2 + j, none⟩ = some u) (i : Nat) (x : PointD) (hx : l[i]? = some x) :
    w.cell? ⟨g, o + i * 2, none⟩ = some (.string x.name) ∧ w.cell? ⟨g, o + i * 2 + 1, none⟩ = some (.bool x.wait) :=
  ⟨hc i x hx 0 _ rfl, hc i x hx 1 _ rfl⟩
theorem info_point : (Try.prog.info? 100).map (fun i => (i.zero, i.size, i.bytes)) = some (some (.agg #[.string ⟨#[]⟩, .bool false]), 2, 24) := by kernel_rfl
section
variable {H : Type} {enc : TypeId × Value → H} {w : World} {base : Nat} {spare : Nat → Bool} {held : Bool}
def PointD.wf (d : PointD) : Prop := d.name.size ≤ maxLen
end
end Go.Proofs.Ytpimcbhjkednpaa
namespace Go.Proofs.Ytpimcbhjkednpaa
open Go.ChangeShapes Go.WideShapes Go.ChangeAt Go.Deep Go.RowKit
set_option maxRecDepth 100000
structure SegmentD where
  a : Int
  b : Int
  depth : Int
  minutes : Int
  meet : Bool
@[reducible] def SegmentD.val (d : SegmentD) : Value := .agg #[.int .i64 d.a, .int .i64 d.b, .int .i64 d.depth, .int .i64 d.minutes, .bool d.meet]
@[reducible] def SegmentD.cells (d : SegmentD) : List Value := [.int .i64 d.a, .int .i64 d.b, .int .i64 d.depth, .int .i64 d.minutes, .bool d.meet]
theorem segmentLen (d : SegmentD) : d.cells.length = 5 := rfl
def SlSegment : World → Value → List SegmentD → Prop := SlOf 5 SegmentD.cells
def OwnSegment : World → Nat → Value → List SegmentD → Prop := OwnOf 5 SegmentD.cells 49
theorem SlSegment.at {w : World} {v : Value} {l : List SegmentD} (h : SlSegment w v l) : ∃ A c, v = .slice A l.length c := SlOf.form h
theorem SlSegment.below {w w' : World} {v : Value} {l : List SegmentD} (h : SlSegment w v l) (hb : Below w.heap.size w w') : SlSegment w' v l := SlOf.below h hb
theorem OwnSegment.sl {w : World} {base : Nat} {v : Value} {l : List SegmentD} (h : OwnSegment w base v l) (hl : l.length ≤ 1000000000) : SlSegment w v l := own_sl segmentLen h hl
theorem SlSegment.cells {w : World} {l : List SegmentD} {g o : Nat} (hc : ∀ i x, l[i]? = some x → ∀ j u, (SegmentD.cells x)[j]? = some u → w.cell? ⟨g, o + i * 5 + j, none⟩ = some u) (i : Nat) (x : SegmentD) (hx : l[i]? = some x) :
    w.cell? ⟨g, o + i * 5, none⟩ = some (.int .i64 x.a) ∧ w.cell? ⟨g, o + i * 5 + 1, none⟩ = some (.int .i64 x.b) ∧ w.cell? ⟨g, o + i * 5 + 2, none⟩ = some (.int .i64 x.depth) ∧ w.cell? ⟨g, o + i * 5 + 3, none⟩ = some (.int .i64 x.minutes) ∧ w.cell? ⟨g, o + i * 5 + 4, none⟩ = some (.bool x.meet) :=
  ⟨hc i x hx 0 _ rfl, hc i x hx 1 _ rfl, hc i x hx 2 _ rfl, hc i x hx 3 _ rfl, hc i x hx 4 _ rfl⟩
theorem info_segment : (Try.prog.info? 49).map (fun i => (i.zero, i.size, i.bytes)) = some (some (.agg #[.int .i64 0, .int .i64 0, .int .i64 0, .int .i64 0, .bool false]), 5, 40) := by kernel_rfl
section
variable {H : Type} {enc : TypeId × Value → H} {w : World} {base : Nat} {spare : Nat → Bool} {held : Bool}
def SegmentD.wf (d : SegmentD) : Prop := (Lit.int .i64 d.a).wf = true ∧ (Lit.int .i64 d.b).wf = true ∧ (Lit.int .i64 d.depth).wf = true ∧ (Lit.int .i64 d.minutes).wf = true
end
end Go.Proofs.Ytpimcbhjkednpaa
namespace Go.Proofs.Ytpimcbhjkednpaa
open Go.ChangeShapes Go.WideShapes Go.ChangeAt Go.Deep Go.RowKit
set_option maxRecDepth 100000
structure ChartD where
  points : List PointD
  segs : List SegmentD
/-- The slices read as the lists of d. -/
def RdChart (w : World) (v0 v1 : Value) (d : ChartD) : Prop := SlPoint w v0 d.points ∧ SlSegment w v1 d.segs
theorem RdChart.below {w w' : World} {v0 v1 : Value} {d : ChartD} (h : RdChart w v0 v1 d) (hb : Below w.heap.size w w') : RdChart w' v0 v1 d := ⟨h.1.below hb, h.2.below hb⟩
section
variable {H : Type} {enc : TypeId × Value → H} {w : World} {base : Nat} {spare : Nat → Bool} {held : Bool}
end
end Go.Proofs.Ytpimcbhjkednpaa
namespace Go.Proofs.Ytpimcbhjkednpaa
open Go.RowKit
set_option maxRecDepth 100000
/-- The index of the first point of a name, or -1. -/
def namedI (l : List PointD) (s : ByteArray) : Int := match l.findIdx? (fun p => p.name.toList == s.toList) with | some i => (i : Int) | none => -1
def NoName (l : List PointD) (s : ByteArray) (k : Nat) : Prop := ∀ j, j < k → ∀ y, l[j]? = some y → (y.name.toList == s.toList) = false
theorem NoName.zero (l : List PointD) (s : ByteArray) : NoName l s 0 := fun j hj => absurd hj (by omega)
theorem NoName.next {l : List PointD} {s : ByteArray} {k : Nat} {x : PointD} (h : NoName l s k) (hx : l[k]? = some x) (hn : (x.name.toList == s.toList) = false) : NoName l s (k + 1) := fun j hj y hy => by
  by_cases e : j = k
  · subst e; rw [hx] at hy; cases hy; exact hn
  · exact h j (by omega) y hy
theorem namedI_at {l : List PointD} {s : ByteArray} {k : Nat} {x : PointD} (h : NoName l s k) (hx : l[k]? = some x) (hn : (x.name.toList == s.toList) = true) : namedI l s = k := by
  have : l.findIdx? (fun p => p.name.toList == s.toList) = some k := by
    rw [List.findIdx?_eq_some_iff_getElem]
    obtain ⟨hk, rfl⟩ := List.getElem?_eq_some_iff.1 hx
    exact ⟨hk, hn, fun j hj => by rw [h j hj _ (List.getElem?_eq_getElem (by omega))]; simp⟩
  unfold namedI; rw [this]
/-- The segment joins the two points. -/
def joinsB (s : SegmentD) (a b : Int) : Bool := (s.a == a && s.b == b) || (s.a == b && s.b == a)
end Go.Proofs.Ytpimcbhjkednpaa
namespace Go.Proofs.Ytpimcbhjkednpaa
open Go.RowKit
theorem isDigit_any (r : Int) (w : World) :
    Calls Try.prog 87 #[.int .i32 r] w fun e w' => e = .returned (.bool (dgI r)) ∧ w = w' := by
  by_cases h1 : 48 ≤ r
  · by_cases h2 : r ≤ 57
    · have hn := Lib.hid (dgI_true h1 h2)
      go_enter Try.func87, Try.ntmps87
      go_wp2
      go_ret
      exact ⟨ret_bool hn.out.symm, rfl⟩
    · have hn := Lib.hid (dgI_false (.inr (by omega : 57 < r)))
      go_enter Try.func87, Try.ntmps87
      go_wp2
      go_ret
      exact ⟨ret_bool hn.out.symm, rfl⟩
  · have hn := Lib.hid (dgI_false (.inl (by omega : r < 48)))
    go_enter Try.func87, Try.ntmps87
    go_wp2
    go_ret
    exact ⟨ret_bool hn.out.symm, rfl⟩
end Go.Proofs.Ytpimcbhjkednpaa
namespace Go.Proofs.Ytpimcbhjkednpaa
open Go.RowKit
def ltI (r : Int) : Bool := decide (97 ≤ r ∧ r ≤ 122)
def nmAt (k : Nat) (r : Int) : Bool := ltI r || (decide (k ≠ 0) && dgI r)
def preB : List UInt8 → Bool
  | [] => true
  | c :: t => ltI (c.toNat : Int) && t.all fun d => ltI (d.toNat : Int) || dgI (d.toNat : Int)
def nameB (s : ByteArray) : Bool := preB s.data.toList && decide (1 ≤ s.size ∧ s.size ≤ 8)
theorem ltI_false {r : Int} (h : r < 97 ∨ 122 < r) : ltI r = false := by
  unfold ltI; exact decide_eq_false (by omega)
theorem ltI_true {r : Int} (h : 97 ≤ r) (h' : r ≤ 122) : ltI r = true := by
  unfold ltI; exact decide_eq_true ⟨h, h'⟩
theorem preB_snoc (l : List UInt8) (c : UInt8) : preB (l ++ [c]) = (preB l && nmAt l.length (c.toNat : Int)) := by
  cases l with
  | nil => simp [preB, nmAt]
  | cons a t => simp [preB, nmAt, List.all_append, Bool.and_assoc]
theorem preB_append (l r : List UInt8) (h : preB l = false) : preB (l ++ r) = false := by
  cases l with
  | nil => simp [preB] at h
  | cons a t =>
    simp only [List.cons_append, preB, List.all_append, ← Bool.and_assoc] at h ⊢
    rw [h]; rfl
theorem take_len (s : ByteArray) (k : Nat) (h : k ≤ s.size) : (s.data.toList.take k).length = k := by
  rw [List.length_take]; have : s.data.toList.length = s.size := rfl; omega
theorem nm_step (s : ByteArray) (k : Nat) (h : k < s.size) (hp : preB (s.data.toList.take k) = true) : preB (s.data.toList.take (k + 1)) = nmAt k (s[k].toNat : Int) := by
  rw [take_snoc s k h, preB_snoc, hp, take_len s k (by omega), Bool.true_and]
theorem nm_not (s : ByteArray) (k : Nat) (h : k < s.size) (hp : nmAt k (s[k].toNat : Int) = false) : nameB s = false := by
  have h1 : preB (s.data.toList.take (k + 1)) = false := by
    rw [take_snoc s k h, preB_snoc, take_len s k (by omega), hp, Bool.and_false]
  have h2 := preB_append _ (s.data.toList.drop (k + 1)) h1
  rw [List.take_append_drop] at h2
  unfold nameB; rw [h2]; rfl
theorem nm_end (s : ByteArray) (k : Nat) (h : s.size ≤ k) (hp : preB (s.data.toList.take k) = true) : nameB s = decide (1 ≤ s.size ∧ s.size ≤ 8) := by
  rw [take_all s k h] at hp
  unfold nameB; rw [hp]; rfl
theorem nm_long (s : ByteArray) (h : 8 < s.size) : nameB s = false := by
  unfold nameB; rw [decide_eq_false (by omega), Bool.and_false]
theorem nm_none (s : ByteArray) (h : s.size = 0) : nameB s = false := by
  unfold nameB; rw [decide_eq_false (by omega), Bool.and_false]
theorem nmAt_other (k : Nat) {r : Int} (h : r < 97 ∨ 122 < r) (h' : r < 48 ∨ 57 < r) : nmAt k r = false := by
  unfold nmAt; rw [ltI_false h, dgI_false h']; simp
theorem isLetter_any (r : Int) (w : World) :
    Calls Try.prog 86 #[.int .i32 r] w fun e w' => e = .returned (.bool (ltI r)) ∧ w = w' := by
  by_cases h1 : 97 ≤ r
  · by_cases h2 : r ≤ 122
    · have hn := Lib.hid (ltI_true h1 h2)
      go_enter Try.func86, Try.ntmps86
      go_wp2
      go_ret
      exact ⟨ret_bool hn.out.symm, rfl⟩
    · have hn := Lib.hid (ltI_false (.inr (by omega : 122 < r)))
      go_enter Try.func86, Try.ntmps86
      go_wp2
      go_ret
      exact ⟨ret_bool hn.out.symm, rfl⟩
  · have hn := Lib.hid (ltI_false (.inl (by omega : r < 97)))
    go_enter Try.func86, Try.ntmps86
    go_wp2
    go_ret
    exact ⟨ret_bool hn.out.symm, rfl⟩
theorem rune_nm (s : ByteArray) (pos : Nat) (h : pos < s.size) (hr : nmAt pos ((Utf8.decode s pos).1 : Int) = true) : nmAt pos (s[pos].toNat : Int) = true ∧ (Utf8.decode s pos).2 = 1 := by
  have hr' := hr
  have hlow : (Utf8.decode s pos).1 < 128 := by
    unfold nmAt ltI dgI at hr
    simp only [Bool.or_eq_true, Bool.and_eq_true, decide_eq_true_eq] at hr
    omega
  obtain ⟨e, e'⟩ := rune_low s pos h hlow
  rw [e]; exact ⟨hr', e'⟩
theorem rune_not_nm (s : ByteArray) (pos : Nat) (h : pos < s.size) (hr : nmAt pos ((Utf8.decode s pos).1 : Int) = false) : nmAt pos (s[pos].toNat : Int) = false := by
  by_cases ha : (s[pos]'h).toNat < 128
  · rw [decode_ascii s pos h ha] at hr; exact hr
  · exact nmAt_other pos (.inr (by omega)) (.inr (by omega))
set_option maxHeartbeats 1000000 in
theorem implIsName (s : ByteArray) (w : World) (hs : s.size ≤ maxLen) :
    Calls Try.prog 67 #[.string s] w fun e w' => e = .returned (.bool (nameB s)) ∧ Below w.heap.size w w' := by
  unfold maxLen at hs
  by_cases h0 : s.size = 0
  · have hn := Lib.hid (nm_none s h0)
    have he : s.toList = [] := by rw [ByteArray.toList_eq]; exact List.eq_nil_of_length_eq_zero h0
    clear h0
    go_enter Try.func67, Try.ntmps67
    go_wp2
    go_ret
    exact ⟨ret_bool hn.out.symm, Below.refl _ _⟩
  · have he : s.toList.isEmpty = false := by
      have h := notEmpty s
      rw [decide_eq_true (by omega)] at h
      simpa using h
    have he2 : (s.toList = []) = False := by
      cases h : s.toList with
      | nil => rw [h] at he; simp at he
      | cons a t => simp
    by_cases h8 : 8 < s.size
    · have hn := Lib.hid (nm_long s h8)
      go_enter Try.func67, Try.ntmps67
      go_wp2
      go_ret
      exact ⟨ret_bool hn.out.symm, Below.refl _ _⟩
    · go_enter Try.func67, Try.ntmps67
      go_wp2
      go_loopw [3, 4] (fun _ _ w' => ∃ pos : Nat, w' = w.iter s pos ∧ pos ≤ s.size ∧ Hid (preB (s.data.toList.take pos) = true)) (fun _ _ w' => s.size - w'.iterPos w.heap.size)
      case atStart => exact ⟨0, rfl, Nat.zero_le _, rfl⟩
      case round =>
        obtain ⟨pos, rfl, hk, hd⟩ := hrel
        by_cases hp : pos < s.size
        · have hnx : ∀ ty, (Instr.next (.pointer (some ⟨w.heap.size, 0, none⟩)) true ty).run Try.prog (w.iter s pos) = _ := fun ty => run_next_any w s pos ty hp
          cases hc : nmAt pos ((Utf8.decode s pos).1 : Int)
          · have hn := Lib.hid (nm_not s pos hp (rune_not_nm s pos hp hc))
            have hl : ltI ((Utf8.decode s pos).1 : Int) = false := by
              unfold nmAt at hc; exact (Bool.or_eq_false_iff.1 hc).1
            by_cases hz0 : pos = 0
            · have hz : ((pos : Int) == 0) = true := by simpa using hz0
              clear hc hz0
              go_wp2_with (go_at_call 86; refine (isLetter_any _ _).mono ?_; rintro e w' ⟨rfl, rfl⟩)
              go_ret
              exact ⟨ret_bool hn.out.symm, (Below.refl _ _).alloc (Nat.le_refl _) _⟩
            · have hz : ((pos : Int) == 0) = false := by simpa using hz0
              have hdg : dgI ((Utf8.decode s pos).1 : Int) = false := by
                unfold nmAt at hc
                have := (Bool.or_eq_false_iff.1 hc).2
                rw [decide_eq_true hz0] at this
                simpa using this
              clear hc hz0
              go_wp2_with (first
                | (go_at_call 86; refine (isLetter_any _ _).mono ?_; rintro e w' ⟨rfl, rfl⟩)
                | (go_at_call 87; refine (isDigit_any _ _).mono ?_; rintro e w' ⟨rfl, rfl⟩))
              go_ret
              exact ⟨ret_bool hn.out.symm, (Below.refl _ _).alloc (Nat.le_refl _) _⟩
          · have hw := Lib.hid (rune_nm s pos hp hc)
            have hy := Lib.hid ((nm_step s pos hp hd.out).trans hw.out.1)
            cases hl : ltI ((Utf8.decode s pos).1 : Int)
            · have hq := hc
              unfold nmAt at hq
              rw [hl] at hq
              simp only [Bool.false_or, Bool.and_eq_true, decide_eq_true_eq] at hq
              obtain ⟨hz0, hdg⟩ := hq
              have hz : ((pos : Int) == 0) = false := by simpa using hz0
              clear hc hz0
              go_wp2_with (first
                | (go_at_call 86; refine (isLetter_any _ _).mono ?_; rintro e w' ⟨rfl, rfl⟩)
                | (go_at_call 87; refine (isDigit_any _ _).mono ?_; rintro e w' ⟨rfl, rfl⟩))
              go_roundw
              case rel =>
                rw [hw.out.2]
                exact ⟨pos + 1, rfl, by omega, hy⟩
              case measure => have := hw.out.2; simp; omega
            · clear hc
              go_wp2_with (go_at_call 86; refine (isLetter_any _ _).mono ?_; rintro e w' ⟨rfl, rfl⟩)
              go_roundw
              case rel =>
                rw [hw.out.2]
                exact ⟨pos + 1, rfl, by omega, hy⟩
              case measure => have := hw.out.2; simp; omega
        · have hnx : ∀ ty, (Instr.next (.pointer (some ⟨w.heap.size, 0, none⟩)) true ty).run Try.prog (w.iter s pos) = _ := fun ty => run_next_end w s pos ty hp
          have hn := Lib.hid ((nm_end s pos (by omega) hd.out).trans (decide_eq_true (by omega)))
          go_wp2
          go_ret
          exact ⟨ret_bool hn.out.symm, (Below.refl _ _).alloc (Nat.le_refl _) _⟩
end Go.Proofs.Ytpimcbhjkednpaa
namespace Go.Proofs.Ytpimcbhjkednpaa
open Go.RowKit
set_option maxRecDepth 100000
def segB (n : Nat) (s : SegmentD) : Bool := inB s.a 0 ((n : Int) - 1) && inB s.b 0 ((n : Int) - 1) && !(s.a == s.b) && inB s.depth 0 3000 && inB s.minutes 1 240
def ptOk (l : List PointD) (k : Nat) : Bool := match l[k]? with | some x => nameB x.name && (namedI l x.name == (k : Int)) | none => true
/-- No segment ahead of k joins the ends of s. -/
def aloneB (l : List SegmentD) (s : SegmentD) (k : Nat) : Bool := (l.take k).all fun o => !joinsB o s.a s.b
def sgOk (n : Nat) (l : List SegmentD) (k : Nat) : Bool := match l[k]? with | some s => segB n s && aloneB l s k | none => true
def chartB (d : ChartD) : Bool := decide (d.points.length ≤ 8 ∧ d.segs.length ≤ 10) && (List.range d.points.length).all (ptOk d.points) && (List.range d.segs.length).all (sgOk d.points.length d.segs)
def FirstPt (d : ChartD) (k : Nat) : Prop := ∀ j, j < k → ptOk d.points j = true
def FirstSg (d : ChartD) (k : Nat) : Prop := ∀ j, j < k → sgOk d.points.length d.segs j = true
theorem FirstPt.next {d : ChartD} {k : Nat} (h : FirstPt d k) (hk : ptOk d.points k = true) : FirstPt d (k + 1) := fun j hj => by
  by_cases e : j = k
  · subst e; exact hk
  · exact h j (by omega)
theorem FirstSg.next {d : ChartD} {k : Nat} (h : FirstSg d k) (hk : sgOk d.points.length d.segs k = true) : FirstSg d (k + 1) := fun j hj => by
  by_cases e : j = k
  · subst e; exact hk
  · exact h j (by omega)
theorem chartB_mk {d : ChartD} (h1 : d.points.length ≤ 8) (h2 : d.segs.length ≤ 10) (h3 : FirstPt d d.points.length) (h4 : FirstSg d d.segs.length) : chartB d = true := by
  unfold chartB
  rw [decide_eq_true ⟨h1, h2⟩, List.all_eq_true.2 (fun j hj => h3 j (List.mem_range.1 hj)), List.all_eq_true.2 (fun j hj => h4 j (List.mem_range.1 hj))]
  rfl
theorem chartB_true {d : ChartD} (h : chartB d = true) : d.points.length ≤ 8 ∧ d.segs.length ≤ 10 ∧ FirstPt d d.points.length ∧ FirstSg d d.segs.length := by
  unfold chartB at h
  rw [Bool.and_eq_true, Bool.and_eq_true, decide_eq_true_iff] at h
  obtain ⟨⟨⟨h1, h2⟩, h3⟩, h4⟩ := h
  exact ⟨h1, h2, fun j hj => List.all_eq_true.1 h3 j (List.mem_range.2 hj), fun j hj => List.all_eq_true.1 h4 j (List.mem_range.2 hj)⟩
theorem ptOk_at {l : List PointD} {k : Nat} {x : PointD} (hx : l[k]? = some x) : ptOk l k = (nameB x.name && (namedI l x.name == (k : Int))) := by unfold ptOk; rw [hx]
theorem sgOk_at {n : Nat} {l : List SegmentD} {k : Nat} {s : SegmentD} (hx : l[k]? = some s) : sgOk n l k = (segB n s && aloneB l s k) := by unfold sgOk; rw [hx]
/-- What is known of a segment of a valid chart. -/
theorem segB_true {n : Nat} {s : SegmentD} (h : segB n s = true) : 0 ≤ s.a ∧ s.a < n ∧ 0 ≤ s.b ∧ s.b < n ∧ s.a ≠ s.b ∧ 0 ≤ s.depth ∧ s.depth ≤ 3000 ∧ 1 ≤ s.minutes ∧ s.minutes ≤ 240 := by
  unfold segB inB at h
  simp at h
  omega
theorem chartB_seg {d : ChartD} (h : chartB d = true) {k : Nat} {s : SegmentD} (hx : d.segs[k]? = some s) : segB d.points.length s = true := by
  have hk := (chartB_true h).2.2.2 k (List.getElem?_eq_some_iff.1 hx).1
  rw [sgOk_at hx, Bool.and_eq_true] at hk
  exact hk.1
end Go.Proofs.Ytpimcbhjkednpaa
