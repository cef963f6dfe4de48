
/- spec.l10Chamber and spec.MakeChamber: what is drawn. -/
import Derived.Test.YtphagahhhfiiaaaDraw
import Derived.Test.YtphagahhhfiiaaaCodeArg
import Derived.Test.YtphagahhhfiiaaaBlk
import Derived.Test.YtphagahhhfiiaaaOwnVar
import Derived.Test.YtphagahhhfiiaaaTouch
import Derived.Test.YtphagahhhfiiaaaPackMath
import Derived.Test.YtphagahhhfiiaaaLivLib
import Derived.Deep.AppendLies
import Derived.Deep.RegionLaw
import Derived.Deep.DeepCutAuto
namespace Go.Proofs.Ytphagahhhfiiaaa
open Go.RowKit
set_option maxRecDepth 100000

def chamGood (d : ChamberD) : Prop := 150 ≤ d.length ∧ d.length < 400 ∧ 1 ≤ d.lanes ∧ d.lanes ≤ 2 ∧ 10 ≤ d.minutes ∧ d.minutes < 40
set_option maxHeartbeats 4000000 in
theorem l10Chamber_any (p : Nat) (w : World) (hcur : Cursor w p) : Calls Try.prog 35 #[.pointer (some ⟨p, 0, none⟩)] w fun e w' => ∃ d : ChamberD, e = .returned d.val ∧ chamGood d ∧ Cursor w' p ∧ w.grownBy w' (some p) := by
  have hb0 := Joins.below_alloc1 w (.cells #[.int .i64 0, .int .i64 0, .int .i64 0] 24)
  have C := Lib.hid (l01Below_any p 250 _ (by omega) (by omega) (hcur.below hb0))
  have hp := hcur.lt
  have G0 := Lib.hid (grown_alloc w (.cells #[.int .i64 0, .int .i64 0, .int .i64 0] 24) (some p))
  have K0 := Lib.hid (Blk.new w #[.int .i64 0, .int .i64 0, .int .i64 0] 24)
  have HNP := Lib.hid (show some w.heap.size ≠ some p by simp; omega)
  clear hcur hb0
  go_enter Try.func35, Try.ntmps35
  go_wp2_with fail
  refine C.out.mono ?_
  rintro e w1 ⟨x, rfl, x0, x1, hc1, hg1⟩
  have HC1 := Lib.hid hc1
  have G1 := Lib.hid (grown_trans G0.out hg1)
  have K1 := Lib.hid (K0.out.grown hg1 HNP.out)
  clear hc1 hg1 C
  go_wp2_with fail
  refine (l01Below_any p 2 _ (by omega) (by omega) HC1.out).mono ?_
  rintro e w2 ⟨y, rfl, y0, y1, hc2, hg2⟩
  have HC2 := Lib.hid hc2
  have G2 := Lib.hid (grown_trans G1.out hg2)
  have K2 := Lib.hid (K1.out.grown hg2 HNP.out)
  clear hc2 hg2
  go_wp2_with fail
  refine (l01Below_any p 30 _ (by omega) (by omega) HC2.out).mono ?_
  rintro e w3 ⟨z, rfl, z0, z1, hc3, hg3⟩
  have HC3 := Lib.hid hc3
  have G3 := Lib.hid (grown_trans G2.out hg3)
  have K3 := K2.out.grown hg3 HNP.out
  have k0 := K3.cell 0
  have k1 := K3.cell 1
  have k2 := K3.cell 2
  simp at k0 k1 k2
  have f0 : w3.frozen? ⟨w.heap.size, 0, none⟩ = false := K3.free 0
  have f1 : w3.frozen? ⟨w.heap.size, 1, none⟩ = false := K3.free 1
  have f2 : w3.frozen? ⟨w.heap.size, 2, none⟩ = false := K3.free 2
  have wx : IntKind.i64.wrap (150 + x) = 150 + x := by rw [IntKind.wrap_i64]; omega
  have wy : IntKind.i64.wrap (1 + y) = 1 + y := by rw [IntKind.wrap_i64]; omega
  have wz : IntKind.i64.wrap (10 + z) = 10 + z := by rw [IntKind.wrap_i64]; omega
  clear hc3 hg3 K3
  go_wp2
  refine bodyPost_ret (v := .agg #[.int .i64 (150 + x), .int .i64 (1 + y), .int .i64 (10 + z)]) (by simp [results, Try.results35, go_sem, *]) rfl ⟨⟨150 + x, 1 + y, 10 + z⟩, rfl, by unfold chamGood; simp only; omega, ?_, ?_⟩
  · exact ((HC3.out.set hp _ _).set hp _ _).set hp _ _
  · exact grown_setNew (grown_setNew (grown_setNew G3.out (Nat.le_refl _) _) (Nat.le_refl _) _) (Nat.le_refl _) _
def ChLoop (w : World) (p b5 : Nat) (d : ChamberD) (v : Value) (l : List Int) (wr : World) : Prop := Cursor wr p ∧ Below w.heap.size w wr ∧ Blk wr w.heap.size #[.int .i64 0, .int .i64 0, .int .i64 0] 24 ∧ Blk wr b5 #[.int .i64 d.length, .int .i64 d.lanes, .int .i64 d.minutes] 24 ∧ OwnInt wr (b5 + 1) v l ∧ w.heap.size < p ∧ p < b5 ∧ ∀ x ∈ l, 20 ≤ x ∧ x < 150
section
variable {w wr w3 : World} {p b5 : Nat} {d : ChamberD} {v : Value} {l : List Int}
theorem ChLoop.step (h : ChLoop w p b5 d v l wr) (hg : wr.grownBy w3 (some p)) (hc : Cursor w3 p) : ChLoop w p b5 d v l w3 := by
  obtain ⟨h1, h2, h3, h4, h5, h6, h7, h8⟩ := h
  exact ⟨hc, h2.grown hg h2.size (fun j e => by have := Option.some.inj e; omega), h3.grown hg (by simp; omega), h4.grown hg (by simp; omega), own_kept h5 hg (fun b hv e => by have := (own_ge h5 hv).1; have := Option.some.inj e; omega), h6, h7, h8⟩
theorem ChLoop.below (h : ChLoop w p b5 d v l wr) (hb : Below wr.heap.size wr w3) : ChLoop w p b5 d v l w3 := by
  obtain ⟨h1, h2, h3, h4, h5, h6, h7, h8⟩ := h
  exact ⟨h1.below hb, h2.trans (hb.mono h2.size), h3.below hb, h4.below hb, own_below h5 hb, h6, h7, h8⟩
theorem ChLoop.app {x : Int} {w4 : World} {g4 cap4 : Nat} (h : ChLoop w p b5 d v l wr) (hx : 20 ≤ x ∧ x < 150) (hown : OwnInt w4 (b5 + 1) (.slice (some ⟨g4, 0, none⟩) (l.length + 1) cap4) (l ++ [x])) (hgr : wr.grownBy w4 v.ownBlock) : ChLoop w p b5 d (.slice (some ⟨g4, 0, none⟩) (l.length + 1) cap4) (l ++ [x]) w4 := by
  obtain ⟨h1, h2, h3, h4, h5, h6, h7, h8⟩ := h
  have r0 : ∀ b, v.ownBlock = some b → b5 + 1 ≤ b := fun b hv => (own_ge h5 hv).1
  refine ⟨h1.grown hgr (fun b hv => by have := r0 b hv; omega), h2.grown hgr h2.size (fun j e => by have := r0 j e; omega), h3.grown hgr (fun e => by have := r0 _ e.symm; omega), h4.grown hgr (fun e => by have := r0 _ e.symm; omega), hown, h6, h7, fun y hy => ?_⟩
  rcases List.mem_append.1 hy with hy | hy
  · exact h8 y hy
  · simp at hy; omega
end
/-- What MakeChamber leaves. -/
def MadeChamber (w : World) (e : Ending) (w' : World) : Prop := ∃ (d : ChamberD) (v : Value) (l : List Int), e = .returned (.tuple #[d.val, v]) ∧ chamGood d ∧ l.length ≤ 5 ∧ (∀ x ∈ l, 20 ≤ x ∧ x < 150) ∧ OwnInt w' w.heap.size v l ∧ Below w.heap.size w w'
set_option maxHeartbeats 8000000 in
theorem makeChamber_any (A : Option Addr) (n c : Nat) (w : World) (hcode : CodeAt w A n) : Calls Try.prog 12 #[.slice A n c] w (MadeChamber w) := by
  obtain ⟨i0, hi, hz0, hz1, hz2⟩ := info1_int
  have HI := Lib.hid (And.intro hi (And.intro hz0 (And.intro hz1 hz2)))
  have hb0 := Joins.below_alloc1 w (.cells #[.int .i64 0, .int .i64 0, .int .i64 0] 24)
  have K0 := Blk.new w #[.int .i64 0, .int .i64 0, .int .i64 0] 24
  obtain ⟨W0, hW0⟩ : ∃ W, W = w.alloc (.cells #[.int .i64 0, .int .i64 0, .int .i64 0] 24) := ⟨_, rfl⟩
  rw [← hW0] at hb0 K0
  have HW0 := Lib.hid hW0
  have HK0 := Lib.hid K0
  have B0 := Lib.hid hb0
  have hs0 := K0.lt
  have CN := Lib.hid (l01New_any A n c W0 (hcode.below hb0))
  clear hi hz0 hz1 hz2 hcode hb0 K0 hW0
  go_enter Try.func12, Try.ntmps12
  go_upto_region 1 with fail
  rw [← HW0.out]
  go_wp2_with fail
  refine CN.out.mono ?_
  rintro e w1 ⟨p, rfl, hp, hcur, hb1⟩
  have B1 := Lib.hid (B0.out.trans (hb1.mono B0.out.size))
  have HK1 := Lib.hid (HK0.out.below hb1)
  have CH := Lib.hid (l10Chamber_any p w1 hcur)
  clear hb1 hcur CN
  go_wp2_with fail
  refine CH.out.mono ?_
  rintro e w2 ⟨d, rfl, hd, hcur, hg2⟩
  have B2 := Lib.hid (B1.out.grown hg2 B1.out.size (fun j e => by have := Option.some.inj e; omega))
  have HK2 := Lib.hid (HK1.out.grown hg2 (by simp; omega))
  have HC2 := Lib.hid hcur
  have HD := Lib.hid hd
  have hpl := hcur.lt
  clear hg2 hcur hd CH
  go_upto_region 3 with fail
  have hal := Joins.below_alloc1 w2 (.cells #[.int .i64 d.length, .int .i64 d.lanes, .int .i64 d.minutes] 24)
  have KD := Blk.new w2 #[.int .i64 d.length, .int .i64 d.lanes, .int .i64 d.minutes] 24
  obtain ⟨W3, hW3⟩ : ∃ W, W = w2.alloc (.cells #[.int .i64 d.length, .int .i64 d.lanes, .int .i64 d.minutes] 24) := ⟨_, rfl⟩
  have hz3 : W3.heap.size = w2.heap.size + 1 := by rw [hW3]; simp
  rw [← hW3] at hal KD
  have HW3 := Lib.hid hW3
  have ha4 := Joins.below_alloc1 W3 (.cells #[] 3)
  have OL := (Liv.build (Liv.nil W3) 0 [] (by simp)).own _ List.mem_cons_self
  have ST0 := Lib.hid (show ChLoop w p w2.heap.size d (.slice (some ⟨W3.heap.size, 0, none⟩) 0 0) [] (W3.alloc (.cells #[] 3)) from
    ⟨(HC2.out.below hal).below ha4, (B2.out.trans (hal.mono B2.out.size)).trans (ha4.mono (by have := B2.out.size; omega)), (HK2.out.below hal).below ha4, KD.below ha4, own_lo (base' := w2.heap.size + 1) OL (by omega), by omega, hpl, fun x hx => by cases hx⟩)
  rw [← HW3.out]
  have HC4 := Lib.hid ((HC2.out.below hal).below ha4)
  clear hal KD hW3 ha4 OL
  go_wp2_with fail
  refine (l01Below_any p 6 _ (by omega) (by omega) HC4.out).mono ?_
  rintro e w5 ⟨q, rfl, q0, q1, hc5, hg5⟩
  have ST1 := Lib.hid (ST0.out.step hg5 hc5)
  rw [hz3] at ST1
  clear hc5 hg5 HC4 ST0
  go_wp2
  go_loopw [6, 7] (fun s t wr => ∃ (r : Nat) (v : Value) (l : List Int), l.length + r ≤ 5 ∧ t = .int .i64 (r : Int) ∧ s = v ∧ Hid (ChLoop w p w2.heap.size d v l wr)) (fun _ t _ => (intOf t).toNat)
  case atStart => exact ⟨q.toNat, _, [], by simp; omega, by congr 1; omega, rfl, ST1⟩
  case round =>
    obtain ⟨r, v, l, hlr, rfl, rfl, hD⟩ := hrel
    obtain ⟨Av, cv, rfl⟩ := own_form hD.out.2.2.2.2.1
    by_cases hr : 0 < r
    · have hri : (0 : Int) < (r : Int) := by omega
      go_wp2_with fail
      refine (l01Below_any p 130 _ (by omega) (by omega) hD.out.1).mono ?_
      rintro e w6 ⟨y, rfl, y0, y1, hc6, hg6⟩
      have SD := Lib.hid (hD.out.step hg6 hc6)
      have wy : IntKind.i64.wrap (20 + y) = 20 + y := by rw [IntKind.wrap_i64]; omega
      have AL := Lib.hid (SD.out.below (Joins.below_alloc1 w6 (.cells #[.int .i64 (20 + y)] 3)))
      have HN := Lib.hid (World.news_of_block (heap_alloc_new w6 (.cells #[.int .i64 (20 + y)] 3)))
      have hsz : w2.heap.size + 1 ≤ w6.heap.size + 1 := by have := SD.out.2.2.2.1.lt; omega
      have hi := HI.out
      have hy : 20 ≤ 20 + y ∧ 20 + y < 150 := by omega
      clear hc6 hg6 hD
      go_wp2_with (at_builtin; refine wpList_append_lies _ rfl _ _ _ rfl (w2.heap.size + 1) 3 i0 _ 1 8 Try.underlying25 hi.1 hi.2.1 hi.2.2.1 hi.2.2.2 rfl (by omega) (.slice Av l.length cv) l.length (l.flatMap intCells) rfl AL.out.2.2.2.2.1 ⟨w6.heap.size, 0, none⟩ 1 1 [.int .i64 (20 + y)] (by first | rfl | simp) rfl HN.out (by simp [Value.oneCell']) (by omega) (by unfold maxLen; omega) (by omega) (by first | omega | (simp; omega)) _ rfl ?_; intro g4 cap4 w4 hown4 hgrow4 hor4 hlt4; have GX := Lib.hid (AL.out.app (x := 20 + y) hy (by unfold OwnInt OwnOf; rw [List.length_append, List.flatMap_append]; exact hown4) hgrow4); clear hown4 hgrow4 hor4 hlt4)
      go_roundw
      case rel => exact ⟨r - 1, _, l ++ [20 + y], by simp; omega, by go_num, rfl, GX⟩
      case measure => simp [intOf]; omega
    · obtain rfl : r = 0 := by omega
      obtain ⟨h1, h2, h3, h4, h5, h6, h7, h8⟩ := hD.out
      have hb5 : w.heap.size ≤ w2.heap.size + 1 := by omega
      have k0 := h3.cell 0
      have k1 := h3.cell 1
      have k2 := h3.cell 2
      have d0 := h4.cell 0
      have d1 := h4.cell 1
      have d2 := h4.cell 2
      simp at k0 k1 k2 d0 d1 d2
      have f0 : wr.frozen? ⟨w.heap.size, 0, none⟩ = false := h3.free 0
      have f1 : wr.frozen? ⟨w.heap.size, 1, none⟩ = false := h3.free 1
      have f2 : wr.frozen? ⟨w.heap.size, 2, none⟩ = false := h3.free 2
      have H2 := Lib.hid h2
      have H5 := Lib.hid h5
      have H8 := Lib.hid h8
      clear h1 h2 h3 h4 h5 h8 hD
      go_wp2
      refine bodyPost_ret (v := .tuple #[d.val, .slice Av l.length cv]) (by simp [results, Try.results12, go_sem, *]) rfl ⟨d, _, l, rfl, HD.out, by omega, H8.out, ?_, ?_⟩
      · have h5 := own_lo (base' := w.heap.size) H5.out hb5
        have far : ∀ b, (Value.slice Av l.length cv).ownBlock = some b → b ≠ w.heap.size := fun b hv e => by have := (own_ge H5.out hv).1; omega
        exact own_kept (own_kept (own_kept h5 (grown_set1 _ _ _ _) (fun b hv e => far b hv (Option.some.inj e).symm)) (grown_set1 _ _ _ _) (fun b hv e => far b hv (Option.some.inj e).symm)) (grown_set1 _ _ _ _) (fun b hv e => far b hv (Option.some.inj e).symm)
      · exact ((H2.out.setCell (Nat.le_refl _) _).setCell (Nat.le_refl _) _).setCell (Nat.le_refl _) _
end Go.Proofs.Ytphagahhhfiiaaa
