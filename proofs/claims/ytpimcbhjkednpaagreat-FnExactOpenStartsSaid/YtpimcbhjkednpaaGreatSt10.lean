
/- What ExactSureStarts and ExactOpenStarts and ExactIsSure and ExactIsOpenStart and ExactDraughtFor rests on, part 10: contracts and mathematics. -/
import Derived.Test.YtpimcbhjkednpaaGreatSt6
import Derived.Test.YtpimcbhjkednpaaGreatSt0
import Derived.Test.YtpimcbhjkednpaaGreatSt9
import Derived.Deep.RegionHeld3
namespace Go.Proofs.YtpimcbhjkednpaaGreat
open Go.ChangeShapes Go.WideShapes Go.ChangeAt Go.Deep Go.RowKit
set_option maxRecDepth 100000
section
variable {H : Type} {enc : TypeId × Value → H} {w : World} {base : Nat} {spare : Nat → Bool} {held : Bool}
def PartD.wf (d : PartD) : Prop := (Lit.int .i64 d.amp).wf = true ∧ (Lit.int .i64 d.per).wf = true ∧ (Lit.int .i64 d.pha).wf = true
theorem dec_part (n : Nat) (cs : List Value) (y : DataW H × List MemPlace) (h : DataW.trod enc Tryz.prog w base spare held n 137 cs = some y) : ∃ d : PartD, cs = d.cells ∧ d.wf := by
  obtain ⟨hl, hf⟩ := struct_cells Tryz.underlying137 (by kernel_rfl) (by kernel_rfl) h
  obtain ⟨v0, n0, y0, e0, h0⟩ := hf 0 _ rfl
  obtain ⟨v1, n1, y1, e1, h1⟩ := hf 1 _ rfl
  obtain ⟨v2, n2, y2, e2, h2⟩ := hf 2 _ rfl
  obtain ⟨a, ha, _, wa⟩ := DataW.trod_int Tryz.underlying3 h0
  obtain ⟨p, hp, _, wp⟩ := DataW.trod_int Tryz.underlying3 h1
  obtain ⟨q, hq, _, wq⟩ := DataW.trod_int Tryz.underlying3 h2
  simp only [List.cons.injEq, and_true] at ha hp hq
  subst ha hp hq
  refine ⟨⟨a, p, q⟩, ?_, wa, wp, wq⟩
  match cs, hl with
  | [c0, c1, c2], _ =>
    simp at e0 e1 e2
    subst e0 e1 e2
    rfl
theorem open_parts {fuel : Nat} {v : Value} {x : DataW H × List MemPlace} (h : DataW.trod enc Tryz.prog w base (fun _ => true) held fuel 22 [v] = some x) :
    ∃ A c l, v = .slice A l.length c ∧ l.length ≤ maxLen ∧ (l.length ≤ 1000000000 → SlP w (.slice A l.length c) l) ∧ ∀ d ∈ l, PartD.wf d :=
  open_elems PartD.cells 3 PartD.wf Tryz.underlying22 (by kernel_rfl) partLen (by omega) dec_part h
end
end Go.Proofs.YtpimcbhjkednpaaGreat
namespace Go.Proofs.YtpimcbhjkednpaaGreat
open Go.ChangeShapes Go.WideShapes Go.ChangeAt Go.Deep Go.RowKit
set_option maxRecDepth 100000
/-- Two slices in different blocks. -/
def Apart (v u : Value) : Prop := ∀ g, v.ownBlock = some g → u.ownBlock ≠ some g
theorem toTide_own (m : Int) (v : Value) (l : List PartD) (w : World) (h : SlP w v l) :
    Calls Tryz.prog 36 #[.agg #[.int .i64 m, v]] w fun e w' => ∃ v', e = .returned (.agg #[.int .i64 m, v']) ∧ OwnP w' w.heap.size v' l ∧ Below w.heap.size w w' := by
  have H := Lib.hid h
  have hl := h.1
  obtain ⟨A, c, rfl⟩ := h.at
  clear h
  go_enter Tryz.func36, Tryz.ntmps36
  go_wp2_with fail
  refine (toPartS_any _ l _ (H.out.below ?_)).mono ?_
  · repeat (first | exact Below.refl _ _ | refine Below.setCell ?_ (by simp <;> omega) _ | refine Below.alloc ?_ (by simp <;> omega) _)
  rintro e w1 ⟨v1, rfl, ho, hb⟩
  obtain ⟨A1, c1, rfl⟩ := own_form ho
  have S1 := Lib.hid ho
  obtain ⟨hc, hf⟩ := bcell hb
  have hz : w.heap.size + 2 < w1.heap.size := by have := hb.size; simp at this; omega
  clear ho
  go_wp2
  refine bodyPost_ret (v := .agg #[.int .i64 m, .slice A1 l.length c1]) (by simp [results, Tryz.results36, go_sem, hc]) rfl ⟨_, rfl, ?_, ?_⟩
  · refine own_lo (base := w.heap.size + 3) ?_ (by omega)
    repeat (first | exact Joins.ownsRow_le S1.out (by simp) | refine set_under ?_ (by simp <;> omega) _)
  · repeat (first | exact Below.refl _ _ | refine Below.setCell ?_ (by simp <;> omega) _ | refine Below.alloc ?_ (by simp <;> omega) _ | refine Below.trans ?_ (hb.mono (by simp <;> omega)))
/-- What toForecast leaves: a forecast over two new lists. -/
def NewFc (m : Int) (l : List PartD) (s : List SurgeD) (w : World) (e : Ending) (w' : World) : Prop :=
  ∃ v u, e = .returned (.agg #[.int .i64 m, v, u]) ∧ OwnP w' w.heap.size v l ∧ OwnSurge w' w.heap.size u s ∧ Apart v u ∧ Below w.heap.size w w'
set_option maxHeartbeats 1000000 in
theorem toForecast_any (m : Int) (v u : Value) (l : List PartD) (s : List SurgeD) (w : World) (h : SlP w v l) (h' : SlSurge w u s) :
    Calls Tryz.prog 12 #[.agg #[.int .i64 m, v, u]] w (NewFc m l s w) := by
  have H := Lib.hid h
  have H' := Lib.hid h'
  obtain ⟨A, c, rfl⟩ := h.at
  obtain ⟨A', c', rfl⟩ := h'.at
  clear h h'
  go_enter Tryz.func12, Tryz.ntmps12
  go_wp2_with fail
  refine (toTide_own m _ l _ (H.out.below ?_)).mono ?_
  · repeat (first | exact Below.refl _ _ | refine Below.setCell ?_ (by simp <;> omega) _ | refine Below.alloc ?_ (by simp <;> omega) _)
  rintro e w1 ⟨v1, rfl, ho, hb⟩
  obtain ⟨A1, c1, rfl⟩ := own_form ho
  have S1 := Lib.hid (own_lo ho (base' := w.heap.size + 3) (by simp))
  have L1 := Lib.hid (World.ownsRow.lt ho)
  obtain ⟨hc, hf⟩ := bcell hb
  have hz : w.heap.size + 2 < w1.heap.size := by have := hb.size; simp at this; omega
  have hz1 : w.heap.size + 1 < w1.heap.size := by omega
  have B1 : Hid (Below w.heap.size w w1) := by
    refine Lib.hid ?_
    repeat (first | exact Below.refl _ _ | refine Below.setCell ?_ (by simp <;> omega) _ | refine Below.alloc ?_ (by simp <;> omega) _ | refine Below.trans ?_ (hb.mono (by simp <;> omega)))
  clear ho
  go_wp2_with fail
  refine (toSurgeS_any _ s _ (H'.out.below ?_)).mono ?_
  · repeat (first | exact B1.out | refine Below.setCell ?_ (by simp <;> omega) _ | refine Below.alloc ?_ (by simp <;> omega) _)
  rintro e w2 ⟨v2, rfl, ho2, hb2⟩
  obtain ⟨A2, c2, rfl⟩ := own_form ho2
  have S2 := Lib.hid (own_lo ho2 (base' := w.heap.size + 3) (by simp; omega))
  have L2 := Lib.hid (World.ownsRow.lt ho2)
  obtain ⟨hc2, hf2⟩ := bcell hb2
  have hz2 : w1.heap.size ≤ w2.heap.size := by have := hb2.size; simp at this; omega
  clear ho2
  go_wp2
  refine bodyPost_ret (v := .agg #[.int .i64 m, .slice A1 l.length c1, .slice A2 s.length c2]) (by simp [results, Tryz.results12, go_sem, *]) rfl ⟨_, _, rfl, ?_, ?_, ?_, ?_⟩
  · refine own_lo (base := w.heap.size + 3) ?_ (by omega)
    repeat (first | exact S1.out | refine set_under ?_ (by simp <;> omega) _ | refine own_below ?_ hb2)
  · refine own_lo (base := w.heap.size + 3) ?_ (by omega)
    repeat (first | exact S2.out | refine own_set_under ?_ (by simp <;> omega) _)
  · intro g hg hg'
    have h1 := (L1.out g hg).2
    have h2 := (L2.out g hg').1
    simp at h2
    omega
  · repeat (first | exact B1.out | refine Below.setCell ?_ (by simp <;> omega) _ | refine Below.alloc ?_ (by simp <;> omega) _ | refine Below.trans ?_ (hb2.mono (by simp <;> omega)))
set_option maxHeartbeats 1000000 in
theorem eqForecast_same (m : Int) (va ua vb ub : Value) (l : List PartD) (s : List SurgeD) (w : World) (ha : SlP w va l) (ha' : SlSurge w ua s) (hb : SlP w vb l) (hb' : SlSurge w ub s) :
    Calls Tryz.prog 17 #[.agg #[.int .i64 m, va, ua], .agg #[.int .i64 m, vb, ub]] w fun e w' => e = .returned (.bool true) ∧ Below w.heap.size w w' := by
  have HA := Lib.hid ha
  have HB := Lib.hid hb
  have HA' := Lib.hid ha'
  have HB' := Lib.hid hb'
  obtain ⟨A, c, rfl⟩ := ha.at
  obtain ⟨A', c', rfl⟩ := hb.at
  obtain ⟨D, d, rfl⟩ := ha'.at
  obtain ⟨D', d', rfl⟩ := hb'.at
  clear ha hb ha' hb'
  have hb0 := Joins.below_alloc2 w (.cells #[.int .i64 m, .slice A l.length c, .slice D s.length d] 44) (.cells #[.int .i64 m, .slice A' l.length c', .slice D' s.length d'] 44)
  have B0 := Lib.hid hb0
  clear hb0
  go_enter Tryz.func17, Tryz.ntmps17
  go_wp2_with fail
  refine (eqTide_same m _ _ l _ (HA.out.below B0.out) (HB.out.below B0.out)).mono ?_
  rintro e w1 ⟨rfl, hb1⟩
  have B1 := Lib.hid (B0.out.trans (hb1.mono B0.out.size))
  obtain ⟨hc, hf⟩ := bcell hb1
  clear hb1
  go_wp2_with fail
  refine (eqSurgeS_same _ _ s _ (HA'.out.below B1.out) (HB'.out.below B1.out)).mono ?_
  rintro e w2 ⟨rfl, hb2⟩
  have B2 := Lib.hid (B1.out.trans (hb2.mono B1.out.size))
  clear hb2 hc hf
  go_wp2
  go_ret
  exact ⟨rfl, B2.out⟩
/-- The block b holds the forecast of mean m over the slices v and u, which read as l and s. -/
def FBox (w : World) (b : Nat) (m : Int) (v u : Value) (l : List PartD) (s : List SurgeD) : Prop :=
  w.cell? ⟨b, 0, none⟩ = some (.int .i64 m) ∧ w.cell? ⟨b, 1, none⟩ = some v ∧ w.cell? ⟨b, 2, none⟩ = some u ∧ SlP w v l ∧ SlSurge w u s
theorem FBox.below {w w' : World} {b : Nat} {m : Int} {v u : Value} {l : List PartD} {s : List SurgeD} (h : FBox w b m v u l s) (hb : Below w.heap.size w w') : FBox w' b m v u l s := by
  obtain ⟨h0, h1, h2, h3, h4⟩ := h
  exact ⟨(hb.cell (World.block_lt_of_cell? w _ h0)).trans h0, (hb.cell (World.block_lt_of_cell? w _ h1)).trans h1, (hb.cell (World.block_lt_of_cell? w _ h2)).trans h2, h3.below hb, h4.below hb⟩
theorem FBox.new {w : World} {m : Int} {v u : Value} {l : List PartD} {s : List SurgeD} (t : TypeId) (h : SlP w v l) (h' : SlSurge w u s) : FBox (w.alloc (.cells #[.int .i64 m, v, u] t)) w.heap.size m v u l s := by
  refine ⟨?_, ?_, ?_, h.below (Joins.below_alloc1 _ _), h'.below (Joins.below_alloc1 _ _)⟩
  · rw [World.cell?_alloc_at _ _ _ _ rfl]; rfl
  · rw [World.cell?_alloc_at _ _ _ _ rfl]; rfl
  · rw [World.cell?_alloc_at _ _ _ _ rfl]; rfl
theorem NewFc.sl {m : Int} {l : List PartD} {s : List SurgeD} {w w' : World} {e : Ending} (h : NewFc m l s w e w') (hl : l.length ≤ 1000000000) (hs : s.length ≤ 1000000000) :
    ∃ A c A' c', e = .returned (.agg #[.int .i64 m, .slice A l.length c, .slice A' s.length c']) ∧ SlP w' (.slice A l.length c) l ∧ SlSurge w' (.slice A' s.length c') s ∧ Below w.heap.size w w' := by
  obtain ⟨v, u, rfl, h1, h2, _, hb⟩ := h
  obtain ⟨A, c, rfl⟩ := own_form h1
  obtain ⟨A', c', rfl⟩ := own_form h2
  exact ⟨A, c, A', c', rfl, h1.sl hl, h2.sl hs, hb⟩
section
variable {H : Type} {enc : TypeId × Value → H} {w : World} {base : Nat} {spare : Nat → Bool} {held : Bool}
def FcIn (w : World) (m : Int) (A : Option Addr) (c : Nat) (l : List PartD) (A' : Option Addr) (c' : Nat) (s : List SurgeD) : Prop :=
  (Lit.int .i64 m).wf = true ∧ l.length ≤ maxLen ∧ s.length ≤ maxLen ∧ (l.length ≤ 1000000000 → SlP w (.slice A l.length c) l) ∧ (s.length ≤ 1000000000 → SlSurge w (.slice A' s.length c') s) ∧ (∀ d ∈ l, PartD.wf d) ∧ ∀ d ∈ s, SurgeD.wf d
end
end Go.Proofs.YtpimcbhjkednpaaGreat
