
/- Drawn traffic (MakeTraffic): contract. -/
import Derived.Test.YtpglaffmmddcdaaDrawPass
import Derived.Test.YtpglaffmmddcdaaDrawChart
import Derived.Test.YtpglaffmmddcdaaChartDrawn
import Derived.Test.YtpglaffmmddcdaaDrawHarb0
import Derived.Test.YtpglaffmmddcdaaRegimes
import Derived.Test.YtpglaffmmddcdaaCodeArg
import Derived.Test.YtpglaffmmddcdaaGath
import Derived.Deep.DeepCutAuto
namespace Go.Proofs.Ytpglaffmmddcdaa
open Go.RowKit
set_option maxRecDepth 100000

/-- What lies where, once and for all: the cursor, the chart's and the regime's variable are older than the list. -/
def TrFix (w : World) (p b1 b6 b8 b9 : Nat) (A0 : Option Addr) (c0 : Nat) (A1 : Option Addr) (c1 : Nat) (A2 : Option Addr) (c2 : Nat) (ch : ChartRnd) (fl : List ShipD) : Prop :=
  w.heap.size + 2 ≤ p ∧ p < b1 ∧ b1 ≤ b6 ∧ b6 < b8 ∧ b8 < b9 ∧ (∀ b, b9 ≤ b → (Value.slice A0 ch.chart.points.length c0).ownBlock ≠ some b) ∧ (∀ b, b9 ≤ b → (Value.slice A1 ch.chart.segs.length c1).ownBlock ≠ some b) ∧ (∀ b, b9 ≤ b → (Value.slice A2 fl.length c2).ownBlock ≠ some b) ∧
  (Value.slice A0 ch.chart.points.length c0).ownBlock ≠ some b6 ∧ (Value.slice A1 ch.chart.segs.length c1).ownBlock ≠ some b6
/-- What holds while the passages are drawn. -/
def TrLoop (w : World) (p b1 b6 b8 b9 : Nat) (cc cr : Array Value) (A0 : Option Addr) (c0 : Nat) (A1 : Option Addr) (c1 : Nat) (A2 : Option Addr) (c2 : Nat) (ch : ChartRnd) (fl : List ShipD) (v : Value) (l : List PassageD) (W : World) : Prop :=
  Cursor W p ∧ Below w.heap.size w W ∧ Blk W w.heap.size #[.slice none 0 0, .slice none 0 0] 26 ∧ Blk W (w.heap.size + 1) #[.int .i64 0, .bool false] 28 ∧ Blk W b6 cc 26 ∧ Blk W b8 cr 28 ∧
  OwnPoint W b1 (.slice A0 ch.chart.points.length c0) ch.chart.points ∧ OwnSegment W b1 (.slice A1 ch.chart.segs.length c1) ch.chart.segs ∧ OwnShip W b1 (.slice A2 fl.length c2) fl ∧ OwnPassage W b9 v l ∧ ∀ x ∈ l, PassageD.wf x
section
variable {w W w3 : World} {p b1 b6 b8 b9 : Nat} {cc cr : Array Value} {A0 A1 A2 : Option Addr} {c0 c1 c2 : Nat} {ch : ChartRnd} {fl : List ShipD} {v : Value} {l : List PassageD}
theorem TrLoop.step (h : TrLoop w p b1 b6 b8 b9 cc cr A0 c0 A1 c1 A2 c2 ch fl v l W) (hf : TrFix w p b1 b6 b8 b9 A0 c0 A1 c1 A2 c2 ch fl) (hg : W.grownBy w3 (some p)) (hc : Cursor w3 p) : TrLoop w p b1 b6 b8 b9 cc cr A0 c0 A1 c1 A2 c2 ch fl v l w3 := by
  obtain ⟨h1, h2, h3, h4, h5, h6, h7, h8, h9, h10, h11⟩ := h
  obtain ⟨f1, f2, f3, f4, f5, -⟩ := hf
  have hb := h2.size
  exact ⟨hc, h2.grown hg hb (fun k e => by have := Option.some.inj e; omega), h3.grown hg (by simp; omega), h4.grown hg (by simp; omega), h5.grown hg (by simp; omega), h6.grown hg (by simp; omega),
    own_kept h7 hg (fun b hv e => by have := (own_ge h7 hv).1; have := Option.some.inj e; omega), own_kept h8 hg (fun b hv e => by have := (own_ge h8 hv).1; have := Option.some.inj e; omega), own_kept h9 hg (fun b hv e => by have := (own_ge h9 hv).1; have := Option.some.inj e; omega), own_kept h10 hg (fun b hv e => by have := (own_ge h10 hv).1; have := Option.some.inj e; omega), h11⟩
theorem TrLoop.below (h : TrLoop w p b1 b6 b8 b9 cc cr A0 c0 A1 c1 A2 c2 ch fl v l W) (hb : Below W.heap.size W w3) : TrLoop w p b1 b6 b8 b9 cc cr A0 c0 A1 c1 A2 c2 ch fl v l w3 := by
  obtain ⟨h1, h2, h3, h4, h5, h6, h7, h8, h9, h10, h11⟩ := h
  exact ⟨h1.below hb, h2.trans (hb.mono h2.size), h3.below hb, h4.below hb, h5.below hb, h6.below hb, own_below h7 hb, own_below h8 hb, own_below h9 hb, own_below h10 hb, h11⟩
theorem TrLoop.app {w4 : World} {d : PassageD} {g4 cap4 : Nat} (h : TrLoop w p b1 b6 b8 b9 cc cr A0 c0 A1 c1 A2 c2 ch fl v l W) (hf : TrFix w p b1 b6 b8 b9 A0 c0 A1 c1 A2 c2 ch fl) (hd : d.wf)
    (hown : w4.ownsRow b9 41 5 (.slice (some ⟨g4, 0, none⟩) (l.length + 1) cap4) (l.length + 1) (l.flatMap PassageD.cells ++ d.cells)) (hgr : W.grownBy w4 v.ownBlock) : TrLoop w p b1 b6 b8 b9 cc cr A0 c0 A1 c1 A2 c2 ch fl (.slice (some ⟨g4, 0, none⟩) (l.length + 1) cap4) (l ++ [d]) w4 := by
  obtain ⟨h1, h2, h3, h4, h5, h6, h7, h8, h9, h10, h11⟩ := h
  obtain ⟨f1, f2, f3, f4, f5, f6, f7, f8, -⟩ := hf
  have hb := h2.size
  have r0 : ∀ b, v.ownBlock = some b → b9 ≤ b := fun b hv => (own_ge h10 hv).1
  refine ⟨h1.grown hgr (fun b hv => by have := r0 b hv; omega), h2.grown hgr hb (fun b hv => by have := r0 b hv; omega), h3.grown hgr (fun e => by have := r0 _ e.symm; omega), h4.grown hgr (fun e => by have := r0 _ e.symm; omega), h5.grown hgr (fun e => by have := r0 _ e.symm; omega), h6.grown hgr (fun e => by have := r0 _ e.symm; omega),
    own_kept h7 hgr (fun b hv e => f6 b (r0 b e) hv), own_kept h8 hgr (fun b hv e => f7 b (r0 b e) hv), own_kept h9 hgr (fun b hv e => f8 b (r0 b e) hv), ?_, fun x hx => ?_⟩
  · show World.ownsRow _ _ _ _ _ _ _
    have e : (l ++ [d]).flatMap PassageD.cells = l.flatMap PassageD.cells ++ d.cells := by simp
    rw [e]
    simpa using hown
  · rcases List.mem_append.1 hx with hx | hx
    · exact h11 x hx
    · simp at hx; subst hx; exact hd
theorem TrLoop.set (h : TrLoop w p b1 b6 b8 b9 cc cr A0 c0 A1 c1 A2 c2 ch fl v l W) (hf : TrFix w p b1 b6 b8 b9 A0 c0 A1 c1 A2 c2 ch fl) {b : Nat} (hb : b9 ≤ b) (hv : v.ownBlock ≠ some b) (j : Nat) (u : Value) : TrLoop w p b1 b6 b8 b9 cc cr A0 c0 A1 c1 A2 c2 ch fl v l (W.setCell ⟨b, j, none⟩ u) := by
  obtain ⟨h1, h2, h3, h4, h5, h6, h7, h8, h9, h10, h11⟩ := h
  obtain ⟨f1, f2, f3, f4, f5, f6, f7, f8, -⟩ := hf
  have hz := h2.size
  have hg := grown_set1 W b j u
  exact ⟨h1.set (by omega) j u, h2.grown hg hz (fun k e => by have := Option.some.inj e; omega), h3.other (by omega) j u, h4.other (by omega) j u, h5.other (by omega) j u, h6.other (by omega) j u,
    own_setO h7 (f6 b hb) j u, own_setO h8 (f7 b hb) j u, own_setO h9 (f8 b hb) j u, own_setO h10 hv j u, h11⟩
end
/-- What MakeTraffic leaves. -/
def MadeTraffic (w : World) (e : Ending) (w' : World) : Prop := ∃ (ch : ChartRnd) (A0 : Option Addr) (c0 : Nat) (A1 : Option Addr) (c1 : Nat) (r : RegimeD) (C : Option Addr) (c : Nat) (l : List PassageD), ch.ok ∧ 0 ≤ r.gap ∧ r.gap < 30 ∧ (∀ x ∈ l, PassageD.wf x) ∧ l.length ≤ 5 ∧
  e = .returned (.tuple #[.agg #[.slice A0 ch.chart.points.length c0, .slice A1 ch.chart.segs.length c1], r.val, .slice C l.length c]) ∧ OwnPoint w' (w.heap.size + 2) (.slice A0 ch.chart.points.length c0) ch.chart.points ∧ OwnSegment w' (w.heap.size + 2) (.slice A1 ch.chart.segs.length c1) ch.chart.segs ∧ OwnPassage w' (w.heap.size + 2) (.slice C l.length c) l ∧ Below w.heap.size w w'

set_option maxHeartbeats 8000000 in
theorem makeTraffic_any (A : Option Addr) (n c : Nat) (w : World) (hcode : CodeAt w A n) : Calls Try.prog 12 #[.slice A n c] w (MadeTraffic w) := by
  have hb0 := Joins.below_alloc2 w (.cells #[.slice none 0 0, .slice none 0 0] 26) (.cells #[.int .i64 0, .bool false] 28)
  have K0 := (Blk.new w #[.slice none 0 0, .slice none 0 0] 26).below (Joins.below_alloc1 _ (.cells #[.int .i64 0, .bool false] 28))
  have J0 := Blk.new (w.alloc (.cells #[.slice none 0 0, .slice none 0 0] 26)) #[.int .i64 0, .bool false] 28
  rw [World.size_alloc] at J0
  obtain ⟨W0, hW0⟩ : ∃ W, W = (w.alloc (.cells #[.slice none 0 0, .slice none 0 0] 26)).alloc (.cells #[.int .i64 0, .bool false] 28) := ⟨_, rfl⟩
  have hz0 : W0.heap.size = w.heap.size + 2 := by rw [hW0]; simp
  rw [← hW0] at hb0 K0 J0
  have CN := Lib.hid (l01New_any A n c _ (hcode.below hb0))
  have B0 := Lib.hid hb0
  have HW0 := Lib.hid hW0
  have HZ0 := Lib.hid hz0
  have HK0 := Lib.hid K0
  have HJ0 := Lib.hid J0
  obtain ⟨i0, hi, hz0', hz1, hz2⟩ := info_parts info_passage
  have HI := Lib.hid (And.intro hi (And.intro hz0' (And.intro hz1 hz2)))
  clear hcode hb0 hW0 hz0 K0 J0 hi hz0' hz1 hz2
  go_enter Try.func12, Try.ntmps12
  go_wp2_with fail
  rw [← HW0.out]
  refine CN.out.mono ?_
  rintro e w1 ⟨p, rfl, hp, hcur, hb1⟩
  have hp' : w.heap.size + 2 ≤ p := by have := HZ0.out; omega
  have K1 := Lib.hid (HK0.out.below hb1)
  have J1 := Lib.hid (HJ0.out.below hb1)
  have B1 := Lib.hid (B0.out.trans (hb1.mono B0.out.size))
  have HC1 := Lib.hid hcur
  have hpl := hcur.lt
  have hs1 := B1.out.size
  clear hcur hb1 hp CN HK0 HJ0 HW0 HZ0 B0
  go_wp2_with fail
  refine (l05Draw_any p w1 HC1.out).mono ?_
  rintro e w2 ⟨ch, A0, c0, A1, c1, hok, rfl, ho0, ho1, -, hc, hg⟩
  have HOK := Lib.hid hok
  obtain ⟨b1, hb1⟩ : ∃ b, w1.heap.size = b := ⟨_, rfl⟩
  obtain ⟨b6, hb6⟩ : ∃ b, w2.heap.size = b := ⟨_, rfl⟩
  have hz2 := hg.size
  have K2 := K1.out.grown hg (by simp; omega)
  have J2 := J1.out.grown hg (by simp; omega)
  have B2 := B1.out.grown hg hs1 (fun k e => by have := Option.some.inj e; omega)
  have hal := Joins.below_alloc1 w2 (.cells #[.slice A0 ch.chart.points.length c0, .slice A1 ch.chart.segs.length c1] 26)
  have X3 := Blk.new w2 #[.slice A0 ch.chart.points.length c0, .slice A1 ch.chart.segs.length c1] 26
  obtain ⟨w3, hw3⟩ : ∃ W, W = w2.alloc (.cells #[.slice A0 ch.chart.points.length c0, .slice A1 ch.chart.segs.length c1] 26) := ⟨_, rfl⟩
  have hz3 : w3.heap.size = b6 + 1 := by rw [hw3, ← hb6]; simp
  have HW3 := Lib.hid hw3
  rw [← hw3] at hal X3
  have far0 : ∀ b, b6 ≤ b → (Value.slice A0 ch.chart.points.length c0).ownBlock ≠ some b := fun b hb e => by have := (own_ge ho0 e).2; omega
  have far1 : ∀ b, b6 ≤ b → (Value.slice A1 ch.chart.segs.length c1).ownBlock ≠ some b := fun b hb e => by have := (own_ge ho1 e).2; omega
  rw [hb1] at ho0 ho1 hpl hz2
  rw [hb6] at X3 hz2
  have HC3 := Lib.hid (hc.below hal)
  have K3 := Lib.hid (K2.below hal)
  have J3 := Lib.hid (J2.below hal)
  have B3 := Lib.hid (B2.trans (hal.mono B2.size))
  have X3 := Lib.hid X3
  have O3 := Lib.hid (own_below ho0 hal)
  have Q3 := Lib.hid (own_below ho1 hal)
  have HB6 := Lib.hid hb6
  have HZ3 := Lib.hid hz3
  have hs1' : w.heap.size ≤ b1 := by omega
  clear hok ho0 ho1 hc hg K2 J2 B2 hal hw3 K1 J1 B1 HC1 hb1 hb6 hz3 hs1
  go_wp2_with fail
  rw [← HW3.out, HB6.out]
  refine (l06Fleet_any p w3 HC3.out).mono ?_
  rintro e w4 ⟨A2, c2, fl, rfl, hl1, hl3, hF⟩
  have hg := hF.2.1
  have hz4 := hg.size
  have hz3 := HZ3.out
  have ho2 := own_lo (base' := b1) hF.2.2.1 (by omega)
  have hne : ∀ {k : Nat} {v : Value}, (∀ b, v.ownBlock = some b → b1 ≤ b) → ∀ b, v.ownBlock = some b → some p ≠ some b := fun h b hv e => by have := h b hv; have := Option.some.inj e; omega
  have HC4 := Lib.hid hF.1
  have K4 := Lib.hid (K3.out.grown hg (by simp; omega))
  have J4 := Lib.hid (J3.out.grown hg (by simp; omega))
  have B4 := Lib.hid (B3.out.grown hg B3.out.size (fun k e => by have := Option.some.inj e; omega))
  have X4 := Lib.hid (X3.out.grown hg (by simp; omega))
  have O4 := Lib.hid (own_kept O3.out hg (fun b hv e => by have := (own_ge O3.out hv).1; have := Option.some.inj e; omega))
  have Q4 := Lib.hid (own_kept Q3.out hg (fun b hv e => by have := (own_ge Q3.out hv).1; have := Option.some.inj e; omega))
  have S4 := Lib.hid ho2
  have far2 : ∀ b, w4.heap.size ≤ b → (Value.slice A2 fl.length c2).ownBlock ≠ some b := fun b hb e => by have := (own_ge ho2 e).2; omega
  have hz34 : b6 < w4.heap.size := by omega
  clear hF hg ho2 hne hz3 HZ3 HW3 HC3 K3 J3 B3 X3 O3 Q3 HB6
  go_wp2_with fail
  refine (l09Regime_any p w4 HC4.out).mono ?_
  rintro e w5 ⟨g, nm, rfl, g0, g1, hc, hg⟩
  have hz5 := hg.size
  obtain ⟨b8, hb8⟩ : ∃ b, w5.heap.size = b := ⟨_, rfl⟩
  have hal := Joins.below_alloc2 w5 (.cells #[.int .i64 g, .bool nm] 28) (.cells #[] 41)
  have Y6 := (Blk.new w5 #[.int .i64 g, .bool nm] 28).below (Joins.below_alloc1 _ (.cells #[] 41))
  have z6 := (GathO.made (cs := PassageD.cells) (t := 41) (k := 5) (Below.refl (w5.alloc (.cells #[.int .i64 g, .bool nm] 28)).heap.size (w5.alloc (.cells #[.int .i64 g, .bool nm] 28)))).1
  rw [World.size_alloc, hb8] at z6
  obtain ⟨w6, hw6⟩ : ∃ W, W = (w5.alloc (.cells #[.int .i64 g, .bool nm] 28)).alloc (.cells #[] 41) := ⟨_, rfl⟩
  have HW6 := Lib.hid hw6
  rw [← hw6] at hal Y6 z6
  rw [hb8] at Y6
  have ST : Hid (TrLoop w p b1 b6 b8 (b8 + 1) #[.slice A0 ch.chart.points.length c0, .slice A1 ch.chart.segs.length c1] #[.int .i64 g, .bool nm] A0 c0 A1 c1 A2 c2 ch fl (.slice (some ⟨b8 + 1, 0, none⟩) 0 0) [] w6) := Lib.hid ⟨hc.below hal, (B4.out.grown hg B4.out.size (fun k e => by have := Option.some.inj e; omega)).trans (hal.mono (by have := B4.out.size; omega)), (K4.out.grown hg (by simp; omega)).below hal, (J4.out.grown hg (by simp; omega)).below hal, (X4.out.grown hg (by simp; omega)).below hal, Y6,
    own_below (own_kept O4.out hg (fun b hv e => by have := (own_ge O4.out hv).1; have := Option.some.inj e; omega)) hal, own_below (own_kept Q4.out hg (fun b hv e => by have := (own_ge Q4.out hv).1; have := Option.some.inj e; omega)) hal, own_below (own_kept S4.out hg (fun b hv e => by have := (own_ge S4.out hv).1; have := Option.some.inj e; omega)) hal, z6, by simp⟩
  have FIX : Hid (TrFix w p b1 b6 b8 (b8 + 1) A0 c0 A1 c1 A2 c2 ch fl) := Lib.hid ⟨hp', hpl, hz2, by omega, by omega, fun b hb => far0 b (by omega), fun b hb => far1 b (by omega), fun b hb => far2 b (by omega), far0 b6 (Nat.le_refl _), far1 b6 (Nat.le_refl _)⟩
  have HB8 := Lib.hid hb8
  obtain ⟨b9, hb9⟩ : ∃ b, b8 + 1 = b := ⟨_, rfl⟩
  rw [hb9] at ST FIX
  have HB9 := Lib.hid hb9
  have HCB := Lib.hid (chart_drawn ch HOK.out)
  have HN3 := Lib.hid (show 1 ≤ ch.chart.segs.length by unfold ChartRnd.chart segs3; simp)
  have HCL := Lib.hid (chart_len ch)
  have HG0 := Lib.hid g0
  have HG1 := Lib.hid g1
  have HL1 := Lib.hid hl1
  have HL3 := Lib.hid hl3
  obtain ⟨n0, hn0⟩ : ∃ n, ch.chart.points.length = n := ⟨_, rfl⟩
  obtain ⟨n1, hn1⟩ : ∃ n, ch.chart.segs.length = n := ⟨_, rfl⟩
  obtain ⟨L, hL⟩ : ∃ n, fl.length = n := ⟨_, rfl⟩
  have HN0 := Lib.hid hn0
  have HN1 := Lib.hid hn1
  have HL := Lib.hid hL
  rw [hn0, hn1, hL]
  rw [hn0, hn1] at ST
  clear hc hg hal Y6 z6 hw6 far0 far1 far2 hb8 hb9 g0 g1 hl1 hl3 K4 J4 B4 X4 O4 Q4 S4 HC4 hz2 hz4 hz5 hz34 hs1' hpl hp' hn0 hn1 hL
  go_wp2_with fail
  rw [← HW6.out, HB8.out, HB9.out]
  clear HW6 HB8
  refine (l01Below_any p 4 w6 (by omega) (by omega) ST.out.1).mono ?_
  rintro e w7 ⟨x, rfl, x0, x1, hc, hg⟩
  have ST7 := Lib.hid (ST.out.step FIX.out hg hc)
  obtain ⟨m, rfl⟩ : ∃ m : Nat, x = (m : Int) := ⟨x.toNat, by omega⟩
  have hm : m ≤ 3 := by omega
  have wm : IntKind.i64.wrap (2 + (m : Int)) = ((m + 2 : Nat) : Int) := by rw [IntKind.wrap_i64]; omega
  clear hc hg ST x0 x1
  go_wp2
  go_loopw [9, 10] (fun q i wr => ∃ (k : Nat) (v : Value) (l : List PassageD), k ≤ 5 ∧ i = .int .i64 (k : Int) ∧ q = v ∧ l.length + k ≤ 5 ∧ Hid (TrLoop w p b1 b6 b8 b9 #[.slice A0 n0 c0, .slice A1 n1 c1] #[.int .i64 g, .bool nm] A0 c0 A1 c1 A2 c2 ch fl v l wr)) (fun _ i _ => (intOf i).toNat)
  case atStart => exact ⟨m + 2, _, [], by omega, by rfl, rfl, by simp; omega, ST7⟩
  case round =>
    clear ST7 wm
    obtain ⟨k, v, l, hk, rfl, rfl, hlk, hS⟩ := hrel
    obtain ⟨C, cc, rfl⟩ := own_form hS.out.2.2.2.2.2.2.2.2.2.1
    have hs6 := hS.out.2.1.size
    have x0 : wr.cell? ⟨b6, 0, none⟩ = some (.slice A0 n0 c0) := hS.out.2.2.2.2.1.cell 0
    have x1 : wr.cell? ⟨b6, 1, none⟩ = some (.slice A1 n1 c1) := hS.out.2.2.2.2.1.cell 1
    by_cases hk0 : k = 0
    rotate_left
    · obtain ⟨k', rfl⟩ : ∃ k', k = k' + 1 := ⟨k - 1, by omega⟩
      have t1 : decide ((((k' + 1 : Nat) : Int)) > 0) = true := decide_eq_true (by omega)
      have t2 : decide ((((k' + 1 : Nat) : Int)) < 6) = true := decide_eq_true (by omega)
      have wk : IntKind.i64.wrap ((((k' + 1 : Nat) : Int)) - 1) = (k' : Int) := by rw [IntKind.wrap_i64]; omega
      have t3 : 0 < (((k' + 1 : Nat) : Int)) := by omega
      have t4 : (((k' + 1 : Nat) : Int)) < 6 := by omega
      obtain ⟨kk, hkk⟩ : ∃ kk : Int, (((k' + 1 : Nat) : Int)) = kk := ⟨_, rfl⟩
      rw [hkk] at t1 t2 t3 t4 wk ⊢
      have HKK := Lib.hid hkk
      clear hkk hk0
      have CP := Lib.hid (l08Passage_any p ch.chart A0 c0 A1 c1 A2 c2 fl wr hS.out.1 HCB.out HN3.out (own_sl segmentLen hS.out.2.2.2.2.2.2.2.1 (by have := HCL.out.2; omega)) (fun e => by have := (own_ge hS.out.2.2.2.2.2.2.2.1 e).1; have := FIX.out.2.1; omega) HL1.out HL3.out (own_sl shipLen hS.out.2.2.2.2.2.2.2.2.1 (by have := HL3.out; omega)) (fun e => by have := (own_ge hS.out.2.2.2.2.2.2.2.2.1 e).1; have := FIX.out.2.1; omega))
      rw [HN0.out, HN1.out, HL.out] at CP
      go_wp2_with fail
      clear x0 x1 t1 t2 t3 t4
      refine CP.out.mono ?_
      rintro e wa ⟨d, rfl, hd, hc, hg⟩
      have SA := Lib.hid (hS.out.step FIX.out hg hc)
      have HD := Lib.hid hd
      clear hc hg hS CP hd
      have hal := Joins.below_alloc1 wa (.cells #[.int .i64 d.ship, .int .i64 d.segment, .bool d.toward, .int .i64 d.start, .int .i64 d.stop] 41)
      have KV := Blk.new wa #[.int .i64 d.ship, .int .i64 d.segment, .bool d.toward, .int .i64 d.start, .int .i64 d.stop] 41
      obtain ⟨b11, hb11⟩ : ∃ b, wa.heap.size = b := ⟨_, rfl⟩
      have h911 : b9 ≤ b11 := by have := SA.out.2.2.2.2.2.1.lt; have := HB9.out; omega
      have FARV := Lib.hid (show (Value.slice C l.length cc).ownBlock ≠ some b11 from fun e => by have := (own_ge SA.out.2.2.2.2.2.2.2.2.2.1 e).2; omega)
      obtain ⟨wb, hwb⟩ : ∃ W, W = wa.alloc (.cells #[.int .i64 d.ship, .int .i64 d.segment, .bool d.toward, .int .i64 d.start, .int .i64 d.stop] 41) := ⟨_, rfl⟩
      rw [← hwb] at hal KV
      have SB := Lib.hid (SA.out.below hal)
      have HWB := Lib.hid hwb
      have HB11 := Lib.hid hb11
      rw [hb11] at KV
      have KV := Lib.hid KV
      clear hal hwb hb11 SA
      go_wp2_with fail
      rw [← HWB.out, HB11.out]
      clear HWB HB11
      refine (l01Once_any p 2 _ (by omega) (by omega) SB.out.1).mono ?_
      rintro e wd ⟨b, rfl, hc, hg⟩
      have SD := Lib.hid (SB.out.step FIX.out hg hc)
      have KD := Lib.hid (KV.out.grown hg (by have := FIX.out.2; simp; omega))
      clear hc hg SB KV
      cases b with
      | false =>
        have y0 : wd.cell? ⟨b11, 0, none⟩ = some (.int .i64 d.ship) := KD.out.cell 0
        have y1 : wd.cell? ⟨b11, 1, none⟩ = some (.int .i64 d.segment) := KD.out.cell 1
        have y2 : wd.cell? ⟨b11, 2, none⟩ = some (.bool d.toward) := KD.out.cell 2
        have y3 : wd.cell? ⟨b11, 3, none⟩ = some (.int .i64 d.start) := KD.out.cell 3
        have y4 : wd.cell? ⟨b11, 4, none⟩ = some (.int .i64 d.stop) := KD.out.cell 4
        have SL := Lib.hid (SD.out.below (Joins.below_alloc1 wd (.cells #[.int .i64 d.ship, .int .i64 d.segment, .bool d.toward, .int .i64 d.start, .int .i64 d.stop] 41)))
        have HN := Lib.hid (World.news_of_block (heap_alloc_new wd (.cells #[.int .i64 d.ship, .int .i64 d.segment, .bool d.toward, .int .i64 d.start, .int .i64 d.stop] 41)))
        have hsz : b9 ≤ wd.heap.size + 1 := by have := SD.out.2.2.2.2.2.1.lt; have := HB9.out; omega
        have hsz' : b9 ≤ wd.heap.size := by have := SD.out.2.2.2.2.2.1.lt; have := HB9.out; omega
        have hi := HI.out
        go_wp2_with (at_builtin; refine wpList_append_lies _ rfl _ _ _ rfl b9 41 i0 _ 5 40 Try.underlying29 hi.1 hi.2.1 hi.2.2.1 hi.2.2.2 rfl (by omega) (.slice C l.length cc) l.length (l.flatMap PassageD.cells) rfl SL.out.2.2.2.2.2.2.2.2.2.1 ⟨wd.heap.size, 0, none⟩ 1 1 (PassageD.cells d) (by first | rfl | simp) rfl HN.out (passage_one d) (by omega) (by unfold maxLen; omega) (by omega) (by first | omega | (simp; omega)) _ rfl ?_; intro g4 cap4 w4 hown4 hgrow4 hor4 hlt4; have GX := Lib.hid (SL.out.app FIX.out HD.out hown4 hgrow4); clear hown4 hgrow4 hor4 hlt4)
        go_roundw
        case rel => exact ⟨k', _, l ++ [d], by omega, by rfl, rfl, by simp; omega, GX⟩
        case measure => have hkk := HKK.out; simp [intOf]; omega
      | true =>
        have y0 : wd.cell? ⟨b11, 0, none⟩ = some (.int .i64 d.ship) := KD.out.cell 0
        have y1 : wd.cell? ⟨b11, 1, none⟩ = some (.int .i64 d.segment) := KD.out.cell 1
        have y2 : wd.cell? ⟨b11, 2, none⟩ = some (.bool d.toward) := KD.out.cell 2
        have y3 : wd.cell? ⟨b11, 3, none⟩ = some (.int .i64 d.start) := KD.out.cell 3
        have y4 : wd.cell? ⟨b11, 4, none⟩ = some (.int .i64 d.stop) := KD.out.cell 4
        have f1 : wd.frozen? ⟨b11, 1, none⟩ = false := KD.out.free 1
        go_upto_region 12 with fail
        have SE := SD.out.set FIX.out h911 FARV.out 1 (.int .i64 1)
        have KE := KD.out.set 1 (.int .i64 1)
        simp only [List.setIfInBounds_toArray, List.set_cons_zero, List.set_cons_succ] at KE
        obtain ⟨we, hwe⟩ : ∃ W, W = wd.setCell ⟨b11, 1, none⟩ (.int .i64 1) := ⟨_, rfl⟩
        rw [← hwe] at SE KE ⊢
        have SE := Lib.hid SE
        have KE := Lib.hid KE
        clear hwe SD KD f1 y0 y1 y2 y3 y4
        have hd' : PassageD.wf ⟨d.ship, 1, d.toward, d.start, d.stop⟩ := by
          obtain ⟨a, b, c, e⟩ := HD.out
          refine ⟨a, ?_, c, e⟩
          dsimp only
          exact WalkArith.wf_i64 (by omega)
        have HD1 := Lib.hid hd'
        clear hd'
        have y0 : we.cell? ⟨b11, 0, none⟩ = some (.int .i64 d.ship) := KE.out.cell 0
        have y1 : we.cell? ⟨b11, 1, none⟩ = some (.int .i64 1) := KE.out.cell 1
        have y2 : we.cell? ⟨b11, 2, none⟩ = some (.bool d.toward) := KE.out.cell 2
        have y3 : we.cell? ⟨b11, 3, none⟩ = some (.int .i64 d.start) := KE.out.cell 3
        have y4 : we.cell? ⟨b11, 4, none⟩ = some (.int .i64 d.stop) := KE.out.cell 4
        have SL := Lib.hid (SE.out.below (Joins.below_alloc1 we (.cells #[.int .i64 d.ship, .int .i64 1, .bool d.toward, .int .i64 d.start, .int .i64 d.stop] 41)))
        have HN := Lib.hid (World.news_of_block (heap_alloc_new we (.cells #[.int .i64 d.ship, .int .i64 1, .bool d.toward, .int .i64 d.start, .int .i64 d.stop] 41)))
        have hsz : b9 ≤ we.heap.size + 1 := by have := SE.out.2.2.2.2.2.1.lt; have := HB9.out; omega
        have hsz' : b9 ≤ we.heap.size := by have := SE.out.2.2.2.2.2.1.lt; have := HB9.out; omega
        have hi := HI.out
        go_wp2_with (at_builtin; refine wpList_append_lies _ rfl _ _ _ rfl b9 41 i0 _ 5 40 Try.underlying29 hi.1 hi.2.1 hi.2.2.1 hi.2.2.2 rfl (by omega) (.slice C l.length cc) l.length (l.flatMap PassageD.cells) rfl SL.out.2.2.2.2.2.2.2.2.2.1 ⟨we.heap.size, 0, none⟩ 1 1 (PassageD.cells ⟨d.ship, 1, d.toward, d.start, d.stop⟩) (by first | rfl | simp) rfl HN.out (passage_one ⟨d.ship, 1, d.toward, d.start, d.stop⟩) (by omega) (by unfold maxLen; omega) (by omega) (by first | omega | (simp; omega)) _ rfl ?_; intro g4 cap4 w4 hown4 hgrow4 hor4 hlt4; have GX := Lib.hid (SL.out.app FIX.out HD1.out hown4 hgrow4); clear hown4 hgrow4 hor4 hlt4)
        go_roundw
        case rel => exact ⟨k', _, l ++ [⟨d.ship, 1, d.toward, d.start, d.stop⟩], by omega, by rfl, rfl, by simp; omega, GX⟩
        case measure => have hkk := HKK.out; simp [intOf]; omega
    subst hk0
    have E := Lib.hid hS.out
    have z0 : wr.cell? ⟨b8, 0, none⟩ = some (.int .i64 g) := hS.out.2.2.2.2.2.1.cell 0
    have z1 : wr.cell? ⟨b8, 1, none⟩ = some (.bool nm) := hS.out.2.2.2.2.2.1.cell 1
    go_upto_region 13 with fail
    have QS := Lib.hid (show wr.cell? ⟨b6, 0, none⟩ = some (.slice A0 n0 c0) ∧ wr.cell? ⟨b6, 1, none⟩ = some (.slice A1 n1 c1) ∧ wr.cell? ⟨b8, 0, none⟩ = some (.int .i64 g) ∧ wr.cell? ⟨b8, 1, none⟩ = some (.bool nm) from ⟨x0, x1, z0, z1⟩)
    have P0 := Lib.hid (hS.out.below (Below.refl _ wr).drew)
    have hwb := hS.out.2.1.size
    obtain ⟨q1, q2, q3, q4, q5, q6, q7, q8, q9, q10, q11⟩ := P0.out
    obtain ⟨f1, f2, f3, f4, f5, -⟩ := FIX.out
    have WFL := Lib.hid q11
    have FO : ∀ j, j < 2 → (Value.slice A0 n0 c0).ownBlock ≠ some (w.heap.size + j) := fun j hj e => by have := (own_ge q7 (by rw [HN0.out]; exact e)).1; omega
    have FQ : ∀ j, j < 2 → (Value.slice A1 n1 c1).ownBlock ≠ some (w.heap.size + j) := fun j hj e => by have := (own_ge q8 (by rw [HN1.out]; exact e)).1; omega
    have FP : ∀ j, j < 2 → (Value.slice C l.length cc).ownBlock ≠ some (w.heap.size + j) := fun j hj e => by have := (own_ge q10 e).1; omega
    have FO := Lib.hid FO
    have FQ := Lib.hid FQ
    have FP := Lib.hid FP
    have B0 := Lib.hid (show Below w.heap.size w wr.drew from q2)
    have K20 := Lib.hid (show Blk wr.drew w.heap.size #[.slice none 0 0, .slice none 0 0] 26 from q3)
    have K30 := Lib.hid (show Blk wr.drew (w.heap.size + 1) #[.int .i64 0, .bool false] 28 from q4)
    have KX0 := Lib.hid (show Blk wr.drew b6 #[.slice A0 n0 c0, .slice A1 n1 c1] 26 from q5)
    have KR0 := Lib.hid (show Blk wr.drew b8 #[.int .i64 g, .bool nm] 28 from q6)
    have OP0 := Lib.hid (show OwnPoint wr.drew b1 (.slice A0 n0 c0) ch.chart.points from (by first | exact q7 | (rw [← HN0.out]; exact q7) | (rw [← HN1.out]; exact q7)))
    have OS0 := Lib.hid (show OwnSegment wr.drew b1 (.slice A1 n1 c1) ch.chart.segs from (by first | exact q8 | (rw [← HN0.out]; exact q8) | (rw [← HN1.out]; exact q8)))
    have OC0 := Lib.hid (show OwnPassage wr.drew b9 (.slice C l.length cc) l from (by first | exact q10 | (rw [← HN0.out]; exact q10) | (rw [← HN1.out]; exact q10)))
    clear q1 q2 q3 q4 q5 q6 q7 q8 q9 q10 q11
    refine wp_region_held_drew (S := (fun w' => w'.cell? ⟨b6, 0, none⟩ = some (.slice A0 n0 c0) ∧ w'.cell? ⟨b6, 1, none⟩ = some (.slice A1 n1 c1) ∧ w'.cell? ⟨b8, 0, none⟩ = some (.int .i64 g) ∧ w'.cell? ⟨b8, 1, none⟩ = some (.bool nm))) (by kernel_rfl) ?_ (fun hHeld => ?_)
    · (try dsimp only); go_keep
    refine wpAnyH_take (i := 0) (v := ?_) (by simp only [List.getElem?_toArray, List.getElem?_cons_zero]; rfl) (by kernel_rfl) (by kernel_rfl) (by kernel_rfl) (by exact fun _ _ _ h => h) (Or.inl ⟨by rfl, ?_⟩) (by assumption) ?_; rotate_left; focus (intro w hSw; (try dsimp only at hSw); first | (go_simp; done) | (go_simp; with_reducible rfl))
    (try simp only [Act.put]); (try simp only [List.setIfInBounds_toArray]); (try simp only [List.set_cons_succ]); (try simp only [List.set_cons_zero])
    refine wpAnyH_take (i := 1) (v := ?_) (by simp only [List.getElem?_toArray, List.getElem?_cons_succ, List.getElem?_cons_zero]; rfl) (by kernel_rfl) (by kernel_rfl) (by kernel_rfl) (by exact fun _ _ _ h => h) (Or.inl ⟨by rfl, ?_⟩) (by assumption) ?_; rotate_left; focus (intro w hSw; (try dsimp only at hSw); first | (go_simp; done) | (go_simp; with_reducible rfl))
    (try simp only [Act.put]); (try simp only [List.setIfInBounds_toArray]); (try simp only [List.set_cons_succ]); (try simp only [List.set_cons_zero])
    refine wpAnyH_take (i := 2) (v := ?_) (by simp only [List.getElem?_toArray, List.getElem?_cons_succ, List.getElem?_cons_zero]; rfl) (by kernel_rfl) (by kernel_rfl) (by kernel_rfl) (by exact fun _ _ _ h => h) (Or.inl ⟨by rfl, ?_⟩) (by assumption) ?_; rotate_left; focus (intro w hSw; (try dsimp only at hSw); first | (go_simp; done) | (go_simp; with_reducible rfl))
    (try simp only [Act.put]); (try simp only [List.setIfInBounds_toArray]); (try simp only [List.set_cons_succ]); (try simp only [List.set_cons_zero])
    refine wpAnyH_ready (rs := [3]) (by kernel_rfl) (by simp) ?_
    refine AllReadyH.cons rfl (fun K hK => ?_) (AllReadyH.nil)
    have r0 : wr.cell? ⟨w.heap.size, 0, none⟩ = some (.slice none 0 0) := K20.out.cell 0
    have r1 : wr.cell? ⟨w.heap.size, 1, none⟩ = some (.slice none 0 0) := K20.out.cell 1
    have s0 : wr.frozen? ⟨w.heap.size, 0, none⟩ = false := K20.out.free 0
    have s1 : wr.frozen? ⟨w.heap.size, 1, none⟩ = false := K20.out.free 1
    rw [if_pos (by rfl)]
    go_simp
    obtain ⟨wf1, hwf⟩ : ∃ W, W = ((wr.setCell ⟨w.heap.size, 0, none⟩ (.slice A0 n0 c0)).setCell ⟨w.heap.size, 1, none⟩ (.slice A1 n1 c1)).drew := ⟨_, rfl⟩
    rw [← hwf]
    have K21 := Lib.hid (show Blk wf1 (w.heap.size) #[.slice A0 n0 c0, .slice A1 n1 c1] 26 from by rw [hwf]; have z := (K20.out.set 0 (.slice A0 n0 c0)).set 1 (.slice A1 n1 c1); simp only [List.setIfInBounds_toArray, List.set_cons_zero, List.set_cons_succ] at z; exact z)
    have K31 := Lib.hid (show Blk wf1 (w.heap.size + 1) #[.int .i64 0, .bool false] 28 from by rw [hwf]; exact (K30.out.other (by omega) 0 (.slice A0 n0 c0)).other (by omega) 1 (.slice A1 n1 c1))
    have KX1 := Lib.hid (show Blk wf1 (b6) #[.slice A0 n0 c0, .slice A1 n1 c1] 26 from by rw [hwf]; exact (KX0.out.other (by omega) 0 (.slice A0 n0 c0)).other (by omega) 1 (.slice A1 n1 c1))
    have KR1 := Lib.hid (show Blk wf1 (b8) #[.int .i64 g, .bool nm] 28 from by rw [hwf]; exact (KR0.out.other (by omega) 0 (.slice A0 n0 c0)).other (by omega) 1 (.slice A1 n1 c1))
    have OP1 := Lib.hid (show OwnPoint wf1 b1 (.slice A0 n0 c0) ch.chart.points from by rw [hwf]; exact own_setO (own_setO OP0.out (FO.out 0 (by omega)) 0 (.slice A0 n0 c0)) (FO.out 0 (by omega)) 1 (.slice A1 n1 c1))
    have OS1 := Lib.hid (show OwnSegment wf1 b1 (.slice A1 n1 c1) ch.chart.segs from by rw [hwf]; exact own_setO (own_setO OS0.out (FQ.out 0 (by omega)) 0 (.slice A0 n0 c0)) (FQ.out 0 (by omega)) 1 (.slice A1 n1 c1))
    have OC1 := Lib.hid (show OwnPassage wf1 b9 (.slice C l.length cc) l from by rw [hwf]; exact own_setO (own_setO OC0.out (FP.out 0 (by omega)) 0 (.slice A0 n0 c0)) (FP.out 0 (by omega)) 1 (.slice A1 n1 c1))
    have B1 := Lib.hid (show Below w.heap.size w wf1 from by rw [hwf]; exact (B0.out.setCell (p := ⟨w.heap.size, 0, none⟩) (by show w.heap.size ≤ w.heap.size; omega) (.slice A0 n0 c0)).setCell (p := ⟨w.heap.size, 1, none⟩) (by show w.heap.size ≤ w.heap.size; omega) (.slice A1 n1 c1))
    have QS := Lib.hid (show wf1.cell? ⟨b6, 0, none⟩ = some (.slice A0 n0 c0) ∧ wf1.cell? ⟨b6, 1, none⟩ = some (.slice A1 n1 c1) ∧ wf1.cell? ⟨b8, 0, none⟩ = some (.int .i64 g) ∧ wf1.cell? ⟨b8, 1, none⟩ = some (.bool nm) from ⟨KX1.out.cell 0, KX1.out.cell 1, KR1.out.cell 0, KR1.out.cell 1⟩)
    clear hwf r0 r1 s0 s1
    refine hK.out _ _ QS.out (fun hHeld => ?_)
    clear hK K
    (try simp only [Act.put]); (try simp only [List.setIfInBounds_toArray]); (try simp only [List.set_cons_succ]); (try simp only [List.set_cons_zero])
    refine wpAnyH_ready (rs := [4]) (by kernel_rfl) (by simp) ?_
    refine AllReadyH.cons rfl (fun K hK => ?_) (AllReadyH.nil)
    have r0 : wf1.cell? ⟨w.heap.size + 1, 0, none⟩ = some (.int .i64 0) := K31.out.cell 0
    have r1 : wf1.cell? ⟨w.heap.size + 1, 1, none⟩ = some (.bool false) := K31.out.cell 1
    have s0 : wf1.frozen? ⟨w.heap.size + 1, 0, none⟩ = false := K31.out.free 0
    have s1 : wf1.frozen? ⟨w.heap.size + 1, 1, none⟩ = false := K31.out.free 1
    rw [if_pos (by rfl)]
    go_simp
    obtain ⟨wf2, hwf⟩ : ∃ W, W = ((wf1.setCell ⟨w.heap.size + 1, 0, none⟩ (.int .i64 g)).setCell ⟨w.heap.size + 1, 1, none⟩ (.bool nm)) := ⟨_, rfl⟩
    rw [← hwf]
    have K32 := Lib.hid (show Blk wf2 (w.heap.size + 1) #[.int .i64 g, .bool nm] 28 from by rw [hwf]; have z := (K31.out.set 0 (.int .i64 g)).set 1 (.bool nm); simp only [List.setIfInBounds_toArray, List.set_cons_zero, List.set_cons_succ] at z; exact z)
    have K22 := Lib.hid (show Blk wf2 (w.heap.size) #[.slice A0 n0 c0, .slice A1 n1 c1] 26 from by rw [hwf]; exact (K21.out.other (by omega) 0 (.int .i64 g)).other (by omega) 1 (.bool nm))
    have KX2 := Lib.hid (show Blk wf2 (b6) #[.slice A0 n0 c0, .slice A1 n1 c1] 26 from by rw [hwf]; exact (KX1.out.other (by omega) 0 (.int .i64 g)).other (by omega) 1 (.bool nm))
    have KR2 := Lib.hid (show Blk wf2 (b8) #[.int .i64 g, .bool nm] 28 from by rw [hwf]; exact (KR1.out.other (by omega) 0 (.int .i64 g)).other (by omega) 1 (.bool nm))
    have OP2 := Lib.hid (show OwnPoint wf2 b1 (.slice A0 n0 c0) ch.chart.points from by rw [hwf]; exact own_setO (own_setO OP1.out (FO.out 1 (by omega)) 0 (.int .i64 g)) (FO.out 1 (by omega)) 1 (.bool nm))
    have OS2 := Lib.hid (show OwnSegment wf2 b1 (.slice A1 n1 c1) ch.chart.segs from by rw [hwf]; exact own_setO (own_setO OS1.out (FQ.out 1 (by omega)) 0 (.int .i64 g)) (FQ.out 1 (by omega)) 1 (.bool nm))
    have OC2 := Lib.hid (show OwnPassage wf2 b9 (.slice C l.length cc) l from by rw [hwf]; exact own_setO (own_setO OC1.out (FP.out 1 (by omega)) 0 (.int .i64 g)) (FP.out 1 (by omega)) 1 (.bool nm))
    have B2 := Lib.hid (show Below w.heap.size w wf2 from by rw [hwf]; exact (B1.out.setCell (p := ⟨w.heap.size + 1, 0, none⟩) (by show w.heap.size ≤ w.heap.size + 1; omega) (.int .i64 g)).setCell (p := ⟨w.heap.size + 1, 1, none⟩) (by show w.heap.size ≤ w.heap.size + 1; omega) (.bool nm))
    have QS := Lib.hid (show wf2.cell? ⟨b6, 0, none⟩ = some (.slice A0 n0 c0) ∧ wf2.cell? ⟨b6, 1, none⟩ = some (.slice A1 n1 c1) ∧ wf2.cell? ⟨b8, 0, none⟩ = some (.int .i64 g) ∧ wf2.cell? ⟨b8, 1, none⟩ = some (.bool nm) from ⟨KX2.out.cell 0, KX2.out.cell 1, KR2.out.cell 0, KR2.out.cell 1⟩)
    clear hwf r0 r1 s0 s1
    refine hK.out _ _ QS.out (fun hHeld => ?_)
    clear hK K
    (try simp only [Act.put]); (try simp only [List.setIfInBounds_toArray]); (try simp only [List.set_cons_succ]); (try simp only [List.set_cons_zero])
    refine wpAnyH_take (i := 5) (v := ?_) (by simp only [List.getElem?_toArray, List.getElem?_cons_succ, List.getElem?_cons_zero]; rfl) (by kernel_rfl) (by kernel_rfl) (by kernel_rfl) (by exact fun _ _ _ h => h) (Or.inl ⟨by rfl, ?_⟩) (by assumption) ?_; rotate_left; focus (intro w hSw; (try dsimp only at hSw); first | (go_simp; done) | (go_simp; with_reducible rfl))
    (try simp only [Act.put]); (try simp only [List.setIfInBounds_toArray]); (try simp only [List.set_cons_succ]); (try simp only [List.set_cons_zero])
    refine wpAnyH_done (by kernel_rfl) ?_ _
    clear hHeld QS
    have r0 : wf2.cell? ⟨w.heap.size, 0, none⟩ = some (.slice A0 n0 c0) := K22.out.cell 0
    have r1 : wf2.cell? ⟨w.heap.size, 1, none⟩ = some (.slice A1 n1 c1) := K22.out.cell 1
    have r2 : wf2.cell? ⟨w.heap.size + 1, 0, none⟩ = some (.int .i64 g) := K32.out.cell 0
    have r3 : wf2.cell? ⟨w.heap.size + 1, 1, none⟩ = some (.bool nm) := K32.out.cell 1
    go_wp2
    refine bodyPost_ret (v := .tuple #[.agg #[.slice A0 n0 c0, .slice A1 n1 c1], .agg #[.int .i64 g, .bool nm], .slice C l.length cc]) (by simp [results, Try.results12, go_sem, r0, r1, r2, r3]) rfl ⟨ch, A0, c0, A1, c1, ⟨g, nm⟩, C, cc, l, HOK.out, HG0.out, HG1.out, WFL.out, by omega, by rw [HN0.out, HN1.out], by rw [HN0.out]; exact own_lo OP2.out (by omega), by rw [HN1.out]; exact own_lo OS2.out (by omega), own_lo OC2.out (by omega), B2.out⟩
end Go.Proofs.Ytpglaffmmddcdaa
