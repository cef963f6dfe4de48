
/- A drawn case (l16Case: a harbour and its calls) and MakeCalls: contracts. -/
import Derived.Test.YtgjappjlnkdpnaaDrawHarb
import Derived.Test.YtgjappjlnkdpnaaGath
namespace Go.Proofs.Ytgjappjlnkdpnaa
open Go.RowKit
set_option maxRecDepth 100000

def OwnCall : World → Nat → Value → List CallD → Prop := OwnOf 5 CallD.cells 139
theorem callLen (d : CallD) : d.cells.length = 5 := rfl
theorem call_one (x : CallD) : ∀ v ∈ x.cells, v.oneCell' = true := fun v hv => by simp at hv; rcases hv with rfl | rfl | rfl | rfl | rfl <;> rfl
theorem info_call : (Try.prog.info? 139).map (fun i => (i.zero, i.size, i.bytes)) = some (some (.agg #[.int .i64 0, .int .i64 0, .int .i64 0, .int .i64 0, .int .i64 0]), 5, 40) := by kernel_rfl
/-- None of a harbour's lists lies in block b. -/
def FarH (b : Nat) (A0 : Option Addr) (c0 : Nat) (A1 : Option Addr) (c1 : Nat) (A2 : Option Addr) (c2 : Nat) (A3 : Option Addr) (c3 : Nat) (A4 : Option Addr) (c4 : Nat) (A5 : Option Addr) (c5 : Nat) (h : HarbD) : Prop := Far5 b (.slice A0 h.l.length c0) (.slice A1 h.s.length c1) (.slice A2 h.ch.chart.points.length c2) (.slice A3 h.ch.chart.segs.length c3) (.slice A5 64 c5) ∧ (Value.slice A4 h.fl.length c4).ownBlock ≠ some b
section
variable {W W' : World} {base : Nat} {A0 A1 A2 A3 A4 A5 : Option Addr} {c0 c1 c2 c3 c4 c5 : Nat} {h : HarbD}
theorem HarbOwn.kept {row : Option Nat} (hh : HarbOwn W base A0 c0 A1 c1 A2 c2 A3 c3 A4 c4 A5 c5 h) (hg : W.grownBy W' row) (hf : ∀ b, row = some b → FarH b A0 c0 A1 c1 A2 c2 A3 c3 A4 c4 A5 c5 h) : HarbOwn W' base A0 c0 A1 c1 A2 c2 A3 c3 A4 c4 A5 c5 h := by
  obtain ⟨⟨h0, h1, h2, h3, h5⟩, h4⟩ := hh
  exact ⟨⟨own_kept h0 hg (fun b hv e => (hf b e).1.1 hv), own_kept h1 hg (fun b hv e => (hf b e).1.2.1 hv), own_kept h2 hg (fun b hv e => (hf b e).1.2.2.1 hv), own_kept h3 hg (fun b hv e => (hf b e).1.2.2.2.1 hv), own_kept h5 hg (fun b hv e => (hf b e).1.2.2.2.2 hv)⟩, own_kept h4 hg (fun b hv e => (hf b e).2 hv)⟩
theorem HarbOwn.below (hh : HarbOwn W base A0 c0 A1 c1 A2 c2 A3 c3 A4 c4 A5 c5 h) (hb : Below W.heap.size W W') : HarbOwn W' base A0 c0 A1 c1 A2 c2 A3 c3 A4 c4 A5 c5 h := ⟨hh.1.below hb, own_below hh.2 hb⟩
theorem HarbOwn.lo {b' : Nat} (hh : HarbOwn W base A0 c0 A1 c1 A2 c2 A3 c3 A4 c4 A5 c5 h) (hb : b' ≤ base) : HarbOwn W b' A0 c0 A1 c1 A2 c2 A3 c3 A4 c4 A5 c5 h := ⟨hh.1.lo hb, own_lo hh.2 hb⟩
theorem HarbOwn.far {b : Nat} (hh : HarbOwn W base A0 c0 A1 c1 A2 c2 A3 c3 A4 c4 A5 c5 h) (hb : b < base ∨ W.heap.size ≤ b) : FarH b A0 c0 A1 c1 A2 c2 A3 c3 A4 c4 A5 c5 h := ⟨hh.1.far hb, fun e => by have := own_ge hh.2 e; omega⟩
theorem HarbOwn.set (hh : HarbOwn W base A0 c0 A1 c1 A2 c2 A3 c3 A4 c4 A5 c5 h) {b : Nat} (hf : FarH b A0 c0 A1 c1 A2 c2 A3 c3 A4 c4 A5 c5 h) (j : Nat) (u : Value) : HarbOwn (W.setCell ⟨b, j, none⟩ u) base A0 c0 A1 c1 A2 c2 A3 c3 A4 c4 A5 c5 h := ⟨hh.1.set hf.1 j u, own_setO hh.2 hf.2 j u⟩
end
def CallsTo (cl : List CallD) (k : Nat) : Prop := (∀ x ∈ cl, ∃ i : Nat, i < k ∧ callGood (i : Int) x) ∧ cl.Pairwise (fun a b => a.ship < b.ship) ∧ (0 < k → cl ≠ [])
theorem CallsTo.more {cl : List CallD} {k : Nat} (h : CallsTo cl k) (hk : 0 < k) : CallsTo cl (k + 1) := ⟨fun x hx => by obtain ⟨i, hi, hg⟩ := h.1 x hx; exact ⟨i, by omega, hg⟩, h.2.1, fun _ => h.2.2 hk⟩
theorem CallsTo.next {cl : List CallD} {k : Nat} {d : CallD} (h : CallsTo cl k) (hd : callGood (k : Int) d) : CallsTo (cl ++ [d]) (k + 1) := by
  refine ⟨fun x hx => ?_, List.pairwise_append.2 ⟨h.2.1, by simp, fun a ha b hb => ?_⟩, fun _ => by simp⟩
  · rcases List.mem_append.1 hx with hx | hx
    · obtain ⟨i, hi, hg⟩ := h.1 x hx; exact ⟨i, by omega, hg⟩
    · simp at hx; subst hx; exact ⟨k, by omega, hd⟩
  · simp at hb; subst hb
    obtain ⟨i, hi, hg⟩ := h.1 a ha
    rw [hg.1, hd.1]; omega
/-- What holds while the calls are drawn. -/
def CsLoop (w : World) (p b4 : Nat) (cs : Array Value) (A0 : Option Addr) (c0 : Nat) (A1 : Option Addr) (c1 : Nat) (A2 : Option Addr) (c2 : Nat) (A3 : Option Addr) (c3 : Nat) (A4 : Option Addr) (c4 : Nat) (A5 : Option Addr) (c5 : Nat) (h : HarbD) (v : Value) (cl : List CallD) (wr : World) : Prop :=
  Cursor wr p ∧ w.grownBy wr (some p) ∧ Blk wr w.heap.size #[.int .i64 0, .slice none 0 0, .slice none 0 0, .slice none 0 0, .slice none 0 0, .slice none 0 0, .int .i64 0, .bool false, .int .i64 0, .int .i64 0, .int .i64 0, .slice none 0 0] 55 ∧ Blk wr b4 cs 55 ∧ HarbOwn wr (w.heap.size + 1) A0 c0 A1 c1 A2 c2 A3 c3 A4 c4 A5 c5 h ∧ OwnCall wr (b4 + 1) v cl
section
variable {w wr w3 : World} {p b4 : Nat} {cs : Array Value} {A0 A1 A2 A3 A4 A5 : Option Addr} {c0 c1 c2 c3 c4 c5 : Nat} {h : HarbD} {v : Value} {cl : List CallD}
theorem CsLoop.step (hh : CsLoop w p b4 cs A0 c0 A1 c1 A2 c2 A3 c3 A4 c4 A5 c5 h v cl wr) (hp : p < w.heap.size) (hb : w.heap.size < b4) (hg : wr.grownBy w3 (some p)) (hc : Cursor w3 p) : CsLoop w p b4 cs A0 c0 A1 c1 A2 c2 A3 c3 A4 c4 A5 c5 h v cl w3 := by
  obtain ⟨h1, h2, h3, h4, h5, h6⟩ := hh
  exact ⟨hc, grown_trans h2 hg, h3.grown hg (by simp; omega), h4.grown hg (by simp; omega), h5.kept hg (fun b e => by have := Option.some.inj e; exact h5.far (.inl (by omega))), own_kept h6 hg (fun b hv e => by have := (own_ge h6 hv).1; have := Option.some.inj e; omega)⟩
theorem CsLoop.below (hh : CsLoop w p b4 cs A0 c0 A1 c1 A2 c2 A3 c3 A4 c4 A5 c5 h v cl wr) (hb : Below wr.heap.size wr w3) : CsLoop w p b4 cs A0 c0 A1 c1 A2 c2 A3 c3 A4 c4 A5 c5 h v cl w3 := by
  obtain ⟨h1, h2, h3, h4, h5, h6⟩ := hh
  exact ⟨h1.below hb, grown_trans h2 (grown_of_below hb _), h3.below hb, h4.below hb, h5.below hb, own_below h6 hb⟩
theorem CsLoop.app {w4 : World} {d : CallD} {g4 cap4 : Nat} (hh : CsLoop w p b4 cs A0 c0 A1 c1 A2 c2 A3 c3 A4 c4 A5 c5 h v cl wr) (hp : p < w.heap.size) (hb : w.heap.size < b4) (hf : ∀ b, b4 ≤ b → FarH b A0 c0 A1 c1 A2 c2 A3 c3 A4 c4 A5 c5 h)
    (hown : w4.ownsRow (b4 + 1) 139 5 (.slice (some ⟨g4, 0, none⟩) (cl.length + 1) cap4) (cl.length + 1) (cl.flatMap CallD.cells ++ d.cells)) (hgr : wr.grownBy w4 v.ownBlock) : CsLoop w p b4 cs A0 c0 A1 c1 A2 c2 A3 c3 A4 c4 A5 c5 h (.slice (some ⟨g4, 0, none⟩) (cl.length + 1) cap4) (cl ++ [d]) w4 := by
  obtain ⟨h1, h2, h3, h4, h5, h6⟩ := hh
  have r0 : ∀ b, v.ownBlock = some b → b4 + 1 ≤ b := fun b hv => (own_ge h6 hv).1
  refine ⟨h1.grown hgr (fun b hv => by have := r0 b hv; omega), grown_young h2 hgr (fun b hv => by have := r0 b hv; omega), h3.grown hgr (fun e => by have := r0 _ e.symm; omega), h4.grown hgr (fun e => by have := r0 _ e.symm; omega), h5.kept hgr (fun b e => hf b (by have := r0 b e; omega)), ?_⟩
  show World.ownsRow _ _ _ _ _ _ _
  have e : (cl ++ [d]).flatMap CallD.cells = cl.flatMap CallD.cells ++ d.cells := by simp
  rw [e]
  simpa using hown
end
/-- What a drawn case leaves. -/
def DrawsCase (p : Nat) (w : World) (e : Ending) (w' : World) : Prop := ∃ (h : HarbD) (A0 : Option Addr) (c0 : Nat) (A1 : Option Addr) (c1 : Nat) (A2 : Option Addr) (c2 : Nat) (A3 : Option Addr) (c3 : Nat) (A4 : Option Addr) (c4 : Nat) (A5 : Option Addr) (c5 : Nat) (C : Option Addr) (c : Nat) (cl : List CallD), HarbOk h ∧ CallsTo cl h.fl.length ∧ e = .returned (.tuple #[.agg #[.int .i64 h.m, .slice A0 h.l.length c0, .slice A1 h.s.length c1, .slice A2 h.ch.chart.points.length c2, .slice A3 h.ch.chart.segs.length c3, .slice A4 h.fl.length c4, .int .i64 h.gap, .bool h.nm, .int .i64 h.tu, .int .i64 h.pi, .int .i64 h.re, .slice A5 64 c5], .slice C cl.length c]) ∧ HarbOwn w' w.heap.size A0 c0 A1 c1 A2 c2 A3 c3 A4 c4 A5 c5 h ∧ OwnCall w' w.heap.size (.slice C cl.length c) cl ∧ Cursor w' p ∧ w.grownBy w' (some p)

set_option maxHeartbeats 4000000 in
theorem l16Case_any (p : Nat) (w : World) (hcur : Cursor w p) : Calls Try.prog 64 #[.pointer (some ⟨p, 0, none⟩)] w (DrawsCase p w) := by
  have hb0 := Joins.below_alloc1 w (.cells #[.int .i64 0, .slice none 0 0, .slice none 0 0, .slice none 0 0, .slice none 0 0, .slice none 0 0, .int .i64 0, .bool false, .int .i64 0, .int .i64 0, .int .i64 0, .slice none 0 0] 55)
  have hp := hcur.lt
  have G0 := Lib.hid (grown_alloc w (.cells #[.int .i64 0, .slice none 0 0, .slice none 0 0, .slice none 0 0, .slice none 0 0, .slice none 0 0, .int .i64 0, .bool false, .int .i64 0, .int .i64 0, .int .i64 0, .slice none 0 0] 55) (some p))
  have K0 := Lib.hid (Blk.new w #[.int .i64 0, .slice none 0 0, .slice none 0 0, .slice none 0 0, .slice none 0 0, .slice none 0 0, .int .i64 0, .bool false, .int .i64 0, .int .i64 0, .int .i64 0, .slice none 0 0] 55)
  have HC0 := Lib.hid (hcur.below hb0)
  have HNP := Lib.hid (show some w.heap.size ≠ some p by simp; omega)
  obtain ⟨i0, hi, hz0, hz1, hz2⟩ := info_parts info_call
  have HI := Lib.hid (And.intro hi (And.intro hz0 (And.intro hz1 hz2)))
  clear hcur hb0 hi hz0 hz1 hz2
  go_enter Try.func64, Try.ntmps64
  go_wp2_with fail
  refine (l15Harbour_any p _ HC0.out).mono ?_
  rintro e w1 ⟨h, A0, c0, A1, c1, A2, c2, A3, c3, A4, c4, A5, c5, hok, rfl, hown, hc, hg⟩
  have hown' := hown.lo (b' := w.heap.size + 1) (by simp)
  have FARH := Lib.hid (show ∀ b, w1.heap.size ≤ b → FarH b A0 c0 A1 c1 A2 c2 A3 c3 A4 c4 A5 c5 h from fun b hb => hown'.far (.inr hb))
  have HOK := Lib.hid hok
  obtain ⟨-, -, -, ⟨hL1, hL3⟩, -⟩ := hok
  obtain ⟨L, hL⟩ : ∃ L, h.fl.length = L := ⟨_, rfl⟩
  have hz1 : w.heap.size + 1 ≤ w1.heap.size := by have := hg.size; simpa using this
  obtain ⟨W3, hW3⟩ : ∃ W, W = (w1.alloc (.cells #[.int .i64 h.m, .slice A0 h.l.length c0, .slice A1 h.s.length c1, .slice A2 h.ch.chart.points.length c2, .slice A3 h.ch.chart.segs.length c3, .slice A4 L c4, .int .i64 h.gap, .bool h.nm, .int .i64 h.tu, .int .i64 h.pi, .int .i64 h.re, .slice A5 64 c5] 55)).alloc (.cells #[] 139) := ⟨_, rfl⟩
  have hal := Joins.below_alloc2 w1 (.cells #[.int .i64 h.m, .slice A0 h.l.length c0, .slice A1 h.s.length c1, .slice A2 h.ch.chart.points.length c2, .slice A3 h.ch.chart.segs.length c3, .slice A4 L c4, .int .i64 h.gap, .bool h.nm, .int .i64 h.tu, .int .i64 h.pi, .int .i64 h.re, .slice A5 64 c5] 55) (.cells #[] 139)
  have ST3 : Hid (CsLoop w p w1.heap.size #[.int .i64 h.m, .slice A0 h.l.length c0, .slice A1 h.s.length c1, .slice A2 h.ch.chart.points.length c2, .slice A3 h.ch.chart.segs.length c3, .slice A4 L c4, .int .i64 h.gap, .bool h.nm, .int .i64 h.tu, .int .i64 h.pi, .int .i64 h.re, .slice A5 64 c5] A0 c0 A1 c1 A2 c2 A3 c3 A4 c4 A5 c5 h (.slice (some ⟨w1.heap.size + 1, 0, none⟩) 0 0) [] W3) := by
    rw [hW3]
    refine Lib.hid ⟨hc.below hal, grown_trans (grown_trans G0.out hg) (grown_of_below hal _), (K0.out.grown hg HNP.out).below hal, (Blk.new w1 _ _).below (Joins.below_alloc1 _ _), hown'.below hal, ?_⟩
    have z := (GathO.made (cs := CallD.cells) (t := 139) (k := 5) (Below.refl (w1.alloc (.cells #[.int .i64 h.m, .slice A0 h.l.length c0, .slice A1 h.s.length c1, .slice A2 h.ch.chart.points.length c2, .slice A3 h.ch.chart.segs.length c3, .slice A4 L c4, .int .i64 h.gap, .bool h.nm, .int .i64 h.tu, .int .i64 h.pi, .int .i64 h.re, .slice A5 64 c5] 55)).heap.size (w1.alloc (.cells #[.int .i64 h.m, .slice A0 h.l.length c0, .slice A1 h.s.length c1, .slice A2 h.ch.chart.points.length c2, .slice A3 h.ch.chart.segs.length c3, .slice A4 L c4, .int .i64 h.gap, .bool h.nm, .int .i64 h.tu, .int .i64 h.pi, .int .i64 h.re, .slice A5 64 c5] 55)))).1
    rw [World.size_alloc] at z
    exact z
  have HW3 := Lib.hid hW3
  have HLN := Lib.hid hL
  rw [hL] at hL1 hL3
  rw [hL]
  obtain ⟨b4, hb4⟩ : ∃ b4, w1.heap.size = b4 := ⟨_, rfl⟩
  have hb24 : w.heap.size < b4 := by omega
  have ST : Hid (CsLoop w p b4 #[.int .i64 h.m, .slice A0 h.l.length c0, .slice A1 h.s.length c1, .slice A2 h.ch.chart.points.length c2, .slice A3 h.ch.chart.segs.length c3, .slice A4 L c4, .int .i64 h.gap, .bool h.nm, .int .i64 h.tu, .int .i64 h.pi, .int .i64 h.re, .slice A5 64 c5] A0 c0 A1 c1 A2 c2 A3 c3 A4 c4 A5 c5 h (.slice (some ⟨b4 + 1, 0, none⟩) 0 0) [] W3) := by rw [← hb4]; exact ST3
  have FAR : Hid (∀ b, b4 ≤ b → FarH b A0 c0 A1 c1 A2 c2 A3 c3 A4 c4 A5 c5 h) := by rw [← hb4]; exact FARH
  have HB4 := Lib.hid hb4
  clear hc hg HC0 G0 K0 hal hW3 hL hown hown' ST3 FARH hb4 hz1
  go_wp2
  rw [← HW3.out, HB4.out]
  clear HW3 HB4
  go_loopw [5, 13] (fun q i wr => ∃ (k : Nat) (v : Value) (cl : List CallD), k ≤ L ∧ i = .int .i64 k ∧ q = v ∧ cl.length ≤ k ∧ Hid (CallsTo cl k) ∧ Hid (CsLoop w p b4 #[.int .i64 h.m, .slice A0 h.l.length c0, .slice A1 h.s.length c1, .slice A2 h.ch.chart.points.length c2, .slice A3 h.ch.chart.segs.length c3, .slice A4 L c4, .int .i64 h.gap, .bool h.nm, .int .i64 h.tu, .int .i64 h.pi, .int .i64 h.re, .slice A5 64 c5] A0 c0 A1 c1 A2 c2 A3 c3 A4 c4 A5 c5 h v cl wr)) (fun _ i _ => L - (intOf i).toNat)
  case atStart => exact ⟨0, _, [], Nat.zero_le _, rfl, rfl, by simp, Lib.hid ⟨by simp, by simp, fun h => absurd h (by omega)⟩, ST⟩
  case round =>
    clear ST
    obtain ⟨k, v, cl, hk, rfl, rfl, hclk, hTo, hS⟩ := hrel
    obtain ⟨C, cc, rfl⟩ := own_form hS.out.2.2.2.2.2
    by_cases hlt : k < L
    · have hnext : IntKind.i64.wrap ((k : Int) + 1) = ((k + 1 : Nat) : Int) := by rw [IntKind.wrap_i64]; omega
      by_cases h0 : k = 0
      · have hb : ((k : Int) == 0) = true := by simp [h0]
        clear h0
        go_wp2_with fail
        refine (l15Call_any p (k : Int) _ hS.out.1).mono ?_
        rintro e wc ⟨d, rfl, hd, hc, hg⟩
        have SD := Lib.hid (hS.out.step hp hb24 hg hc)
        have TN := Lib.hid (hTo.out.next hd)
        have AL := Lib.hid (SD.out.below (Joins.below_alloc1 wc (.cells #[.int .i64 d.ship, .int .i64 d.fr, .int .i64 d.tt, .int .i64 d.ready, .int .i64 d.due] 139)))
        have HN := Lib.hid (World.news_of_block (heap_alloc_new wc (.cells #[.int .i64 d.ship, .int .i64 d.fr, .int .i64 d.tt, .int .i64 d.ready, .int .i64 d.due] 139)))
        have hsz : b4 + 1 ≤ wc.heap.size + 1 := by have := SD.out.2.2.2.1.lt; omega
        have hi := HI.out
        clear hc hg hd hS
        go_wp2_with (at_builtin; refine wpList_append_lies _ rfl _ _ _ rfl (b4 + 1) 139 i0 _ 5 40 Try.underlying56 hi.1 hi.2.1 hi.2.2.1 hi.2.2.2 rfl (by omega) (.slice C cl.length cc) cl.length (cl.flatMap CallD.cells) rfl AL.out.2.2.2.2.2 ⟨wc.heap.size, 0, none⟩ 1 1 d.cells (by first | rfl | simp) rfl HN.out (call_one d) (by omega) (by unfold maxLen; omega) (by omega) (by first | omega | (simp; omega)) _ rfl ?_; intro g4 cap4 w4 hown4 hgrow4 hor4 hlt4; have GX := Lib.hid (AL.out.app hp hb24 FAR.out hown4 hgrow4); clear hown4 hgrow4 hor4 hlt4)
        go_roundw
        case rel => exact ⟨k + 1, _, cl ++ [d], by omega, by rfl, rfl, by simp; omega, TN, GX⟩
        case measure => simp [intOf]; omega
      · have hb : ((k : Int) == 0) = false := by simp; omega
        have h0' : 0 < k := by omega
        clear h0
        go_wp2_with fail
        refine (l01Once_any p 4 _ (by omega) (by omega) hS.out.1).mono ?_
        rintro e wo ⟨b, rfl, hc, hg⟩
        have SO := Lib.hid (hS.out.step hp hb24 hg hc)
        clear hc hg hS
        cases b
        · have hS := SO
          go_wp2_with fail
          refine (l15Call_any p (k : Int) _ SO.out.1).mono ?_
          rintro e wc ⟨d, rfl, hd, hc, hg⟩
          have SD := Lib.hid (SO.out.step hp hb24 hg hc)
          have TN := Lib.hid (hTo.out.next hd)
          have AL := Lib.hid (SD.out.below (Joins.below_alloc1 wc (.cells #[.int .i64 d.ship, .int .i64 d.fr, .int .i64 d.tt, .int .i64 d.ready, .int .i64 d.due] 139)))
          have HN := Lib.hid (World.news_of_block (heap_alloc_new wc (.cells #[.int .i64 d.ship, .int .i64 d.fr, .int .i64 d.tt, .int .i64 d.ready, .int .i64 d.due] 139)))
          have hsz : b4 + 1 ≤ wc.heap.size + 1 := by have := SD.out.2.2.2.1.lt; omega
          have hi := HI.out
          clear hc hg hd hS
          go_wp2_with (at_builtin; refine wpList_append_lies _ rfl _ _ _ rfl (b4 + 1) 139 i0 _ 5 40 Try.underlying56 hi.1 hi.2.1 hi.2.2.1 hi.2.2.2 rfl (by omega) (.slice C cl.length cc) cl.length (cl.flatMap CallD.cells) rfl AL.out.2.2.2.2.2 ⟨wc.heap.size, 0, none⟩ 1 1 d.cells (by first | rfl | simp) rfl HN.out (call_one d) (by omega) (by unfold maxLen; omega) (by omega) (by first | omega | (simp; omega)) _ rfl ?_; intro g4 cap4 w4 hown4 hgrow4 hor4 hlt4; have GX := Lib.hid (AL.out.app hp hb24 FAR.out hown4 hgrow4); clear hown4 hgrow4 hor4 hlt4)
          go_roundw
          case rel => exact ⟨k + 1, _, cl ++ [d], by omega, by rfl, rfl, by simp; omega, TN, GX⟩
          case measure => simp [intOf]; omega
        · have TM := Lib.hid (hTo.out.more (by omega))
          go_wp2
          go_roundw
          case rel => exact ⟨k + 1, _, cl, by omega, by rfl, rfl, by omega, TM, SO⟩
          case measure => simp [intOf]; omega
    · obtain rfl : k = L := by omega
      obtain ⟨e1, e2, e3, e4, e5, e6⟩ := hS.out
      have q0 : wr.cell? ⟨b4, 0, none⟩ = some (.int .i64 h.m) := e4.cell 0
      have q1 : wr.cell? ⟨b4, 1, none⟩ = some (.slice A0 h.l.length c0) := e4.cell 1
      have q2 : wr.cell? ⟨b4, 2, none⟩ = some (.slice A1 h.s.length c1) := e4.cell 2
      have q3 : wr.cell? ⟨b4, 3, none⟩ = some (.slice A2 h.ch.chart.points.length c2) := e4.cell 3
      have q4 : wr.cell? ⟨b4, 4, none⟩ = some (.slice A3 h.ch.chart.segs.length c3) := e4.cell 4
      have q5 : wr.cell? ⟨b4, 5, none⟩ = some (.slice A4 k c4) := e4.cell 5
      have q6 : wr.cell? ⟨b4, 6, none⟩ = some (.int .i64 h.gap) := e4.cell 6
      have q7 : wr.cell? ⟨b4, 7, none⟩ = some (.bool h.nm) := e4.cell 7
      have q8 : wr.cell? ⟨b4, 8, none⟩ = some (.int .i64 h.tu) := e4.cell 8
      have q9 : wr.cell? ⟨b4, 9, none⟩ = some (.int .i64 h.pi) := e4.cell 9
      have q10 : wr.cell? ⟨b4, 10, none⟩ = some (.int .i64 h.re) := e4.cell 10
      have q11 : wr.cell? ⟨b4, 11, none⟩ = some (.slice A5 64 c5) := e4.cell 11
      have r0 : wr.cell? ⟨w.heap.size, 0, none⟩ = some (.int .i64 0) := e3.cell 0
      have s0 : wr.frozen? ⟨w.heap.size, 0, none⟩ = false := e3.free 0
      have r1 : wr.cell? ⟨w.heap.size, 1, none⟩ = some (.slice none 0 0) := e3.cell 1
      have s1 : wr.frozen? ⟨w.heap.size, 1, none⟩ = false := e3.free 1
      have r2 : wr.cell? ⟨w.heap.size, 2, none⟩ = some (.slice none 0 0) := e3.cell 2
      have s2 : wr.frozen? ⟨w.heap.size, 2, none⟩ = false := e3.free 2
      have r3 : wr.cell? ⟨w.heap.size, 3, none⟩ = some (.slice none 0 0) := e3.cell 3
      have s3 : wr.frozen? ⟨w.heap.size, 3, none⟩ = false := e3.free 3
      have r4 : wr.cell? ⟨w.heap.size, 4, none⟩ = some (.slice none 0 0) := e3.cell 4
      have s4 : wr.frozen? ⟨w.heap.size, 4, none⟩ = false := e3.free 4
      have r5 : wr.cell? ⟨w.heap.size, 5, none⟩ = some (.slice none 0 0) := e3.cell 5
      have s5 : wr.frozen? ⟨w.heap.size, 5, none⟩ = false := e3.free 5
      have r6 : wr.cell? ⟨w.heap.size, 6, none⟩ = some (.int .i64 0) := e3.cell 6
      have s6 : wr.frozen? ⟨w.heap.size, 6, none⟩ = false := e3.free 6
      have r7 : wr.cell? ⟨w.heap.size, 7, none⟩ = some (.bool false) := e3.cell 7
      have s7 : wr.frozen? ⟨w.heap.size, 7, none⟩ = false := e3.free 7
      have r8 : wr.cell? ⟨w.heap.size, 8, none⟩ = some (.int .i64 0) := e3.cell 8
      have s8 : wr.frozen? ⟨w.heap.size, 8, none⟩ = false := e3.free 8
      have r9 : wr.cell? ⟨w.heap.size, 9, none⟩ = some (.int .i64 0) := e3.cell 9
      have s9 : wr.frozen? ⟨w.heap.size, 9, none⟩ = false := e3.free 9
      have r10 : wr.cell? ⟨w.heap.size, 10, none⟩ = some (.int .i64 0) := e3.cell 10
      have s10 : wr.frozen? ⟨w.heap.size, 10, none⟩ = false := e3.free 10
      have r11 : wr.cell? ⟨w.heap.size, 11, none⟩ = some (.slice none 0 0) := e3.cell 11
      have s11 : wr.frozen? ⟨w.heap.size, 11, none⟩ = false := e3.free 11
      have E1 := Lib.hid e1
      have E2 := Lib.hid e2
      have E5 := Lib.hid e5
      have E6 := Lib.hid e6
      have FR2 := Lib.hid (e5.far (b := w.heap.size) (.inl (by omega)))
      have FC := Lib.hid (show (Value.slice C cl.length cc).ownBlock ≠ some w.heap.size from fun e => by have := (own_ge e6 e).1; omega)
      have hne : w.heap.size ≠ b4 := by omega
      have hne' : b4 ≠ w.heap.size := by omega
      clear e1 e2 e3 e4 e5 e6 hS
      obtain ⟨nc, hnc⟩ : ∃ nc, cl.length = nc := ⟨_, rfl⟩
      have HNC := Lib.hid hnc
      rw [hnc]
      rw [hnc] at hclk
      clear hnc
      go_wp2
      clear q0 s0 q1 s1 q2 s2 q3 s3 q4 s4 q5 s5 q6 s6 q7 s7 q8 s8 q9 s9 q10 s10 q11 s11
      refine bodyPost_ret (v := .tuple #[.agg #[.int .i64 h.m, .slice A0 h.l.length c0, .slice A1 h.s.length c1, .slice A2 h.ch.chart.points.length c2, .slice A3 h.ch.chart.segs.length c3, .slice A4 k c4, .int .i64 h.gap, .bool h.nm, .int .i64 h.tu, .int .i64 h.pi, .int .i64 h.re, .slice A5 64 c5], .slice C nc cc]) (by simp [results, Try.results64, go_sem, r0, r1, r2, r3, r4, r5, r6, r7, r8, r9, r10, r11]) rfl ⟨h, A0, c0, A1, c1, A2, c2, A3, c3, A4, c4, A5, c5, C, cc, cl, HOK.out, by rw [HLN.out]; exact hTo.out, by rw [HLN.out, HNC.out], ?_, ?_, ?_, ?_⟩
      · have z := E5.out
        replace z := z.set FR2.out 0 (.int .i64 h.m)
        replace z := z.set FR2.out 1 (.slice A0 h.l.length c0)
        replace z := z.set FR2.out 2 (.slice A1 h.s.length c1)
        replace z := z.set FR2.out 3 (.slice A2 h.ch.chart.points.length c2)
        replace z := z.set FR2.out 4 (.slice A3 h.ch.chart.segs.length c3)
        replace z := z.set FR2.out 5 (.slice A4 k c4)
        replace z := z.set FR2.out 6 (.int .i64 h.gap)
        replace z := z.set FR2.out 7 (.bool h.nm)
        replace z := z.set FR2.out 8 (.int .i64 h.tu)
        replace z := z.set FR2.out 9 (.int .i64 h.pi)
        replace z := z.set FR2.out 10 (.int .i64 h.re)
        replace z := z.set FR2.out 11 (.slice A5 64 c5)
        exact z.lo (by omega)
      · have z := E6.out
        replace z := own_setO z FC.out 0 (.int .i64 h.m)
        replace z := own_setO z FC.out 1 (.slice A0 h.l.length c0)
        replace z := own_setO z FC.out 2 (.slice A1 h.s.length c1)
        replace z := own_setO z FC.out 3 (.slice A2 h.ch.chart.points.length c2)
        replace z := own_setO z FC.out 4 (.slice A3 h.ch.chart.segs.length c3)
        replace z := own_setO z FC.out 5 (.slice A4 k c4)
        replace z := own_setO z FC.out 6 (.int .i64 h.gap)
        replace z := own_setO z FC.out 7 (.bool h.nm)
        replace z := own_setO z FC.out 8 (.int .i64 h.tu)
        replace z := own_setO z FC.out 9 (.int .i64 h.pi)
        replace z := own_setO z FC.out 10 (.int .i64 h.re)
        replace z := own_setO z FC.out 11 (.slice A5 64 c5)
        exact own_lo z (by omega)
      · have z := E1.out
        replace z := z.set hp 0 (.int .i64 h.m)
        replace z := z.set hp 1 (.slice A0 h.l.length c0)
        replace z := z.set hp 2 (.slice A1 h.s.length c1)
        replace z := z.set hp 3 (.slice A2 h.ch.chart.points.length c2)
        replace z := z.set hp 4 (.slice A3 h.ch.chart.segs.length c3)
        replace z := z.set hp 5 (.slice A4 k c4)
        replace z := z.set hp 6 (.int .i64 h.gap)
        replace z := z.set hp 7 (.bool h.nm)
        replace z := z.set hp 8 (.int .i64 h.tu)
        replace z := z.set hp 9 (.int .i64 h.pi)
        replace z := z.set hp 10 (.int .i64 h.re)
        replace z := z.set hp 11 (.slice A5 64 c5)
        exact z
      · have z := E2.out
        replace z := grown_setNew z (Nat.le_refl w.heap.size) (j := 0) (.int .i64 h.m)
        replace z := grown_setNew z (Nat.le_refl w.heap.size) (j := 1) (.slice A0 h.l.length c0)
        replace z := grown_setNew z (Nat.le_refl w.heap.size) (j := 2) (.slice A1 h.s.length c1)
        replace z := grown_setNew z (Nat.le_refl w.heap.size) (j := 3) (.slice A2 h.ch.chart.points.length c2)
        replace z := grown_setNew z (Nat.le_refl w.heap.size) (j := 4) (.slice A3 h.ch.chart.segs.length c3)
        replace z := grown_setNew z (Nat.le_refl w.heap.size) (j := 5) (.slice A4 k c4)
        replace z := grown_setNew z (Nat.le_refl w.heap.size) (j := 6) (.int .i64 h.gap)
        replace z := grown_setNew z (Nat.le_refl w.heap.size) (j := 7) (.bool h.nm)
        replace z := grown_setNew z (Nat.le_refl w.heap.size) (j := 8) (.int .i64 h.tu)
        replace z := grown_setNew z (Nat.le_refl w.heap.size) (j := 9) (.int .i64 h.pi)
        replace z := grown_setNew z (Nat.le_refl w.heap.size) (j := 10) (.int .i64 h.re)
        replace z := grown_setNew z (Nat.le_refl w.heap.size) (j := 11) (.slice A5 64 c5)
        exact z

/-- What MakeCalls leaves. -/
def MadeCalls (w : World) (e : Ending) (w' : World) : Prop := ∃ (h : HarbD) (A0 : Option Addr) (c0 : Nat) (A1 : Option Addr) (c1 : Nat) (A2 : Option Addr) (c2 : Nat) (A3 : Option Addr) (c3 : Nat) (A4 : Option Addr) (c4 : Nat) (A5 : Option Addr) (c5 : Nat) (C : Option Addr) (c : Nat) (cl : List CallD), HarbOk h ∧ CallsTo cl h.fl.length ∧ e = .returned (.tuple #[.agg #[.int .i64 h.m, .slice A0 h.l.length c0, .slice A1 h.s.length c1, .slice A2 h.ch.chart.points.length c2, .slice A3 h.ch.chart.segs.length c3, .slice A4 h.fl.length c4, .int .i64 h.gap, .bool h.nm, .int .i64 h.tu, .int .i64 h.pi, .int .i64 h.re, .slice A5 64 c5], .slice C cl.length c]) ∧ HarbOwn w' (w.heap.size + 1) A0 c0 A1 c1 A2 c2 A3 c3 A4 c4 A5 c5 h ∧ OwnCall w' (w.heap.size + 1) (.slice C cl.length c) cl ∧ Below w.heap.size w w'
set_option maxHeartbeats 4000000 in
theorem makeCalls_any (A : Option Addr) (n c : Nat) (w : World) (hcode : CodeAt w A n) : Calls Try.prog 23 #[.slice A n c] w (MadeCalls w) := by
  have hb0 := Joins.below_alloc1 w (.cells #[.int .i64 0, .slice none 0 0, .slice none 0 0, .slice none 0 0, .slice none 0 0, .slice none 0 0, .int .i64 0, .bool false, .int .i64 0, .int .i64 0, .int .i64 0, .slice none 0 0] 55)
  have CN := Lib.hid (l01New_any A n c _ (hcode.below hb0))
  have K0 := Lib.hid (Blk.new w #[.int .i64 0, .slice none 0 0, .slice none 0 0, .slice none 0 0, .slice none 0 0, .slice none 0 0, .int .i64 0, .bool false, .int .i64 0, .int .i64 0, .int .i64 0, .slice none 0 0] 55)
  have B0 := Lib.hid hb0
  clear hcode hb0
  go_enter Try.func23, Try.ntmps23
  go_wp2_with fail
  refine CN.out.mono ?_
  rintro e w1 ⟨p, rfl, hp, hcur, hb1⟩
  have hp' : w.heap.size + 1 ≤ p := by simpa using hp
  have K1 := Lib.hid (K0.out.below hb1)
  have B1 := Lib.hid (B0.out.trans (hb1.mono (by simp)))
  have HC := Lib.hid hcur
  have hlt : w.heap.size < w1.heap.size := K1.out.lt
  clear hcur hb1 hp CN
  go_wp2_with fail
  refine (l16Case_any p w1 HC.out).mono ?_
  rintro e w2 ⟨h, A0, c0, A1, c1, A2, c2, A3, c3, A4, c4, A5, c5, C, cc, cl, hok, hto, rfl, hown, hoc, hc2, hg2⟩
  have K2 := K1.out.grown hg2 (by simp; omega)
  have r0 : w2.cell? ⟨w.heap.size, 0, none⟩ = some (.int .i64 0) := K2.cell 0
  have s0 : w2.frozen? ⟨w.heap.size, 0, none⟩ = false := K2.free 0
  have r1 : w2.cell? ⟨w.heap.size, 1, none⟩ = some (.slice none 0 0) := K2.cell 1
  have s1 : w2.frozen? ⟨w.heap.size, 1, none⟩ = false := K2.free 1
  have r2 : w2.cell? ⟨w.heap.size, 2, none⟩ = some (.slice none 0 0) := K2.cell 2
  have s2 : w2.frozen? ⟨w.heap.size, 2, none⟩ = false := K2.free 2
  have r3 : w2.cell? ⟨w.heap.size, 3, none⟩ = some (.slice none 0 0) := K2.cell 3
  have s3 : w2.frozen? ⟨w.heap.size, 3, none⟩ = false := K2.free 3
  have r4 : w2.cell? ⟨w.heap.size, 4, none⟩ = some (.slice none 0 0) := K2.cell 4
  have s4 : w2.frozen? ⟨w.heap.size, 4, none⟩ = false := K2.free 4
  have r5 : w2.cell? ⟨w.heap.size, 5, none⟩ = some (.slice none 0 0) := K2.cell 5
  have s5 : w2.frozen? ⟨w.heap.size, 5, none⟩ = false := K2.free 5
  have r6 : w2.cell? ⟨w.heap.size, 6, none⟩ = some (.int .i64 0) := K2.cell 6
  have s6 : w2.frozen? ⟨w.heap.size, 6, none⟩ = false := K2.free 6
  have r7 : w2.cell? ⟨w.heap.size, 7, none⟩ = some (.bool false) := K2.cell 7
  have s7 : w2.frozen? ⟨w.heap.size, 7, none⟩ = false := K2.free 7
  have r8 : w2.cell? ⟨w.heap.size, 8, none⟩ = some (.int .i64 0) := K2.cell 8
  have s8 : w2.frozen? ⟨w.heap.size, 8, none⟩ = false := K2.free 8
  have r9 : w2.cell? ⟨w.heap.size, 9, none⟩ = some (.int .i64 0) := K2.cell 9
  have s9 : w2.frozen? ⟨w.heap.size, 9, none⟩ = false := K2.free 9
  have r10 : w2.cell? ⟨w.heap.size, 10, none⟩ = some (.int .i64 0) := K2.cell 10
  have s10 : w2.frozen? ⟨w.heap.size, 10, none⟩ = false := K2.free 10
  have r11 : w2.cell? ⟨w.heap.size, 11, none⟩ = some (.slice none 0 0) := K2.cell 11
  have s11 : w2.frozen? ⟨w.heap.size, 11, none⟩ = false := K2.free 11
  have E5 := Lib.hid (hown.lo (b' := w.heap.size + 1) (by omega))
  have E6 := Lib.hid (own_lo (base' := w.heap.size + 1) hoc (by omega))
  have FR2 := Lib.hid (hown.far (b := w.heap.size) (.inl (by omega)))
  have FC := Lib.hid (show (Value.slice C cl.length cc).ownBlock ≠ some w.heap.size from fun e => by have := (own_ge hoc e).1; omega)
  have HOK := Lib.hid hok
  have HTO := Lib.hid hto
  have B2 := Lib.hid (below_of_grown B1.out hg2 B1.out.size (by omega))
  clear hown hoc hok hto hc2 hg2 K2
  obtain ⟨nc, hnc⟩ : ∃ nc, cl.length = nc := ⟨_, rfl⟩
  have HNC := Lib.hid hnc
  rw [hnc]
  obtain ⟨L, hL⟩ : ∃ L, h.fl.length = L := ⟨_, rfl⟩
  have HLN := Lib.hid hL
  rw [hL]
  clear hnc hL
  go_wp2
  clear s0 s1 s2 s3 s4 s5 s6 s7 s8 s9 s10 s11
  refine bodyPost_ret (v := .tuple #[.agg #[.int .i64 h.m, .slice A0 h.l.length c0, .slice A1 h.s.length c1, .slice A2 h.ch.chart.points.length c2, .slice A3 h.ch.chart.segs.length c3, .slice A4 L c4, .int .i64 h.gap, .bool h.nm, .int .i64 h.tu, .int .i64 h.pi, .int .i64 h.re, .slice A5 64 c5], .slice C nc cc]) (by simp [results, Try.results23, go_sem, r0, r1, r2, r3, r4, r5, r6, r7, r8, r9, r10, r11]) rfl ⟨h, A0, c0, A1, c1, A2, c2, A3, c3, A4, c4, A5, c5, C, cc, cl, HOK.out, HTO.out, by rw [HLN.out, HNC.out], ?_, ?_, ?_⟩
  · have z := E5.out
    replace z := z.set FR2.out 0 (.int .i64 h.m)
    replace z := z.set FR2.out 1 (.slice A0 h.l.length c0)
    replace z := z.set FR2.out 2 (.slice A1 h.s.length c1)
    replace z := z.set FR2.out 3 (.slice A2 h.ch.chart.points.length c2)
    replace z := z.set FR2.out 4 (.slice A3 h.ch.chart.segs.length c3)
    replace z := z.set FR2.out 5 (.slice A4 L c4)
    replace z := z.set FR2.out 6 (.int .i64 h.gap)
    replace z := z.set FR2.out 7 (.bool h.nm)
    replace z := z.set FR2.out 8 (.int .i64 h.tu)
    replace z := z.set FR2.out 9 (.int .i64 h.pi)
    replace z := z.set FR2.out 10 (.int .i64 h.re)
    replace z := z.set FR2.out 11 (.slice A5 64 c5)
    exact z
  · have z := E6.out
    replace z := own_setO z FC.out 0 (.int .i64 h.m)
    replace z := own_setO z FC.out 1 (.slice A0 h.l.length c0)
    replace z := own_setO z FC.out 2 (.slice A1 h.s.length c1)
    replace z := own_setO z FC.out 3 (.slice A2 h.ch.chart.points.length c2)
    replace z := own_setO z FC.out 4 (.slice A3 h.ch.chart.segs.length c3)
    replace z := own_setO z FC.out 5 (.slice A4 L c4)
    replace z := own_setO z FC.out 6 (.int .i64 h.gap)
    replace z := own_setO z FC.out 7 (.bool h.nm)
    replace z := own_setO z FC.out 8 (.int .i64 h.tu)
    replace z := own_setO z FC.out 9 (.int .i64 h.pi)
    replace z := own_setO z FC.out 10 (.int .i64 h.re)
    replace z := own_setO z FC.out 11 (.slice A5 64 c5)
    exact z
  · have z := B2.out
    replace z := z.setCell (p := ⟨w.heap.size, 0, none⟩) (Nat.le_refl _) (.int .i64 h.m)
    replace z := z.setCell (p := ⟨w.heap.size, 1, none⟩) (Nat.le_refl _) (.slice A0 h.l.length c0)
    replace z := z.setCell (p := ⟨w.heap.size, 2, none⟩) (Nat.le_refl _) (.slice A1 h.s.length c1)
    replace z := z.setCell (p := ⟨w.heap.size, 3, none⟩) (Nat.le_refl _) (.slice A2 h.ch.chart.points.length c2)
    replace z := z.setCell (p := ⟨w.heap.size, 4, none⟩) (Nat.le_refl _) (.slice A3 h.ch.chart.segs.length c3)
    replace z := z.setCell (p := ⟨w.heap.size, 5, none⟩) (Nat.le_refl _) (.slice A4 L c4)
    replace z := z.setCell (p := ⟨w.heap.size, 6, none⟩) (Nat.le_refl _) (.int .i64 h.gap)
    replace z := z.setCell (p := ⟨w.heap.size, 7, none⟩) (Nat.le_refl _) (.bool h.nm)
    replace z := z.setCell (p := ⟨w.heap.size, 8, none⟩) (Nat.le_refl _) (.int .i64 h.tu)
    replace z := z.setCell (p := ⟨w.heap.size, 9, none⟩) (Nat.le_refl _) (.int .i64 h.pi)
    replace z := z.setCell (p := ⟨w.heap.size, 10, none⟩) (Nat.le_refl _) (.int .i64 h.re)
    replace z := z.setCell (p := ⟨w.heap.size, 11, none⟩) (Nat.le_refl _) (.slice A5 64 c5)
    exact z
end Go.Proofs.Ytgjappjlnkdpnaa
