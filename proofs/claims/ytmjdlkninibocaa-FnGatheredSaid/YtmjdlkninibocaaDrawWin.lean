
/- Drawn windows are valid and lie below minute 1600: contracts of spec.l04Draw and spec.MakeWindows. -/
import Derived.Test.YtmjdlkninibocaaDraw
import Derived.Test.YtmjdlkninibocaaBlk
import Derived.Test.YtmjdlkninibocaaWinGath
import Derived.Test.YtmjdlkninibocaaWinMath
import Derived.Deep.RegionLaw
namespace Go.Proofs.Ytmjdlkninibocaa
open Go.RowKit
set_option maxRecDepth 100000

/-- A list of windows that grows in a slot beside a cursor p. -/
def DrawW (w : World) (p : Nat) (v : Value) (acc : List WindowD) (wr : World) : Prop := Cursor wr p ∧ w.grownBy wr (some p) ∧ OwnWindow wr w.heap.size v acc ∧ p < w.heap.size
theorem DrawW.step {w wr w3 : World} {p : Nat} {v : Value} {acc : List WindowD} (h : DrawW w p v acc wr) (hg : wr.grownBy w3 (some p)) (hc : Cursor w3 p) : DrawW w p v acc w3 := by
  obtain ⟨_, h2, h3, h4⟩ := h
  refine ⟨hc, grown_trans h2 hg, World.ownsRow.kept h3 hg ?_, h4⟩
  cases hv : v.ownBlock with
  | none => exact .inl rfl
  | some g => right; intro e; have := (World.ownsRow.lt h3 g hv).1; have := Option.some.inj e; omega
theorem DrawW.below {w wr w3 : World} {p : Nat} {v : Value} {acc : List WindowD} (h : DrawW w p v acc wr) (hb : Below wr.heap.size wr w3) : DrawW w p v acc w3 :=
  ⟨h.1.below hb, grown_trans h.2.1 (grown_of_below hb _), own_below h.2.2.1 hb, h.2.2.2⟩
theorem DrawW.drew {w wr : World} {p : Nat} {v : Value} {acc : List WindowD} (h : DrawW w p v acc wr) : DrawW w p v acc wr.drew :=
  ⟨h.1.drew, ⟨h.2.1.os, h.2.1.tape, h.2.1.output, h.2.1.size, h.2.1.block⟩, h.2.2⟩
theorem DrawW.size {w wr : World} {p : Nat} {v : Value} {acc : List WindowD} (h : DrawW w p v acc wr) : w.heap.size ≤ wr.heap.size := h.2.1.size
theorem DrawW.made {w wr : World} {p : Nat} (hc : Cursor wr p) (hg : w.grownBy wr (some p)) (hp : p < w.heap.size) : DrawW w p (.slice (some ⟨wr.heap.size, 0, none⟩) 0 0) [] (wr.alloc (.cells #[] 36)) :=
  ⟨hc.below ((Below.refl _ _).alloc (Nat.le_refl _) _), grown_trans hg (grown_alloc _ _ _), ⟨by simp, .inr ⟨wr.heap.size, 0, #[], rfl, hg.size, heap_alloc_new wr _, Nat.le_refl _, by omega, by simp, by simp⟩⟩, hp⟩
theorem DrawW.next {w W w4 : World} {p : Nat} {v : Value} {acc : List WindowD} {x : WindowD} {g4 cap4 : Nat} (h : DrawW w p v acc W)
    (hown : w4.ownsRow w.heap.size 36 2 (.slice (some ⟨g4, 0, none⟩) (acc.length + 1) cap4) (acc.length + 1) (acc.flatMap WindowD.cells ++ x.cells)) (hgr : W.grownBy w4 v.ownBlock) :
    DrawW w p (.slice (some ⟨g4, 0, none⟩) (acc.length + 1) cap4) (acc ++ [x]) w4 := by
  obtain ⟨h1, h2, h3, h4⟩ := h
  have hrow : ∀ b, v.ownBlock = some b → p < b := fun b hb => by have := (World.ownsRow.lt h3 b hb).1; omega
  refine ⟨h1.grown hgr hrow, ?_, ?_, h4⟩
  · refine ⟨hgr.os.trans h2.os, hgr.tape.trans h2.tape, hgr.output.trans h2.output, Nat.le_trans h2.size hgr.size, fun i hi hne => (hgr.block i (Nat.lt_of_lt_of_le hi h2.size) ?_).trans (h2.block i hi hne)⟩
    intro e
    have := (World.ownsRow.lt h3 i e.symm).1
    omega
  · simpa [OwnWindow, OwnOf] using hown

/-- Windows that have been drawn, and where the next one may begin. -/
def VW (l : List WindowD) (a : Int) : Prop := WOk l ∧ (∀ x ∈ l, x.tt + 1 < a) ∧ 0 ≤ a ∧ a ≤ 59 + 500 * (l.length : Int) ∧ ∀ x ∈ l, x.tt < 1600
theorem VW.nil {a : Int} (h0 : 0 ≤ a) (h1 : a < 60) : VW [] a := ⟨WOk.nil, by simp, h0, by simp; omega, by simp⟩
theorem VW.next {l : List WindowD} {a : Int} (h : VW l a) (hl : l.length ≤ 2) (d r : Int) (d0 : 0 ≤ d) (d1 : d < 300) (r0 : 0 ≤ r) (r1 : r < 200) : VW (l ++ [⟨a, a + d⟩]) (a + d + 2 + r) := by
  obtain ⟨h1, h2, h3, h4, h5⟩ := h
  refine ⟨h1.snoc ⟨h3, by simp only; omega, by simp only; omega⟩ h2, fun x hx => ?_, by omega, by simp; omega, fun x hx => ?_⟩
  · rcases List.mem_append.1 hx with hx | hx
    · have := h2 x hx; omega
    · rw [List.mem_singleton.1 hx]; simp only; omega
  · rcases List.mem_append.1 hx with hx | hx
    · exact h5 x hx
    · rw [List.mem_singleton.1 hx]; simp only; omega

/-- What l04Draw leaves. -/
def DrawsWin (p : Nat) (w : World) (e : Ending) (w' : World) : Prop := ∃ (v : Value) (l : List WindowD), e = .returned v ∧ WOk l ∧ l.length ≤ 3 ∧ (∀ x ∈ l, x.tt < 1600) ∧ OwnWindow w' w.heap.size v l ∧ Cursor w' p ∧ w.grownBy w' (some p)

set_option maxHeartbeats 4000000 in
theorem l04Draw_any (p : Nat) (w : World) (hcur : Cursor w p) : Calls Try.prog 32 #[.pointer (some ⟨p, 0, none⟩)] w (DrawsWin p w) := by
  have hp := hcur.lt
  have D0 := Lib.hid (DrawW.made hcur (grown_of_below (Below.refl _ _) _) hp)
  obtain ⟨i0, hin, hz0, hzs, hz2⟩ := info_parts info_window
  have HI := Lib.hid hin
  clear hcur hin
  go_enter Try.func32, Try.ntmps32
  go_wp2_with fail
  refine (l01Below_any p 60 _ (by omega) (by omega) D0.out.1).mono ?_
  rintro e w1 ⟨a, rfl, a0, a1, hc1, hg1⟩
  have D1 := Lib.hid (D0.out.step hg1 hc1)
  clear hc1 hg1 D0
  go_wp2_with fail
  refine (l01Below_any p 4 _ (by omega) (by omega) D1.out.1).mono ?_
  rintro e w2 ⟨n, rfl, n0, n1, hc2, hg2⟩
  have D2 := Lib.hid (D1.out.step hg2 hc2)
  clear hc2 hg2 D1
  have V0 := Lib.hid (VW.nil a0 a1)
  go_wp2
  go_loopw [3, 4, 5] (fun o t i wr => ∃ (k : Nat) (acc : List WindowD) (a : Int), acc.length + k ≤ 3 ∧ i = .int .i64 k ∧ t = .int .i64 a ∧ Hid (VW acc a) ∧ Hid (DrawW w p o acc wr)) (fun _ _ i _ => (intOf i).toNat)
  case atStart => exact ⟨n.toNat, [], a, by simp; omega, by simp; omega, rfl, V0, D2⟩
  case round =>
    clear a0 a1 V0 D2
    obtain ⟨k, acc, t, hlk, rfl, rfl, hV, hD⟩ := hrel
    have tb := hV.out.2.2.1
    have tc := hV.out.2.2.2.1
    by_cases hk : 0 < k
    · go_wp2_with fail
      refine (l01Below_any p 300 _ (by omega) (by omega) hD.out.1).mono ?_
      rintro e w3 ⟨d, rfl, d0, d1, hc3, hg3⟩
      have D3 := Lib.hid (hD.out.step hg3 hc3)
      have hw1 : IntKind.i64.wrap (t + d) = t + d := by rw [IntKind.wrap_i64]; omega
      clear hc3 hg3
      have B3 := Lib.hid (Joins.below_alloc1 w3 (.cells #[.int .i64 t, .int .i64 (t + d)] 36))
      have B4 := Lib.hid (Joins.below_alloc2 w3 (.cells #[.int .i64 t, .int .i64 (t + d)] 36) (.cells #[.int .i64 t, .int .i64 (t + d)] 36))
      have D4 := Lib.hid (D3.out.below B4.out)
      have J4 := Lib.hid ((Blk.new w3 #[.int .i64 t, .int .i64 (t + d)] 36).below (Joins.below_alloc1 _ (.cells #[.int .i64 t, .int .i64 (t + d)] 36)))
      have HN := Lib.hid (World.news_of_block (heap_alloc_new (w3.alloc (.cells #[.int .i64 t, .int .i64 (t + d)] 36)) (.cells #[.int .i64 t, .int .i64 (t + d)] 36)))
      have hs3 := D3.out.size
      go_wp2_with (at_builtin; refine wpList_append_lies _ rfl _ _ _ rfl w.heap.size 36 i0 _ 2 16 Try.underlying23 HI.out hz0 (by assumption) hz2 rfl (by omega) u3 acc.length (acc.flatMap WindowD.cells) rfl D4.out.2.2.1 ⟨w3.heap.size + 1, 0, none⟩ 1 1 (WindowD.cells ⟨t, t + d⟩) (by first | rfl | simp) rfl (by simpa using HN.out) (window_one _) (by omega) (by unfold maxLen; omega) (by omega) (by simp; omega) _ rfl ?_; intro g4 cap4 w4 hown4 hgrow4 hor4 hlt4; have D5 := Lib.hid (D4.out.next hown4 hgrow4); have J5 := Lib.hid (J4.out.grown hgrow4 (fun e => by have := (World.ownsRow.lt D3.out.2.2.1 _ e.symm).2; omega)); clear hown4 hgrow4 hor4 hlt4)
      have hw2 : IntKind.i64.wrap (t + d + 2) = t + d + 2 := by rw [IntKind.wrap_i64]; omega
      have P := Lib.hid (l01Below_any p 200 w4.drew (by omega) (by omega) D5.out.drew.1)
      have j5 : w4.cell? ⟨w3.heap.size, 1, none⟩ = some (.int .i64 (t + d)) := J5.out.cell 1
      have hne : some w3.heap.size ≠ some p := by have := D3.out.2.2.2; simp; omega
      clear D3 B3 B4 D4 HN hs3
      go_region_law (go_simp; go_at_call 24; refine P.out.mono ?_; rintro e w5 ⟨r, rfl, r0, r1, hc5, hg5⟩; have D6 := Lib.hid (D5.out.drew.step hg5 hc5); have V6 := Lib.hid (hV.out.next (by omega) d r d0 d1 r0 r1); have j6 : w5.cell? ⟨w3.heap.size, 1, none⟩ = some (.int .i64 (t + d)) := (J5.out.drew.grown hg5 hne).cell 1; have hw3 : IntKind.i64.wrap (t + d + 2 + r) = t + d + 2 + r := (by rw [IntKind.wrap_i64]; omega); clear hc5 hg5)
      all_goals
        go_wp2
        go_roundw
        case rel => exact ⟨k - 1, acc ++ [⟨t, t + d⟩], t + d + 2 + r, by simp; omega, by go_num, rfl, V6, D6⟩
        case measure => simp [intOf]; omega
    · go_wp2
      go_ret
      exact ⟨_, _, rfl, hV.out.1, by omega, hV.out.2.2.2.2, hD.out.2.2.1, hD.out.1, hD.out.2.1⟩

/-- What MakeWindows leaves. -/
def MadeWin (w : World) (e : Ending) (w' : World) : Prop := ∃ (A : Option Addr) (c : Nat) (l : List WindowD), e = .returned (.slice A l.length c) ∧ WOk l ∧ l.length ≤ 3 ∧ (∀ x ∈ l, x.tt < 1600) ∧ SlWindow w' (.slice A l.length c) l ∧ Below w.heap.size w w'

set_option maxHeartbeats 2000000 in
theorem makeWindows_any (A : Option Addr) (n c : Nat) (m : Int) (w : World) (hcode : CodeAt w A n) (hm : m ≤ 1000000) : Calls Try.prog 9 #[.slice A n c, .int .i64 m] w (MadeWin w) := by
  have C := Lib.hid (l28New_any A n c m w hcode hm)
  clear hcode
  go_enter Try.func9, Try.ntmps9
  go_wp2_with fail
  refine C.out.mono ?_
  rintro e w1 ⟨p, rfl, hp, hcur, hb1⟩
  have HC := Lib.hid hcur
  have B1 := Lib.hid hb1
  clear hcur hb1 C
  go_wp2_with fail
  refine (l04Draw_any p w1 HC.out).mono ?_
  rintro e w2 ⟨v, l, rfl, hok, hl, ht, hv, hc2, hg2⟩
  have B2 := Lib.hid (below_of_grown B1.out hg2 B1.out.size hp)
  have SL := Lib.hid (OwnWindow.sl hv (by omega))
  obtain ⟨A2, c2, rfl⟩ := own_form hv
  clear hv hc2 hg2
  go_wp2
  go_ret
  exact ⟨A2, c2, l, rfl, hok, hl, ht, SL.out, B2.out⟩
end Go.Proofs.Ytmjdlkninibocaa
