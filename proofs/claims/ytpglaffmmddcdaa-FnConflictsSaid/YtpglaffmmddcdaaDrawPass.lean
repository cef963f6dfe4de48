
/- A drawn passage (l08Passage): contract. -/
import Derived.Test.YtpglaffmmddcdaaDrawVar
import Derived.Test.YtpglaffmmddcdaaPassages
import Derived.Test.YtpglaffmmddcdaaMinutesOn
import Derived.Test.YtpglaffmmddcdaaChartFns
import Derived.Test.YtpglaffmmddcdaaDrawShip
import Derived.Deep.RegionHeld3
import Derived.Deep.DeepCutAuto
namespace Go.Proofs.Ytpglaffmmddcdaa
open Go.RowKit
set_option maxRecDepth 100000

/-- What holds while a passage is drawn: the chart's box, the result's cell. -/
def PsIn (w : World) (p : Nat) (cc : Array Value) (W : World) : Prop := Cursor W p ∧ w.grownBy W (some p) ∧ Blk W w.heap.size cc 26 ∧ Blk W (w.heap.size + 1) #[.int .i64 0, .int .i64 0, .bool false, .int .i64 0, .int .i64 0] 41 ∧ p < w.heap.size
/-- .. and its variable. -/
def PsVar (w : World) (p : Nat) (cc : Array Value) (g : Nat) (cs : Array Value) (W : World) : Prop := PsIn w p cc W ∧ Blk W g cs 41 ∧ w.heap.size + 2 ≤ g
section
variable {w W w3 : World} {p g : Nat} {cc cs : Array Value}
theorem PsIn.cur (h : PsIn w p cc W) : Cursor W p := h.1
theorem PsIn.step (h : PsIn w p cc W) (hg : W.grownBy w3 (some p)) (hc : Cursor w3 p) : PsIn w p cc w3 := by
  obtain ⟨h1, h2, h3, h4, h5⟩ := h
  exact ⟨hc, grown_trans h2 hg, h3.grown hg (by simp; omega), h4.grown hg (by simp; omega), h5⟩
theorem PsIn.below (h : PsIn w p cc W) (hb : Below W.heap.size W w3) : PsIn w p cc w3 := by
  obtain ⟨h1, h2, h3, h4, h5⟩ := h
  exact ⟨h1.below hb, grown_trans h2 (grown_of_below hb _), h3.below hb, h4.below hb, h5⟩
theorem PsIn.drew (h : PsIn w p cc W) : PsIn w p cc W.drew := h.below (Below.refl _ _).drew
theorem PsIn.seg (h : PsIn w p cc W) : W.cell? ⟨w.heap.size, 1, none⟩ = cc[1]? := h.2.2.1.cell 1
theorem PsVar.cur (h : PsVar w p cc g cs W) : Cursor W p := h.1.1
theorem PsVar.seg (h : PsVar w p cc g cs W) : W.cell? ⟨w.heap.size, 1, none⟩ = cc[1]? := h.1.seg
theorem PsVar.step (h : PsVar w p cc g cs W) (hg : W.grownBy w3 (some p)) (hc : Cursor w3 p) : PsVar w p cc g cs w3 := by
  obtain ⟨h1, h2, h3⟩ := h
  have := h1.2.2.2.2
  exact ⟨h1.step hg hc, h2.grown hg (by simp; omega), h3⟩
theorem PsVar.below (h : PsVar w p cc g cs W) (hb : Below W.heap.size W w3) : PsVar w p cc g cs w3 := ⟨h.1.below hb, h.2.1.below hb, h.2.2⟩
theorem PsVar.drew (h : PsVar w p cc g cs W) : PsVar w p cc g cs W.drew := h.below (Below.refl _ _).drew
theorem PsVar.new (h : PsIn w p cc W) (cs : Array Value) : PsVar w p cc W.heap.size cs (W.alloc (.cells cs 41)) := by
  have h1 := h.2.2.2.1.lt
  exact ⟨h.below (Joins.below_alloc1 _ _), Blk.new _ _ _, by omega⟩
theorem PsVar.set (h : PsVar w p cc g cs W) (j : Nat) (u : Value) : PsVar w p cc g (cs.setIfInBounds j u) (W.setCell ⟨g, j, none⟩ u) := by
  obtain ⟨⟨h1, h2, h3, h4, h5⟩, h6, h7⟩ := h
  exact ⟨⟨h1.set (by omega) j u, grown_setNew h2 (by omega) u, h3.other (by omega) j u, h4.other (by omega) j u, h5⟩, h6.set j u, h7⟩
end
/-- What a drawn passage leaves. -/
def DrawsPass (p : Nat) (w : World) (e : Ending) (w' : World) : Prop := ∃ q : PassageD, e = .returned q.val ∧ q.wf ∧ Cursor w' p ∧ w.grownBy w' (some p)

set_option maxHeartbeats 8000000 in
theorem l08Passage_any (p : Nat) (d : ChartD) (Ad0 : Option Addr) (cd0 : Nat) (Ad1 : Option Addr) (cd1 : Nat) (Af : Option Addr) (cf : Nat) (l : List ShipD) (w : World) (hcur : Cursor w p) (hcb : chartB d = true) (hn1 : 1 ≤ d.segs.length) (rs : SlSegment w (.slice Ad1 d.segs.length cd1) d.segs) (fs : (Value.slice Ad1 d.segs.length cd1).ownBlock ≠ some p)
    (hl1 : 1 ≤ l.length) (hl3 : l.length ≤ 3) (rl : SlShip w (.slice Af l.length cf) l) (fl : (Value.slice Af l.length cf).ownBlock ≠ some p) :
    Calls Try.prog 43 #[.pointer (some ⟨p, 0, none⟩), .agg #[.slice Ad0 d.points.length cd0, .slice Ad1 d.segs.length cd1], .slice Af l.length cf] w (DrawsPass p w) := by
  have hsl : d.segs.length ≤ 10 := by
    by_cases h : d.points.length ≤ 8 ∧ d.segs.length ≤ 10
    · exact h.2
    · rw [chartB_long h] at hcb; cases hcb
  obtain ⟨n0, hn0⟩ : ∃ n, d.points.length = n := ⟨_, rfl⟩
  obtain ⟨n1, hn1'⟩ : ∃ n, d.segs.length = n := ⟨_, rfl⟩
  obtain ⟨L, hL⟩ : ∃ n, l.length = n := ⟨_, rfl⟩
  have hp := hcur.lt
  have RS := Lib.hid rs
  have RL := Lib.hid rl
  have FS := Lib.hid fs
  have FL := Lib.hid fl
  have HN1 := Lib.hid hn1'
  have HL := Lib.hid hL
  have HCB := Lib.hid hcb
  rw [hn1'] at hn1 hsl
  rw [hL] at hl1 hl3
  rw [hn0, hn1', hL]
  have hb0 := Joins.below_alloc2 w (.cells #[.slice Ad0 n0 cd0, .slice Ad1 n1 cd1] 26) (.cells #[.int .i64 0, .int .i64 0, .bool false, .int .i64 0, .int .i64 0] 41)
  have K0 := (Blk.new w #[.slice Ad0 n0 cd0, .slice Ad1 n1 cd1] 26).below (Joins.below_alloc1 _ (.cells #[.int .i64 0, .int .i64 0, .bool false, .int .i64 0, .int .i64 0] 41))
  have J0 := Blk.new (w.alloc (.cells #[.slice Ad0 n0 cd0, .slice Ad1 n1 cd1] 26)) #[.int .i64 0, .int .i64 0, .bool false, .int .i64 0, .int .i64 0] 41
  rw [World.size_alloc] at J0
  obtain ⟨wq0, hwq0⟩ : ∃ W, W = (w.alloc (.cells #[.slice Ad0 n0 cd0, .slice Ad1 n1 cd1] 26)).alloc (.cells #[.int .i64 0, .int .i64 0, .bool false, .int .i64 0, .int .i64 0] 41) := ⟨_, rfl⟩
  rw [← hwq0] at hb0 K0 J0
  have P0 := Lib.hid (show PsIn w p #[.slice Ad0 n0 cd0, .slice Ad1 n1 cd1] wq0 from ⟨hcur.below hb0, grown_of_below hb0 _, K0, J0, hp⟩)
  have HW0 := Lib.hid hwq0
  clear rs rl fs fl hcur hcb hb0 K0 J0 hwq0 hn0 hn1' hL
  go_enter Try.func43, Try.ntmps43
  go_upto_region 1 with fail
  rw [← HW0.out]
  clear HW0
  go_cut [7] (fun s7 wx => ∃ (g : Nat) (x y : Int) (b : Bool) (z : Int), s7 = .pointer (some ⟨g, 0, none⟩) ∧ 0 ≤ x ∧ x < (L : Int) ∧ 0 ≤ y ∧ y < (n1 : Int) ∧ 0 ≤ z ∧ z < 200 ∧ Hid (PsVar w p #[.slice Ad0 n0 cd0, .slice Ad1 n1 cd1] g #[.int .i64 x, .int .i64 y, .bool b, .int .i64 z, .int .i64 0] wx))
  case first =>
    have QS := Lib.hid (P0.out.seg)
    have v0 := QS.out
    refine wp_region_held_drew (S := (fun w' => w'.cell? ⟨w.heap.size, 1, none⟩ = some (.slice Ad1 n1 cd1))) (by kernel_rfl) ?_ (fun hHeld => ?_)
    · (try dsimp only); go_keep
    refine wpAnyH_take (i := 0) (v := ?_) (by simp only [List.getElem?_toArray, List.getElem?_cons_zero]; rfl) (by kernel_rfl) (by kernel_rfl) (by kernel_rfl) (by exact fun _ _ _ h => h) (Or.inl ⟨by rfl, ?_⟩) (by assumption) ?_; rotate_left; focus (intro w hSw; (try dsimp only at hSw); first | (go_simp; done) | (go_simp; with_reducible rfl))
    (try simp only [Act.put]); (try simp only [List.setIfInBounds_toArray]); (try simp only [List.set_cons_succ]); (try simp only [List.set_cons_zero])
    refine wpAnyH_take (i := 1) (v := ?_) (by simp only [List.getElem?_toArray, List.getElem?_cons_succ, List.getElem?_cons_zero]; rfl) (by kernel_rfl) (by kernel_rfl) (by kernel_rfl) (by exact fun _ _ _ h => h) (Or.inl ⟨by rfl, ?_⟩) (by assumption) ?_; rotate_left; focus (intro w hSw; (try dsimp only at hSw); first | (go_simp; done) | (go_simp; with_reducible rfl))
    (try simp only [Act.put]); (try simp only [List.setIfInBounds_toArray]); (try simp only [List.set_cons_succ]); (try simp only [List.set_cons_zero])
    refine wpAnyH_take (i := 2) (v := ?_) (by simp only [List.getElem?_toArray, List.getElem?_cons_succ, List.getElem?_cons_zero]; rfl) (by kernel_rfl) (by kernel_rfl) (by kernel_rfl) (by exact fun _ _ _ h => h) (Or.inl ⟨by rfl, ?_⟩) (by assumption) ?_; rotate_left; focus (intro w hSw; (try dsimp only at hSw); first | (go_simp; done) | (go_simp; with_reducible rfl))
    (try simp only [Act.put]); (try simp only [List.setIfInBounds_toArray]); (try simp only [List.set_cons_succ]); (try simp only [List.set_cons_zero])
    refine wpAnyH_take (i := 4) (v := ?_) (by simp only [List.getElem?_toArray, List.getElem?_cons_succ, List.getElem?_cons_zero]; rfl) (by kernel_rfl) (by kernel_rfl) (by kernel_rfl) (by exact fun _ _ _ h => h) (Or.inl ⟨by rfl, ?_⟩) (by assumption) ?_; rotate_left; focus (intro w hSw; (try dsimp only at hSw); first | (go_simp; done) | (go_simp; with_reducible rfl))
    (try simp only [Act.put]); (try simp only [List.setIfInBounds_toArray]); (try simp only [List.set_cons_succ]); (try simp only [List.set_cons_zero])
    refine wpAnyH_take (i := 5) (v := ?_) (by simp only [List.getElem?_toArray, List.getElem?_cons_succ, List.getElem?_cons_zero]; rfl) (by kernel_rfl) (by kernel_rfl) (by kernel_rfl) (by exact fun _ _ _ h => h) (Or.inl ⟨by rfl, ?_⟩) (by assumption) ?_; rotate_left; focus (intro w hSw; (try dsimp only at hSw); first | (go_simp; done) | (go_simp; with_reducible rfl))
    (try simp only [Act.put]); (try simp only [List.setIfInBounds_toArray]); (try simp only [List.set_cons_succ]); (try simp only [List.set_cons_zero])
    refine wpAnyH_take (i := 6) (v := ?_) (by simp only [List.getElem?_toArray, List.getElem?_cons_succ, List.getElem?_cons_zero]; rfl) (by kernel_rfl) (by kernel_rfl) (by kernel_rfl) (by exact fun _ _ _ h => h) (Or.inl ⟨by rfl, ?_⟩) (by assumption) ?_; rotate_left; focus (intro w hSw; (try dsimp only at hSw); first | (go_simp; done) | (go_simp; with_reducible rfl))
    (try simp only [Act.put]); (try simp only [List.setIfInBounds_toArray]); (try simp only [List.set_cons_succ]); (try simp only [List.set_cons_zero])
    refine wpAnyH_take (i := 7) (v := ?_) (by simp only [List.getElem?_toArray, List.getElem?_cons_succ, List.getElem?_cons_zero]; rfl) (by kernel_rfl) (by kernel_rfl) (by kernel_rfl) (by exact fun _ _ _ h => h) (Or.inl ⟨by rfl, ?_⟩) (by assumption) ?_; rotate_left; focus (intro w hSw; (try dsimp only at hSw); first | (go_simp; done) | (go_simp; with_reducible rfl))
    (try simp only [Act.put]); (try simp only [List.setIfInBounds_toArray]); (try simp only [List.set_cons_succ]); (try simp only [List.set_cons_zero])
    refine wpAnyH_take (i := 9) (v := ?_) (by simp only [List.getElem?_toArray, List.getElem?_cons_succ, List.getElem?_cons_zero]; rfl) (by kernel_rfl) (by kernel_rfl) (by kernel_rfl) (by exact fun _ _ _ h => h) (Or.inl ⟨by rfl, ?_⟩) (by assumption) ?_; rotate_left; focus (intro w hSw; (try dsimp only at hSw); first | (go_simp; done) | (go_simp; with_reducible rfl))
    (try simp only [Act.put]); (try simp only [List.setIfInBounds_toArray]); (try simp only [List.set_cons_succ]); (try simp only [List.set_cons_zero])
    refine wpAnyH_take (i := 11) (v := ?_) (by simp only [List.getElem?_toArray, List.getElem?_cons_succ, List.getElem?_cons_zero]; rfl) (by kernel_rfl) (by kernel_rfl) (by kernel_rfl) (by exact fun _ _ _ h => h) (Or.inl ⟨by rfl, ?_⟩) (by assumption) ?_; rotate_left; focus (intro w hSw; (try dsimp only at hSw); first | (go_simp; done) | (go_simp; with_reducible rfl))
    (try simp only [Act.put]); (try simp only [List.setIfInBounds_toArray]); (try simp only [List.set_cons_succ]); (try simp only [List.set_cons_zero])
    refine wpAnyH_ready (rs := [3, 14]) (by kernel_rfl) (by simp) ?_
    refine AllReadyH.cons rfl (fun K hK => ?_) (AllReadyH.cons rfl (fun K hK => ?_) (AllReadyH.nil))
    · rw [if_pos (by rfl)]
      go_simp
      go_at_call 42
      refine (l01Below_any p (L : Int) _ (by omega) (by omega) P0.out.drew.cur).mono ?_
      rintro e wq1 ⟨x3, rfl, xa3, xb3, hc, hg⟩
      have P1 := Lib.hid (P0.out.drew.step hg hc)
      clear hc hg
      have QS := Lib.hid (P1.out.seg)
      go_simp
      refine hK.out _ _ QS.out (fun hHeld => ?_)
      clear hK K
      (try simp only [Act.put]); (try simp only [List.setIfInBounds_toArray]); (try simp only [List.set_cons_succ]); (try simp only [List.set_cons_zero])
      refine wpAnyH_ready (rs := [8, 14]) (by kernel_rfl) (by simp) ?_
      refine AllReadyH.cons rfl (fun K hK => ?_) (AllReadyH.cons rfl (fun K hK => ?_) (AllReadyH.nil))
      · rw [if_pos (by rfl)]
        go_simp
        go_at_call 42
        refine (l01Below_any p (n1 : Int) _ (by omega) (by omega) P1.out.cur).mono ?_
        rintro e wq2 ⟨x8, rfl, xa8, xb8, hc, hg⟩
        have P2 := Lib.hid (P1.out.step hg hc)
        clear hc hg
        have QS := Lib.hid (P2.out.seg)
        go_simp
        refine hK.out _ _ QS.out (fun hHeld => ?_)
        clear hK K
        (try simp only [Act.put]); (try simp only [List.setIfInBounds_toArray]); (try simp only [List.set_cons_succ]); (try simp only [List.set_cons_zero])
        refine wpAnyH_ready (rs := [10, 14]) (by kernel_rfl) (by simp) ?_
        refine AllReadyH.cons rfl (fun K hK => ?_) (AllReadyH.cons rfl (fun K hK => ?_) (AllReadyH.nil))
        · rw [if_pos (by rfl)]
          go_simp
          go_at_call 44
          refine (l01Once_any p 2 _ (by omega) (by omega) P2.out.cur).mono ?_
          rintro e wq3 ⟨b10, rfl, hc, hg⟩
          have P3 := Lib.hid (P2.out.step hg hc)
          clear hc hg
          have QS := Lib.hid (P3.out.seg)
          go_simp
          refine hK.out _ _ QS.out (fun hHeld => ?_)
          clear hK K
          (try simp only [Act.put]); (try simp only [List.setIfInBounds_toArray]); (try simp only [List.set_cons_succ]); (try simp only [List.set_cons_zero])
          refine wpAnyH_ready (rs := [12, 14]) (by kernel_rfl) (by simp) ?_
          refine AllReadyH.cons rfl (fun K hK => ?_) (AllReadyH.cons rfl (fun K hK => ?_) (AllReadyH.nil))
          · rw [if_pos (by rfl)]
            go_simp
            go_at_call 42
            refine (l01Below_any p 200 _ (by omega) (by omega) P3.out.cur).mono ?_
            rintro e wq4 ⟨x12, rfl, xa12, xb12, hc, hg⟩
            have P4 := Lib.hid (P3.out.step hg hc)
            clear hc hg
            have QS := Lib.hid (P4.out.seg)
            go_simp
            refine hK.out _ _ QS.out (fun hHeld => ?_)
            clear hK K
            (try simp only [Act.put]); (try simp only [List.setIfInBounds_toArray]); (try simp only [List.set_cons_succ]); (try simp only [List.set_cons_zero])
            refine wpAnyH_take (i := 13) (v := ?_) (by simp only [List.getElem?_toArray, List.getElem?_cons_succ, List.getElem?_cons_zero]; rfl) (by kernel_rfl) (by kernel_rfl) (by kernel_rfl) (by exact fun _ _ _ h => h) (Or.inl ⟨by rfl, ?_⟩) (by assumption) ?_; rotate_left; focus (intro w hSw; (try dsimp only at hSw); first | (go_simp; done) | (go_simp; with_reducible rfl))
            (try simp only [Act.put]); (try simp only [List.setIfInBounds_toArray]); (try simp only [List.set_cons_succ]); (try simp only [List.set_cons_zero])
            refine wpAnyH_ready (rs := [14]) (by kernel_rfl) (by simp) ?_
            refine AllReadyH.cons rfl (fun K hK => ?_) (AllReadyH.nil)
            rw [if_pos (by rfl)]
            go_simp
            have PN := PsVar.new P4.out #[.int .i64 0, .int .i64 0, .bool false, .int .i64 0, .int .i64 0]
            obtain ⟨wq5, hwq⟩ : ∃ W, W = wq4.alloc (.cells #[.int .i64 0, .int .i64 0, .bool false, .int .i64 0, .int .i64 0] 41) := ⟨_, rfl⟩
            obtain ⟨g, hgd⟩ : ∃ g, g = wq4.heap.size := ⟨_, rfl⟩
            rw [← hwq, ← hgd] at PN ⊢
            have P5 := Lib.hid PN
            clear PN hwq hgd
            have QS := Lib.hid (P5.out.seg)
            refine hK.out _ _ QS.out (fun hHeld => ?_)
            clear hK K
            (try simp only [Act.put]); (try simp only [List.setIfInBounds_toArray]); (try simp only [List.set_cons_succ]); (try simp only [List.set_cons_zero])
            refine wpAnyH_ready (rs := [15]) (by kernel_rfl) (by simp) ?_
            refine AllReadyH.cons rfl (fun K hK => ?_) (AllReadyH.nil)
            have r0 : wq5.cell? ⟨g, 0, none⟩ = some (.int .i64 0) := P5.out.2.1.cell 0
            have r1 : wq5.cell? ⟨g, 1, none⟩ = some (.int .i64 0) := P5.out.2.1.cell 1
            have r2 : wq5.cell? ⟨g, 2, none⟩ = some (.bool false) := P5.out.2.1.cell 2
            have r3 : wq5.cell? ⟨g, 3, none⟩ = some (.int .i64 0) := P5.out.2.1.cell 3
            have r4 : wq5.cell? ⟨g, 4, none⟩ = some (.int .i64 0) := P5.out.2.1.cell 4
            have s0 : wq5.frozen? ⟨g, 0, none⟩ = false := P5.out.2.1.free 0
            have s1 : wq5.frozen? ⟨g, 1, none⟩ = false := P5.out.2.1.free 1
            have s2 : wq5.frozen? ⟨g, 2, none⟩ = false := P5.out.2.1.free 2
            have s3 : wq5.frozen? ⟨g, 3, none⟩ = false := P5.out.2.1.free 3
            have s4 : wq5.frozen? ⟨g, 4, none⟩ = false := P5.out.2.1.free 4
            rw [if_pos (by rfl)]
            go_simp
            have PN := P5.out
            replace PN := PN.set 0 (.int .i64 x3)
            replace PN := PN.set 1 (.int .i64 x8)
            replace PN := PN.set 2 (.bool b10)
            replace PN := PN.set 3 (.int .i64 x12)
            replace PN := PN.set 4 (.int .i64 0)
            simp only [List.setIfInBounds_toArray, List.set_cons_zero, List.set_cons_succ] at PN
            obtain ⟨wq6, hwq⟩ : ∃ W, W = (((((wq5.setCell ⟨g, 0, none⟩ (.int .i64 x3)).setCell ⟨g, 1, none⟩ (.int .i64 x8)).setCell ⟨g, 2, none⟩ (.bool b10)).setCell ⟨g, 3, none⟩ (.int .i64 x12)).setCell ⟨g, 4, none⟩ (.int .i64 0)) := ⟨_, rfl⟩
            rw [← hwq] at PN ⊢
            have P6 := Lib.hid PN
            clear PN hwq r0 s0 r1 s1 r2 s2 r3 s3 r4 s4
            have QS := Lib.hid (P6.out.seg)
            refine hK.out _ _ QS.out (fun hHeld => ?_)
            clear hK K
            (try simp only [Act.put]); (try simp only [List.setIfInBounds_toArray]); (try simp only [List.set_cons_succ]); (try simp only [List.set_cons_zero])
            refine wpAnyH_done (by kernel_rfl) ?_ _
            go_wp2_with fail
            go_meet
            exact ⟨g, x3, x8, b10, x12, rfl, xa3, xb3, xa8, xb8, xa12, xb12, P6⟩
          · rw [if_pos (by rfl)]
            go_simp
            have PN := PsVar.new P3.out #[.int .i64 0, .int .i64 0, .bool false, .int .i64 0, .int .i64 0]
            obtain ⟨wq4, hwq⟩ : ∃ W, W = wq3.alloc (.cells #[.int .i64 0, .int .i64 0, .bool false, .int .i64 0, .int .i64 0] 41) := ⟨_, rfl⟩
            obtain ⟨g, hgd⟩ : ∃ g, g = wq3.heap.size := ⟨_, rfl⟩
            rw [← hwq, ← hgd] at PN ⊢
            have P4 := Lib.hid PN
            clear PN hwq hgd
            have QS := Lib.hid (P4.out.seg)
            refine hK.out _ _ QS.out (fun hHeld => ?_)
            clear hK K
            (try simp only [Act.put]); (try simp only [List.setIfInBounds_toArray]); (try simp only [List.set_cons_succ]); (try simp only [List.set_cons_zero])
            refine wpAnyH_ready (rs := [12]) (by kernel_rfl) (by simp) ?_
            refine AllReadyH.cons rfl (fun K hK => ?_) (AllReadyH.nil)
            rw [if_pos (by rfl)]
            go_simp
            go_at_call 42
            refine (l01Below_any p 200 _ (by omega) (by omega) P4.out.cur).mono ?_
            rintro e wq5 ⟨x12, rfl, xa12, xb12, hc, hg⟩
            have P5 := Lib.hid (P4.out.step hg hc)
            clear hc hg
            have QS := Lib.hid (P5.out.seg)
            go_simp
            refine hK.out _ _ QS.out (fun hHeld => ?_)
            clear hK K
            (try simp only [Act.put]); (try simp only [List.setIfInBounds_toArray]); (try simp only [List.set_cons_succ]); (try simp only [List.set_cons_zero])
            refine wpAnyH_take (i := 13) (v := ?_) (by simp only [List.getElem?_toArray, List.getElem?_cons_succ, List.getElem?_cons_zero]; rfl) (by kernel_rfl) (by kernel_rfl) (by kernel_rfl) (by exact fun _ _ _ h => h) (Or.inl ⟨by rfl, ?_⟩) (by assumption) ?_; rotate_left; focus (intro w hSw; (try dsimp only at hSw); first | (go_simp; done) | (go_simp; with_reducible rfl))
            (try simp only [Act.put]); (try simp only [List.setIfInBounds_toArray]); (try simp only [List.set_cons_succ]); (try simp only [List.set_cons_zero])
            refine wpAnyH_ready (rs := [15]) (by kernel_rfl) (by simp) ?_
            refine AllReadyH.cons rfl (fun K hK => ?_) (AllReadyH.nil)
            have r0 : wq5.cell? ⟨g, 0, none⟩ = some (.int .i64 0) := P5.out.2.1.cell 0
            have r1 : wq5.cell? ⟨g, 1, none⟩ = some (.int .i64 0) := P5.out.2.1.cell 1
            have r2 : wq5.cell? ⟨g, 2, none⟩ = some (.bool false) := P5.out.2.1.cell 2
            have r3 : wq5.cell? ⟨g, 3, none⟩ = some (.int .i64 0) := P5.out.2.1.cell 3
            have r4 : wq5.cell? ⟨g, 4, none⟩ = some (.int .i64 0) := P5.out.2.1.cell 4
            have s0 : wq5.frozen? ⟨g, 0, none⟩ = false := P5.out.2.1.free 0
            have s1 : wq5.frozen? ⟨g, 1, none⟩ = false := P5.out.2.1.free 1
            have s2 : wq5.frozen? ⟨g, 2, none⟩ = false := P5.out.2.1.free 2
            have s3 : wq5.frozen? ⟨g, 3, none⟩ = false := P5.out.2.1.free 3
            have s4 : wq5.frozen? ⟨g, 4, none⟩ = false := P5.out.2.1.free 4
            rw [if_pos (by rfl)]
            go_simp
            have PN := P5.out
            replace PN := PN.set 0 (.int .i64 x3)
            replace PN := PN.set 1 (.int .i64 x8)
            replace PN := PN.set 2 (.bool b10)
            replace PN := PN.set 3 (.int .i64 x12)
            replace PN := PN.set 4 (.int .i64 0)
            simp only [List.setIfInBounds_toArray, List.set_cons_zero, List.set_cons_succ] at PN
            obtain ⟨wq6, hwq⟩ : ∃ W, W = (((((wq5.setCell ⟨g, 0, none⟩ (.int .i64 x3)).setCell ⟨g, 1, none⟩ (.int .i64 x8)).setCell ⟨g, 2, none⟩ (.bool b10)).setCell ⟨g, 3, none⟩ (.int .i64 x12)).setCell ⟨g, 4, none⟩ (.int .i64 0)) := ⟨_, rfl⟩
            rw [← hwq] at PN ⊢
            have P6 := Lib.hid PN
            clear PN hwq r0 s0 r1 s1 r2 s2 r3 s3 r4 s4
            have QS := Lib.hid (P6.out.seg)
            refine hK.out _ _ QS.out (fun hHeld => ?_)
            clear hK K
            (try simp only [Act.put]); (try simp only [List.setIfInBounds_toArray]); (try simp only [List.set_cons_succ]); (try simp only [List.set_cons_zero])
            refine wpAnyH_done (by kernel_rfl) ?_ _
            go_wp2_with fail
            go_meet
            exact ⟨g, x3, x8, b10, x12, rfl, xa3, xb3, xa8, xb8, xa12, xb12, P6⟩
        · rw [if_pos (by rfl)]
          go_simp
          have PN := PsVar.new P2.out #[.int .i64 0, .int .i64 0, .bool false, .int .i64 0, .int .i64 0]
          obtain ⟨wq3, hwq⟩ : ∃ W, W = wq2.alloc (.cells #[.int .i64 0, .int .i64 0, .bool false, .int .i64 0, .int .i64 0] 41) := ⟨_, rfl⟩
          obtain ⟨g, hgd⟩ : ∃ g, g = wq2.heap.size := ⟨_, rfl⟩
          rw [← hwq, ← hgd] at PN ⊢
          have P3 := Lib.hid PN
          clear PN hwq hgd
          have QS := Lib.hid (P3.out.seg)
          refine hK.out _ _ QS.out (fun hHeld => ?_)
          clear hK K
          (try simp only [Act.put]); (try simp only [List.setIfInBounds_toArray]); (try simp only [List.set_cons_succ]); (try simp only [List.set_cons_zero])
          refine wpAnyH_ready (rs := [10]) (by kernel_rfl) (by simp) ?_
          refine AllReadyH.cons rfl (fun K hK => ?_) (AllReadyH.nil)
          rw [if_pos (by rfl)]
          go_simp
          go_at_call 44
          refine (l01Once_any p 2 _ (by omega) (by omega) P3.out.cur).mono ?_
          rintro e wq4 ⟨b10, rfl, hc, hg⟩
          have P4 := Lib.hid (P3.out.step hg hc)
          clear hc hg
          have QS := Lib.hid (P4.out.seg)
          go_simp
          refine hK.out _ _ QS.out (fun hHeld => ?_)
          clear hK K
          (try simp only [Act.put]); (try simp only [List.setIfInBounds_toArray]); (try simp only [List.set_cons_succ]); (try simp only [List.set_cons_zero])
          refine wpAnyH_ready (rs := [12]) (by kernel_rfl) (by simp) ?_
          refine AllReadyH.cons rfl (fun K hK => ?_) (AllReadyH.nil)
          rw [if_pos (by rfl)]
          go_simp
          go_at_call 42
          refine (l01Below_any p 200 _ (by omega) (by omega) P4.out.cur).mono ?_
          rintro e wq5 ⟨x12, rfl, xa12, xb12, hc, hg⟩
          have P5 := Lib.hid (P4.out.step hg hc)
          clear hc hg
          have QS := Lib.hid (P5.out.seg)
          go_simp
          refine hK.out _ _ QS.out (fun hHeld => ?_)
          clear hK K
          (try simp only [Act.put]); (try simp only [List.setIfInBounds_toArray]); (try simp only [List.set_cons_succ]); (try simp only [List.set_cons_zero])
          refine wpAnyH_take (i := 13) (v := ?_) (by simp only [List.getElem?_toArray, List.getElem?_cons_succ, List.getElem?_cons_zero]; rfl) (by kernel_rfl) (by kernel_rfl) (by kernel_rfl) (by exact fun _ _ _ h => h) (Or.inl ⟨by rfl, ?_⟩) (by assumption) ?_; rotate_left; focus (intro w hSw; (try dsimp only at hSw); first | (go_simp; done) | (go_simp; with_reducible rfl))
          (try simp only [Act.put]); (try simp only [List.setIfInBounds_toArray]); (try simp only [List.set_cons_succ]); (try simp only [List.set_cons_zero])
          refine wpAnyH_ready (rs := [15]) (by kernel_rfl) (by simp) ?_
          refine AllReadyH.cons rfl (fun K hK => ?_) (AllReadyH.nil)
          have r0 : wq5.cell? ⟨g, 0, none⟩ = some (.int .i64 0) := P5.out.2.1.cell 0
          have r1 : wq5.cell? ⟨g, 1, none⟩ = some (.int .i64 0) := P5.out.2.1.cell 1
          have r2 : wq5.cell? ⟨g, 2, none⟩ = some (.bool false) := P5.out.2.1.cell 2
          have r3 : wq5.cell? ⟨g, 3, none⟩ = some (.int .i64 0) := P5.out.2.1.cell 3
          have r4 : wq5.cell? ⟨g, 4, none⟩ = some (.int .i64 0) := P5.out.2.1.cell 4
          have s0 : wq5.frozen? ⟨g, 0, none⟩ = false := P5.out.2.1.free 0
          have s1 : wq5.frozen? ⟨g, 1, none⟩ = false := P5.out.2.1.free 1
          have s2 : wq5.frozen? ⟨g, 2, none⟩ = false := P5.out.2.1.free 2
          have s3 : wq5.frozen? ⟨g, 3, none⟩ = false := P5.out.2.1.free 3
          have s4 : wq5.frozen? ⟨g, 4, none⟩ = false := P5.out.2.1.free 4
          rw [if_pos (by rfl)]
          go_simp
          have PN := P5.out
          replace PN := PN.set 0 (.int .i64 x3)
          replace PN := PN.set 1 (.int .i64 x8)
          replace PN := PN.set 2 (.bool b10)
          replace PN := PN.set 3 (.int .i64 x12)
          replace PN := PN.set 4 (.int .i64 0)
          simp only [List.setIfInBounds_toArray, List.set_cons_zero, List.set_cons_succ] at PN
          obtain ⟨wq6, hwq⟩ : ∃ W, W = (((((wq5.setCell ⟨g, 0, none⟩ (.int .i64 x3)).setCell ⟨g, 1, none⟩ (.int .i64 x8)).setCell ⟨g, 2, none⟩ (.bool b10)).setCell ⟨g, 3, none⟩ (.int .i64 x12)).setCell ⟨g, 4, none⟩ (.int .i64 0)) := ⟨_, rfl⟩
          rw [← hwq] at PN ⊢
          have P6 := Lib.hid PN
          clear PN hwq r0 s0 r1 s1 r2 s2 r3 s3 r4 s4
          have QS := Lib.hid (P6.out.seg)
          refine hK.out _ _ QS.out (fun hHeld => ?_)
          clear hK K
          (try simp only [Act.put]); (try simp only [List.setIfInBounds_toArray]); (try simp only [List.set_cons_succ]); (try simp only [List.set_cons_zero])
          refine wpAnyH_done (by kernel_rfl) ?_ _
          go_wp2_with fail
          go_meet
          exact ⟨g, x3, x8, b10, x12, rfl, xa3, xb3, xa8, xb8, xa12, xb12, P6⟩
      · rw [if_pos (by rfl)]
        go_simp
        have PN := PsVar.new P1.out #[.int .i64 0, .int .i64 0, .bool false, .int .i64 0, .int .i64 0]
        obtain ⟨wq2, hwq⟩ : ∃ W, W = wq1.alloc (.cells #[.int .i64 0, .int .i64 0, .bool false, .int .i64 0, .int .i64 0] 41) := ⟨_, rfl⟩
        obtain ⟨g, hgd⟩ : ∃ g, g = wq1.heap.size := ⟨_, rfl⟩
        rw [← hwq, ← hgd] at PN ⊢
        have P2 := Lib.hid PN
        clear PN hwq hgd
        have QS := Lib.hid (P2.out.seg)
        refine hK.out _ _ QS.out (fun hHeld => ?_)
        clear hK K
        (try simp only [Act.put]); (try simp only [List.setIfInBounds_toArray]); (try simp only [List.set_cons_succ]); (try simp only [List.set_cons_zero])
        refine wpAnyH_ready (rs := [8]) (by kernel_rfl) (by simp) ?_
        refine AllReadyH.cons rfl (fun K hK => ?_) (AllReadyH.nil)
        rw [if_pos (by rfl)]
        go_simp
        go_at_call 42
        refine (l01Below_any p (n1 : Int) _ (by omega) (by omega) P2.out.cur).mono ?_
        rintro e wq3 ⟨x8, rfl, xa8, xb8, hc, hg⟩
        have P3 := Lib.hid (P2.out.step hg hc)
        clear hc hg
        have QS := Lib.hid (P3.out.seg)
        go_simp
        refine hK.out _ _ QS.out (fun hHeld => ?_)
        clear hK K
        (try simp only [Act.put]); (try simp only [List.setIfInBounds_toArray]); (try simp only [List.set_cons_succ]); (try simp only [List.set_cons_zero])
        refine wpAnyH_ready (rs := [10]) (by kernel_rfl) (by simp) ?_
        refine AllReadyH.cons rfl (fun K hK => ?_) (AllReadyH.nil)
        rw [if_pos (by rfl)]
        go_simp
        go_at_call 44
        refine (l01Once_any p 2 _ (by omega) (by omega) P3.out.cur).mono ?_
        rintro e wq4 ⟨b10, rfl, hc, hg⟩
        have P4 := Lib.hid (P3.out.step hg hc)
        clear hc hg
        have QS := Lib.hid (P4.out.seg)
        go_simp
        refine hK.out _ _ QS.out (fun hHeld => ?_)
        clear hK K
        (try simp only [Act.put]); (try simp only [List.setIfInBounds_toArray]); (try simp only [List.set_cons_succ]); (try simp only [List.set_cons_zero])
        refine wpAnyH_ready (rs := [12]) (by kernel_rfl) (by simp) ?_
        refine AllReadyH.cons rfl (fun K hK => ?_) (AllReadyH.nil)
        rw [if_pos (by rfl)]
        go_simp
        go_at_call 42
        refine (l01Below_any p 200 _ (by omega) (by omega) P4.out.cur).mono ?_
        rintro e wq5 ⟨x12, rfl, xa12, xb12, hc, hg⟩
        have P5 := Lib.hid (P4.out.step hg hc)
        clear hc hg
        have QS := Lib.hid (P5.out.seg)
        go_simp
        refine hK.out _ _ QS.out (fun hHeld => ?_)
        clear hK K
        (try simp only [Act.put]); (try simp only [List.setIfInBounds_toArray]); (try simp only [List.set_cons_succ]); (try simp only [List.set_cons_zero])
        refine wpAnyH_take (i := 13) (v := ?_) (by simp only [List.getElem?_toArray, List.getElem?_cons_succ, List.getElem?_cons_zero]; rfl) (by kernel_rfl) (by kernel_rfl) (by kernel_rfl) (by exact fun _ _ _ h => h) (Or.inl ⟨by rfl, ?_⟩) (by assumption) ?_; rotate_left; focus (intro w hSw; (try dsimp only at hSw); first | (go_simp; done) | (go_simp; with_reducible rfl))
        (try simp only [Act.put]); (try simp only [List.setIfInBounds_toArray]); (try simp only [List.set_cons_succ]); (try simp only [List.set_cons_zero])
        refine wpAnyH_ready (rs := [15]) (by kernel_rfl) (by simp) ?_
        refine AllReadyH.cons rfl (fun K hK => ?_) (AllReadyH.nil)
        have r0 : wq5.cell? ⟨g, 0, none⟩ = some (.int .i64 0) := P5.out.2.1.cell 0
        have r1 : wq5.cell? ⟨g, 1, none⟩ = some (.int .i64 0) := P5.out.2.1.cell 1
        have r2 : wq5.cell? ⟨g, 2, none⟩ = some (.bool false) := P5.out.2.1.cell 2
        have r3 : wq5.cell? ⟨g, 3, none⟩ = some (.int .i64 0) := P5.out.2.1.cell 3
        have r4 : wq5.cell? ⟨g, 4, none⟩ = some (.int .i64 0) := P5.out.2.1.cell 4
        have s0 : wq5.frozen? ⟨g, 0, none⟩ = false := P5.out.2.1.free 0
        have s1 : wq5.frozen? ⟨g, 1, none⟩ = false := P5.out.2.1.free 1
        have s2 : wq5.frozen? ⟨g, 2, none⟩ = false := P5.out.2.1.free 2
        have s3 : wq5.frozen? ⟨g, 3, none⟩ = false := P5.out.2.1.free 3
        have s4 : wq5.frozen? ⟨g, 4, none⟩ = false := P5.out.2.1.free 4
        rw [if_pos (by rfl)]
        go_simp
        have PN := P5.out
        replace PN := PN.set 0 (.int .i64 x3)
        replace PN := PN.set 1 (.int .i64 x8)
        replace PN := PN.set 2 (.bool b10)
        replace PN := PN.set 3 (.int .i64 x12)
        replace PN := PN.set 4 (.int .i64 0)
        simp only [List.setIfInBounds_toArray, List.set_cons_zero, List.set_cons_succ] at PN
        obtain ⟨wq6, hwq⟩ : ∃ W, W = (((((wq5.setCell ⟨g, 0, none⟩ (.int .i64 x3)).setCell ⟨g, 1, none⟩ (.int .i64 x8)).setCell ⟨g, 2, none⟩ (.bool b10)).setCell ⟨g, 3, none⟩ (.int .i64 x12)).setCell ⟨g, 4, none⟩ (.int .i64 0)) := ⟨_, rfl⟩
        rw [← hwq] at PN ⊢
        have P6 := Lib.hid PN
        clear PN hwq r0 s0 r1 s1 r2 s2 r3 s3 r4 s4
        have QS := Lib.hid (P6.out.seg)
        refine hK.out _ _ QS.out (fun hHeld => ?_)
        clear hK K
        (try simp only [Act.put]); (try simp only [List.setIfInBounds_toArray]); (try simp only [List.set_cons_succ]); (try simp only [List.set_cons_zero])
        refine wpAnyH_done (by kernel_rfl) ?_ _
        go_wp2_with fail
        go_meet
        exact ⟨g, x3, x8, b10, x12, rfl, xa3, xb3, xa8, xb8, xa12, xb12, P6⟩
    · rw [if_pos (by rfl)]
      go_simp
      have PN := PsVar.new P0.out #[.int .i64 0, .int .i64 0, .bool false, .int .i64 0, .int .i64 0]
      replace PN := PN.drew
      obtain ⟨wq1, hwq⟩ : ∃ W, W = (wq0.alloc (.cells #[.int .i64 0, .int .i64 0, .bool false, .int .i64 0, .int .i64 0] 41)).drew := ⟨_, rfl⟩
      obtain ⟨g, hgd⟩ : ∃ g, g = wq0.heap.size := ⟨_, rfl⟩
      rw [← hwq, ← hgd] at PN ⊢
      have P1 := Lib.hid PN
      clear PN hwq hgd
      have QS := Lib.hid (P1.out.seg)
      refine hK.out _ _ QS.out (fun hHeld => ?_)
      clear hK K
      (try simp only [Act.put]); (try simp only [List.setIfInBounds_toArray]); (try simp only [List.set_cons_succ]); (try simp only [List.set_cons_zero])
      refine wpAnyH_ready (rs := [3]) (by kernel_rfl) (by simp) ?_
      refine AllReadyH.cons rfl (fun K hK => ?_) (AllReadyH.nil)
      rw [if_pos (by rfl)]
      go_simp
      go_at_call 42
      refine (l01Below_any p (L : Int) _ (by omega) (by omega) P1.out.cur).mono ?_
      rintro e wq2 ⟨x3, rfl, xa3, xb3, hc, hg⟩
      have P2 := Lib.hid (P1.out.step hg hc)
      clear hc hg
      have QS := Lib.hid (P2.out.seg)
      go_simp
      refine hK.out _ _ QS.out (fun hHeld => ?_)
      clear hK K
      (try simp only [Act.put]); (try simp only [List.setIfInBounds_toArray]); (try simp only [List.set_cons_succ]); (try simp only [List.set_cons_zero])
      refine wpAnyH_ready (rs := [8]) (by kernel_rfl) (by simp) ?_
      refine AllReadyH.cons rfl (fun K hK => ?_) (AllReadyH.nil)
      rw [if_pos (by rfl)]
      go_simp
      go_at_call 42
      refine (l01Below_any p (n1 : Int) _ (by omega) (by omega) P2.out.cur).mono ?_
      rintro e wq3 ⟨x8, rfl, xa8, xb8, hc, hg⟩
      have P3 := Lib.hid (P2.out.step hg hc)
      clear hc hg
      have QS := Lib.hid (P3.out.seg)
      go_simp
      refine hK.out _ _ QS.out (fun hHeld => ?_)
      clear hK K
      (try simp only [Act.put]); (try simp only [List.setIfInBounds_toArray]); (try simp only [List.set_cons_succ]); (try simp only [List.set_cons_zero])
      refine wpAnyH_ready (rs := [10]) (by kernel_rfl) (by simp) ?_
      refine AllReadyH.cons rfl (fun K hK => ?_) (AllReadyH.nil)
      rw [if_pos (by rfl)]
      go_simp
      go_at_call 44
      refine (l01Once_any p 2 _ (by omega) (by omega) P3.out.cur).mono ?_
      rintro e wq4 ⟨b10, rfl, hc, hg⟩
      have P4 := Lib.hid (P3.out.step hg hc)
      clear hc hg
      have QS := Lib.hid (P4.out.seg)
      go_simp
      refine hK.out _ _ QS.out (fun hHeld => ?_)
      clear hK K
      (try simp only [Act.put]); (try simp only [List.setIfInBounds_toArray]); (try simp only [List.set_cons_succ]); (try simp only [List.set_cons_zero])
      refine wpAnyH_ready (rs := [12]) (by kernel_rfl) (by simp) ?_
      refine AllReadyH.cons rfl (fun K hK => ?_) (AllReadyH.nil)
      rw [if_pos (by rfl)]
      go_simp
      go_at_call 42
      refine (l01Below_any p 200 _ (by omega) (by omega) P4.out.cur).mono ?_
      rintro e wq5 ⟨x12, rfl, xa12, xb12, hc, hg⟩
      have P5 := Lib.hid (P4.out.step hg hc)
      clear hc hg
      have QS := Lib.hid (P5.out.seg)
      go_simp
      refine hK.out _ _ QS.out (fun hHeld => ?_)
      clear hK K
      (try simp only [Act.put]); (try simp only [List.setIfInBounds_toArray]); (try simp only [List.set_cons_succ]); (try simp only [List.set_cons_zero])
      refine wpAnyH_take (i := 13) (v := ?_) (by simp only [List.getElem?_toArray, List.getElem?_cons_succ, List.getElem?_cons_zero]; rfl) (by kernel_rfl) (by kernel_rfl) (by kernel_rfl) (by exact fun _ _ _ h => h) (Or.inl ⟨by rfl, ?_⟩) (by assumption) ?_; rotate_left; focus (intro w hSw; (try dsimp only at hSw); first | (go_simp; done) | (go_simp; with_reducible rfl))
      (try simp only [Act.put]); (try simp only [List.setIfInBounds_toArray]); (try simp only [List.set_cons_succ]); (try simp only [List.set_cons_zero])
      refine wpAnyH_ready (rs := [15]) (by kernel_rfl) (by simp) ?_
      refine AllReadyH.cons rfl (fun K hK => ?_) (AllReadyH.nil)
      have r0 : wq5.cell? ⟨g, 0, none⟩ = some (.int .i64 0) := P5.out.2.1.cell 0
      have r1 : wq5.cell? ⟨g, 1, none⟩ = some (.int .i64 0) := P5.out.2.1.cell 1
      have r2 : wq5.cell? ⟨g, 2, none⟩ = some (.bool false) := P5.out.2.1.cell 2
      have r3 : wq5.cell? ⟨g, 3, none⟩ = some (.int .i64 0) := P5.out.2.1.cell 3
      have r4 : wq5.cell? ⟨g, 4, none⟩ = some (.int .i64 0) := P5.out.2.1.cell 4
      have s0 : wq5.frozen? ⟨g, 0, none⟩ = false := P5.out.2.1.free 0
      have s1 : wq5.frozen? ⟨g, 1, none⟩ = false := P5.out.2.1.free 1
      have s2 : wq5.frozen? ⟨g, 2, none⟩ = false := P5.out.2.1.free 2
      have s3 : wq5.frozen? ⟨g, 3, none⟩ = false := P5.out.2.1.free 3
      have s4 : wq5.frozen? ⟨g, 4, none⟩ = false := P5.out.2.1.free 4
      rw [if_pos (by rfl)]
      go_simp
      have PN := P5.out
      replace PN := PN.set 0 (.int .i64 x3)
      replace PN := PN.set 1 (.int .i64 x8)
      replace PN := PN.set 2 (.bool b10)
      replace PN := PN.set 3 (.int .i64 x12)
      replace PN := PN.set 4 (.int .i64 0)
      simp only [List.setIfInBounds_toArray, List.set_cons_zero, List.set_cons_succ] at PN
      obtain ⟨wq6, hwq⟩ : ∃ W, W = (((((wq5.setCell ⟨g, 0, none⟩ (.int .i64 x3)).setCell ⟨g, 1, none⟩ (.int .i64 x8)).setCell ⟨g, 2, none⟩ (.bool b10)).setCell ⟨g, 3, none⟩ (.int .i64 x12)).setCell ⟨g, 4, none⟩ (.int .i64 0)) := ⟨_, rfl⟩
      rw [← hwq] at PN ⊢
      have P6 := Lib.hid PN
      clear PN hwq r0 s0 r1 s1 r2 s2 r3 s3 r4 s4
      have QS := Lib.hid (P6.out.seg)
      refine hK.out _ _ QS.out (fun hHeld => ?_)
      clear hK K
      (try simp only [Act.put]); (try simp only [List.setIfInBounds_toArray]); (try simp only [List.set_cons_succ]); (try simp only [List.set_cons_zero])
      refine wpAnyH_done (by kernel_rfl) ?_ _
      go_wp2_with fail
      go_meet
      exact ⟨g, x3, x8, b10, x12, rfl, xa3, xb3, xa8, xb8, xa12, xb12, P6⟩
  case rest =>
    obtain ⟨g, x, y, b, z, rfl, x0, x1, y0, y1, z0, z1, hP⟩ := hcut
    obtain ⟨w1, rfl⟩ : ∃ W, W = wc := ⟨_, rfl⟩
    obtain ⟨i, rfl⟩ : ∃ i : Nat, x = (i : Int) := ⟨x.toNat, by omega⟩
    obtain ⟨k, rfl⟩ : ∃ k : Nat, y = (k : Int) := ⟨y.toNat, by omega⟩
    obtain ⟨s, hs⟩ : ∃ s, l[i]? = some s := ⟨_, List.getElem?_eq_getElem (by have := HL.out; omega)⟩
    obtain ⟨sg, hsg⟩ : ∃ s, d.segs[k]? = some s := ⟨_, List.getElem?_eq_getElem (by have := HN1.out; omega)⟩
    obtain ⟨-, -, -, -, -, -, -, gm0, gm1⟩ := segB_true (chartB_seg HCB.out hsg)
    rcases RS.out.2 with ⟨he, _⟩ | ⟨g', o', c', e, dpos, dcap, dc⟩
    · rw [he] at hsg; simp at hsg
    injection e with hA' _ hcp'
    subst hA' hcp'
    obtain ⟨b0, b1, b2, b3, b4⟩ := SlSegment.cells dc k sg hsg
    rcases RL.out.2 with ⟨he, _⟩ | ⟨gs, os, cs', e, spos, scap, sc⟩
    · rw [he] at hs; simp at hs
    injection e with hA' _ hcp'
    subst hA' hcp'
    obtain ⟨t0, t1, t2, t3, t4, t5⟩ := SlShip.cells sc i s hs
    have G1 : g' < w.heap.size := World.block_lt_of_cell? w _ b0
    have G2 : gs < w.heap.size := World.block_lt_of_cell? w _ t0
    have N1 : some g' ≠ some p := FS.out
    have N2 : some gs ≠ some p := FL.out
    have hgr := hP.out.1.2.1
    have hge := hP.out.2.2
    have a0 := (hgr.cell_far _ (World.block_lt_of_cell? _ _ b0) N1).trans b0
    have a1 := (hgr.cell_far _ (World.block_lt_of_cell? _ _ b1) N1).trans b1
    have a2 := (hgr.cell_far _ (World.block_lt_of_cell? _ _ b2) N1).trans b2
    have a3 := (hgr.cell_far _ (World.block_lt_of_cell? _ _ b3) N1).trans b3
    have a4 := (hgr.cell_far _ (World.block_lt_of_cell? _ _ b4) N1).trans b4
    have q0 := (hgr.cell_far _ (World.block_lt_of_cell? _ _ t0) N2).trans t0
    have q1 := (hgr.cell_far _ (World.block_lt_of_cell? _ _ t1) N2).trans t1
    have q2 := (hgr.cell_far _ (World.block_lt_of_cell? _ _ t2) N2).trans t2
    have q3 := (hgr.cell_far _ (World.block_lt_of_cell? _ _ t3) N2).trans t3
    have q4 := (hgr.cell_far _ (World.block_lt_of_cell? _ _ t4) N2).trans t4
    have q5 := (hgr.cell_far _ (World.block_lt_of_cell? _ _ t5) N2).trans t5
    have A0 := Lib.hid a0
    have A1 := Lib.hid a1
    have A2 := Lib.hid a2
    have A3 := Lib.hid a3
    have A4 := Lib.hid a4
    have Q0 := Lib.hid q0
    have Q1 := Lib.hid q1
    have Q2 := Lib.hid q2
    have Q3 := Lib.hid q3
    have Q4 := Lib.hid q4
    have Q5 := Lib.hid q5
    have hon : 1 ≤ onMin sg s ∧ onMin sg s ≤ 480 := by unfold onMin; split <;> omega
    obtain ⟨on0, on1⟩ := hon
    obtain ⟨m, hm⟩ : ∃ m, onMin sg s = m := ⟨_, rfl⟩
    rw [hm] at on0 on1
    have HM := Lib.hid hm
    have wsum : IntKind.i64.wrap (z + m) = z + m := by rw [IntKind.wrap_i64]; omega
    clear dc sc hgr N1 N2 b0 b1 b2 b3 b4 t0 t1 t2 t3 t4 t5 a0 a1 a2 a3 a4 q0 q1 q2 q3 q4 q5 hs hsg hm P0 RS RL FS FL HCB HL HN1 hl1 hn1
    have F0 := Lib.hid (show w1.cell? ⟨w.heap.size, 1, none⟩ = some (.slice (some ⟨g', o', none⟩) n1 cd1) from hP.out.seg)
    have v0 := F0.out
    have F1 := Lib.hid (show w1.cell? ⟨g, 0, none⟩ = some (.int .i64 (i : Int)) from hP.out.2.1.cell 0)
    have v1 := F1.out
    have F2 := Lib.hid (show w1.cell? ⟨g, 1, none⟩ = some (.int .i64 (k : Int)) from hP.out.2.1.cell 1)
    have v2 := F2.out
    have F3 := Lib.hid (show w1.cell? ⟨g, 3, none⟩ = some (.int .i64 z) from hP.out.2.1.cell 3)
    have v3 := F3.out
    have F4 := Lib.hid (show w1.cell? ⟨g', o' + k * 5, none⟩ = some (.int .i64 sg.a) from A0.out)
    have v4 := F4.out
    have F5 := Lib.hid (show w1.cell? ⟨g', o' + k * 5 + 1, none⟩ = some (.int .i64 sg.b) from A1.out)
    have v5 := F5.out
    have F6 := Lib.hid (show w1.cell? ⟨g', o' + k * 5 + 2, none⟩ = some (.int .i64 sg.depth) from A2.out)
    have v6 := F6.out
    have F7 := Lib.hid (show w1.cell? ⟨g', o' + k * 5 + 3, none⟩ = some (.int .i64 sg.minutes) from A3.out)
    have v7 := F7.out
    have F8 := Lib.hid (show w1.cell? ⟨g', o' + k * 5 + 4, none⟩ = some (.bool sg.meet) from A4.out)
    have v8 := F8.out
    have F9 := Lib.hid (show w1.cell? ⟨gs, os + i * 6, none⟩ = some (.string s.name) from Q0.out)
    have v9 := F9.out
    have F10 := Lib.hid (show w1.cell? ⟨gs, os + i * 6 + 1, none⟩ = some (.int .i64 s.length) from Q1.out)
    have v10 := F10.out
    have F11 := Lib.hid (show w1.cell? ⟨gs, os + i * 6 + 2, none⟩ = some (.int .i64 s.draught) from Q2.out)
    have v11 := F11.out
    have F12 := Lib.hid (show w1.cell? ⟨gs, os + i * 6 + 3, none⟩ = some (.int .i64 s.line) from Q3.out)
    have v12 := F12.out
    have F13 := Lib.hid (show w1.cell? ⟨gs, os + i * 6 + 4, none⟩ = some (.int .i64 s.tugs) from Q4.out)
    have v13 := F13.out
    have F14 := Lib.hid (show w1.cell? ⟨gs, os + i * 6 + 5, none⟩ = some (.bool s.slow) from Q5.out)
    have v14 := F14.out
    go_upto_region 2 with fail
    have hqw : PassageD.wf ⟨(i : Int), (k : Int), b, z, z + m⟩ := by
      refine ⟨?_, ?_, ?_, ?_⟩ <;> (dsimp only; exact WalkArith.wf_i64 (by omega))
    have HQW := Lib.hid hqw
    clear hqw
    refine wp_region_held_drew (S := (fun w' => w'.cell? ⟨w.heap.size, 1, none⟩ = some (.slice (some ⟨g', o', none⟩) n1 cd1) ∧ w'.cell? ⟨g, 0, none⟩ = some (.int .i64 (i : Int)) ∧ w'.cell? ⟨g, 1, none⟩ = some (.int .i64 (k : Int)) ∧ w'.cell? ⟨g, 3, none⟩ = some (.int .i64 z) ∧ w'.cell? ⟨g', o' + k * 5, none⟩ = some (.int .i64 sg.a) ∧ w'.cell? ⟨g', o' + k * 5 + 1, none⟩ = some (.int .i64 sg.b) ∧ w'.cell? ⟨g', o' + k * 5 + 2, none⟩ = some (.int .i64 sg.depth) ∧ w'.cell? ⟨g', o' + k * 5 + 3, none⟩ = some (.int .i64 sg.minutes) ∧ w'.cell? ⟨g', o' + k * 5 + 4, none⟩ = some (.bool sg.meet) ∧ w'.cell? ⟨gs, os + i * 6, none⟩ = some (.string s.name) ∧ w'.cell? ⟨gs, os + i * 6 + 1, none⟩ = some (.int .i64 s.length) ∧ w'.cell? ⟨gs, os + i * 6 + 2, none⟩ = some (.int .i64 s.draught) ∧ w'.cell? ⟨gs, os + i * 6 + 3, none⟩ = some (.int .i64 s.line) ∧ w'.cell? ⟨gs, os + i * 6 + 4, none⟩ = some (.int .i64 s.tugs) ∧ w'.cell? ⟨gs, os + i * 6 + 5, none⟩ = some (.bool s.slow))) (by kernel_rfl) ?_ (fun hHeld => ?_)
    · (try dsimp only); go_keep
    refine wpAnyH_take (i := 0) (v := ?_) (by simp only [List.getElem?_toArray, List.getElem?_cons_zero]; rfl) (by kernel_rfl) (by kernel_rfl) (by kernel_rfl) (by exact fun _ _ _ h => h) (Or.inl ⟨by rfl, ?_⟩) (by assumption) ?_; rotate_left; focus (intro w hSw; (try dsimp only at hSw); first | (go_simp; done) | (go_simp; with_reducible rfl))
    (try simp only [Act.put]); (try simp only [List.setIfInBounds_toArray]); (try simp only [List.set_cons_succ]); (try simp only [List.set_cons_zero])
    refine wpAnyH_take (i := 1) (v := ?_) (by simp only [List.getElem?_toArray, List.getElem?_cons_succ, List.getElem?_cons_zero]; rfl) (by kernel_rfl) (by kernel_rfl) (by kernel_rfl) (by exact fun _ _ _ h => h) (Or.inl ⟨by rfl, ?_⟩) (by assumption) ?_; rotate_left; focus (intro w hSw; (try dsimp only at hSw); first | (go_simp; done) | (go_simp; with_reducible rfl))
    (try simp only [Act.put]); (try simp only [List.setIfInBounds_toArray]); (try simp only [List.set_cons_succ]); (try simp only [List.set_cons_zero])
    refine wpAnyH_take (i := 2) (v := ?_) (by simp only [List.getElem?_toArray, List.getElem?_cons_succ, List.getElem?_cons_zero]; rfl) (by kernel_rfl) (by kernel_rfl) (by kernel_rfl) (by exact fun _ _ _ h => h) (Or.inl ⟨by rfl, ?_⟩) (by assumption) ?_; rotate_left; focus (intro w hSw; (try dsimp only at hSw); first | (go_simp; done) | (go_simp; with_reducible rfl))
    (try simp only [Act.put]); (try simp only [List.setIfInBounds_toArray]); (try simp only [List.set_cons_succ]); (try simp only [List.set_cons_zero])
    refine wpAnyH_take (i := 3) (v := ?_) (by simp only [List.getElem?_toArray, List.getElem?_cons_succ, List.getElem?_cons_zero]; rfl) (by kernel_rfl) (by kernel_rfl) (by kernel_rfl) (by exact fun _ _ _ h => h) (Or.inl ⟨by rfl, ?_⟩) (by assumption) ?_; rotate_left; focus (intro w hSw; (try dsimp only at hSw); first | (go_simp; done) | (go_simp; with_reducible rfl))
    (try simp only [Act.put]); (try simp only [List.setIfInBounds_toArray]); (try simp only [List.set_cons_succ]); (try simp only [List.set_cons_zero])
    refine wpAnyH_take (i := 4) (v := ?_) (by simp only [List.getElem?_toArray, List.getElem?_cons_succ, List.getElem?_cons_zero]; rfl) (by kernel_rfl) (by kernel_rfl) (by kernel_rfl) (by exact fun _ _ _ h => h) (Or.inl ⟨by rfl, ?_⟩) (by assumption) ?_; rotate_left; focus (intro w hSw; (try dsimp only at hSw); first | (go_simp; done) | (go_simp; with_reducible rfl))
    (try simp only [Act.put]); (try simp only [List.setIfInBounds_toArray]); (try simp only [List.set_cons_succ]); (try simp only [List.set_cons_zero])
    refine wpAnyH_take (i := 5) (v := ?_) (by simp only [List.getElem?_toArray, List.getElem?_cons_succ, List.getElem?_cons_zero]; rfl) (by kernel_rfl) (by kernel_rfl) (by kernel_rfl) (by exact fun _ _ _ h => h) (Or.inl ⟨by rfl, ?_⟩) (by assumption) ?_; rotate_left; focus (intro w hSw; (try dsimp only at hSw); first | (go_simp; done) | (go_simp; with_reducible rfl))
    (try simp only [Act.put]); (try simp only [List.setIfInBounds_toArray]); (try simp only [List.set_cons_succ]); (try simp only [List.set_cons_zero])
    refine wpAnyH_take (i := 6) (v := ?_) (by simp only [List.getElem?_toArray, List.getElem?_cons_succ, List.getElem?_cons_zero]; rfl) (by kernel_rfl) (by kernel_rfl) (by kernel_rfl) (by exact fun _ _ _ h => h) (Or.inl ⟨by rfl, ?_⟩) (by assumption) ?_; rotate_left; focus (intro w hSw; (try dsimp only at hSw); first | (go_simp; done) | (go_simp; with_reducible rfl))
    (try simp only [Act.put]); (try simp only [List.setIfInBounds_toArray]); (try simp only [List.set_cons_succ]); (try simp only [List.set_cons_zero])
    refine wpAnyH_take (i := 7) (v := ?_) (by simp only [List.getElem?_toArray, List.getElem?_cons_succ, List.getElem?_cons_zero]; rfl) (by kernel_rfl) (by kernel_rfl) (by kernel_rfl) (by exact fun _ _ _ h => h) (Or.inl ⟨by rfl, ?_⟩) (by assumption) ?_; rotate_left; focus (intro w hSw; (try dsimp only at hSw); first | (go_simp; done) | (go_simp; with_reducible rfl))
    (try simp only [Act.put]); (try simp only [List.setIfInBounds_toArray]); (try simp only [List.set_cons_succ]); (try simp only [List.set_cons_zero])
    refine wpAnyH_take (i := 8) (v := ?_) (by simp only [List.getElem?_toArray, List.getElem?_cons_succ, List.getElem?_cons_zero]; rfl) (by kernel_rfl) (by kernel_rfl) (by kernel_rfl) (by exact fun _ _ _ h => h) (Or.inl ⟨by rfl, ?_⟩) (by assumption) ?_; rotate_left; focus (intro w hSw; (try dsimp only at hSw); first | (go_simp; done) | (go_simp; with_reducible rfl))
    (try simp only [Act.put]); (try simp only [List.setIfInBounds_toArray]); (try simp only [List.set_cons_succ]); (try simp only [List.set_cons_zero])
    refine wpAnyH_take (i := 9) (v := ?_) (by simp only [List.getElem?_toArray, List.getElem?_cons_succ, List.getElem?_cons_zero]; rfl) (by kernel_rfl) (by kernel_rfl) (by kernel_rfl) (by exact fun _ _ _ h => h) (Or.inl ⟨by rfl, ?_⟩) (by assumption) ?_; rotate_left; focus (intro w hSw; (try dsimp only at hSw); first | (go_simp; done) | (go_simp; with_reducible rfl))
    (try simp only [Act.put]); (try simp only [List.setIfInBounds_toArray]); (try simp only [List.set_cons_succ]); (try simp only [List.set_cons_zero])
    refine wpAnyH_take (i := 10) (v := ?_) (by simp only [List.getElem?_toArray, List.getElem?_cons_succ, List.getElem?_cons_zero]; rfl) (by kernel_rfl) (by kernel_rfl) (by kernel_rfl) (by exact fun _ _ _ h => h) (Or.inl ⟨by rfl, ?_⟩) (by assumption) ?_; rotate_left; focus (intro w hSw; (try dsimp only at hSw); first | (go_simp; done) | (go_simp; with_reducible rfl))
    (try simp only [Act.put]); (try simp only [List.setIfInBounds_toArray]); (try simp only [List.set_cons_succ]); (try simp only [List.set_cons_zero])
    refine wpAnyH_take (i := 11) (v := ?_) (by simp only [List.getElem?_toArray, List.getElem?_cons_succ, List.getElem?_cons_zero]; rfl) (by kernel_rfl) (by kernel_rfl) (by kernel_rfl) (by exact fun _ _ _ h => h) (Or.inl ⟨by rfl, ?_⟩) (by assumption) ?_; rotate_left; focus (intro w hSw; (try dsimp only at hSw); first | (go_simp; done) | (go_simp; with_reducible rfl))
    (try simp only [Act.put]); (try simp only [List.setIfInBounds_toArray]); (try simp only [List.set_cons_succ]); (try simp only [List.set_cons_zero])
    refine wpAnyH_take (i := 12) (v := ?_) (by simp only [List.getElem?_toArray, List.getElem?_cons_succ, List.getElem?_cons_zero]; rfl) (by kernel_rfl) (by kernel_rfl) (by kernel_rfl) (by exact fun _ _ _ h => h) (Or.inl ⟨by rfl, ?_⟩) (by assumption) ?_; rotate_left; focus (intro w hSw; (try dsimp only at hSw); first | (go_simp; done) | (go_simp; with_reducible rfl))
    (try simp only [Act.put]); (try simp only [List.setIfInBounds_toArray]); (try simp only [List.set_cons_succ]); (try simp only [List.set_cons_zero])
    refine wpAnyH_ready (rs := [13]) (by kernel_rfl) (by simp) ?_
    refine AllReadyH.cons rfl (fun K hK => ?_) (AllReadyH.nil)
    rw [if_pos (by rfl)]
    go_simp
    go_at_call 64
    refine (l06Minutes_any sg s _ (by omega) gm1).mono ?_
    rw [HM.out]
    rintro e w2 ⟨rfl, hbk⟩
    have HBK := (Below.refl w1.heap.size w1).drew.trans (hbk.mono (Nat.le_refl _))
    have P2 := Lib.hid (hP.out.below HBK)
    have QS := Lib.hid (show w2.cell? ⟨w.heap.size, 1, none⟩ = some (.slice (some ⟨g', o', none⟩) n1 cd1) ∧ w2.cell? ⟨g, 0, none⟩ = some (.int .i64 (i : Int)) ∧ w2.cell? ⟨g, 1, none⟩ = some (.int .i64 (k : Int)) ∧ w2.cell? ⟨g, 3, none⟩ = some (.int .i64 z) ∧ w2.cell? ⟨g', o' + k * 5, none⟩ = some (.int .i64 sg.a) ∧ w2.cell? ⟨g', o' + k * 5 + 1, none⟩ = some (.int .i64 sg.b) ∧ w2.cell? ⟨g', o' + k * 5 + 2, none⟩ = some (.int .i64 sg.depth) ∧ w2.cell? ⟨g', o' + k * 5 + 3, none⟩ = some (.int .i64 sg.minutes) ∧ w2.cell? ⟨g', o' + k * 5 + 4, none⟩ = some (.bool sg.meet) ∧ w2.cell? ⟨gs, os + i * 6, none⟩ = some (.string s.name) ∧ w2.cell? ⟨gs, os + i * 6 + 1, none⟩ = some (.int .i64 s.length) ∧ w2.cell? ⟨gs, os + i * 6 + 2, none⟩ = some (.int .i64 s.draught) ∧ w2.cell? ⟨gs, os + i * 6 + 3, none⟩ = some (.int .i64 s.line) ∧ w2.cell? ⟨gs, os + i * 6 + 4, none⟩ = some (.int .i64 s.tugs) ∧ w2.cell? ⟨gs, os + i * 6 + 5, none⟩ = some (.bool s.slow) from ⟨cell_onV F0.out HBK, cell_onV F1.out HBK, cell_onV F2.out HBK, cell_onV F3.out HBK, cell_onV F4.out HBK, cell_onV F5.out HBK, cell_onV F6.out HBK, cell_onV F7.out HBK, cell_onV F8.out HBK, cell_onV F9.out HBK, cell_onV F10.out HBK, cell_onV F11.out HBK, cell_onV F12.out HBK, cell_onV F13.out HBK, cell_onV F14.out HBK⟩)
    clear hbk HBK
    go_simp
    refine hK.out _ _ QS.out (fun hHeld => ?_)
    clear hK K
    (try simp only [Act.put]); (try simp only [List.setIfInBounds_toArray]); (try simp only [List.set_cons_succ]); (try simp only [List.set_cons_zero])
    refine wpAnyH_take (i := 14) (v := ?_) (by simp only [List.getElem?_toArray, List.getElem?_cons_succ, List.getElem?_cons_zero]; rfl) (by kernel_rfl) (by kernel_rfl) (by kernel_rfl) (by exact fun _ _ _ h => h) (Or.inl ⟨by rfl, ?_⟩) (by assumption) ?_; rotate_left; focus (intro w hSw; (try dsimp only at hSw); first | (go_simp; done) | (go_simp; with_reducible rfl))
    (try simp only [Act.put]); (try simp only [List.setIfInBounds_toArray]); (try simp only [List.set_cons_succ]); (try simp only [List.set_cons_zero])
    refine wpAnyH_take (i := 15) (v := ?_) (by simp only [List.getElem?_toArray, List.getElem?_cons_succ, List.getElem?_cons_zero]; rfl) (by kernel_rfl) (by kernel_rfl) (by kernel_rfl) (by exact fun _ _ _ h => h) (Or.inl ⟨by rfl, ?_⟩) (by assumption) ?_; rotate_left; focus (intro w hSw; (try dsimp only at hSw); first | (go_simp; done) | (go_simp; with_reducible rfl))
    (try simp only [Act.put]); (try simp only [List.setIfInBounds_toArray]); (try simp only [List.set_cons_succ]); (try simp only [List.set_cons_zero])
    refine wpAnyH_ready (rs := [16]) (by kernel_rfl) (by simp) ?_
    refine AllReadyH.cons rfl (fun K hK => ?_) (AllReadyH.nil)
    have r4 : w2.cell? ⟨g, 4, none⟩ = some (.int .i64 0) := P2.out.2.1.cell 4
    have s4 : w2.frozen? ⟨g, 4, none⟩ = false := P2.out.2.1.free 4
    rw [if_pos (by rfl)]
    go_simp
    have PN := P2.out.set 4 (.int .i64 (z + m))
    simp only [List.setIfInBounds_toArray, List.set_cons_zero, List.set_cons_succ] at PN
    obtain ⟨w3, hw3⟩ : ∃ W, W = (w2.setCell ⟨g, 4, none⟩ (.int .i64 (z + m))) := ⟨_, rfl⟩
    have B23 : Below w.heap.size w2 (w2.setCell ⟨g, 4, none⟩ (.int .i64 (z + m))) := (Below.refl w.heap.size w2).setCell (p := ⟨g, 4, none⟩) (by show w.heap.size ≤ g; omega) _
    rw [← hw3] at PN B23 ⊢
    have P3 := Lib.hid PN
    obtain ⟨e0, e1, e2, e3, e4, e5, e6, e7, e8, e9, e10, e11, e12, e13, e14⟩ := QS.out
    clear QS
    have QS := Lib.hid (show w3.cell? ⟨w.heap.size, 1, none⟩ = some (.slice (some ⟨g', o', none⟩) n1 cd1) ∧ w3.cell? ⟨g, 0, none⟩ = some (.int .i64 (i : Int)) ∧ w3.cell? ⟨g, 1, none⟩ = some (.int .i64 (k : Int)) ∧ w3.cell? ⟨g, 3, none⟩ = some (.int .i64 z) ∧ w3.cell? ⟨g', o' + k * 5, none⟩ = some (.int .i64 sg.a) ∧ w3.cell? ⟨g', o' + k * 5 + 1, none⟩ = some (.int .i64 sg.b) ∧ w3.cell? ⟨g', o' + k * 5 + 2, none⟩ = some (.int .i64 sg.depth) ∧ w3.cell? ⟨g', o' + k * 5 + 3, none⟩ = some (.int .i64 sg.minutes) ∧ w3.cell? ⟨g', o' + k * 5 + 4, none⟩ = some (.bool sg.meet) ∧ w3.cell? ⟨gs, os + i * 6, none⟩ = some (.string s.name) ∧ w3.cell? ⟨gs, os + i * 6 + 1, none⟩ = some (.int .i64 s.length) ∧ w3.cell? ⟨gs, os + i * 6 + 2, none⟩ = some (.int .i64 s.draught) ∧ w3.cell? ⟨gs, os + i * 6 + 3, none⟩ = some (.int .i64 s.line) ∧ w3.cell? ⟨gs, os + i * 6 + 4, none⟩ = some (.int .i64 s.tugs) ∧ w3.cell? ⟨gs, os + i * 6 + 5, none⟩ = some (.bool s.slow) from ⟨P3.out.seg, P3.out.2.1.cell 0, P3.out.2.1.cell 1, P3.out.2.1.cell 3, (B23.cell (p := ⟨g', o' + k * 5, none⟩) G1).trans e4, (B23.cell (p := ⟨g', o' + k * 5 + 1, none⟩) G1).trans e5, (B23.cell (p := ⟨g', o' + k * 5 + 2, none⟩) G1).trans e6, (B23.cell (p := ⟨g', o' + k * 5 + 3, none⟩) G1).trans e7, (B23.cell (p := ⟨g', o' + k * 5 + 4, none⟩) G1).trans e8, (B23.cell (p := ⟨gs, os + i * 6, none⟩) G2).trans e9, (B23.cell (p := ⟨gs, os + i * 6 + 1, none⟩) G2).trans e10, (B23.cell (p := ⟨gs, os + i * 6 + 2, none⟩) G2).trans e11, (B23.cell (p := ⟨gs, os + i * 6 + 3, none⟩) G2).trans e12, (B23.cell (p := ⟨gs, os + i * 6 + 4, none⟩) G2).trans e13, (B23.cell (p := ⟨gs, os + i * 6 + 5, none⟩) G2).trans e14⟩)
    clear PN hw3 r4 s4 B23 e0 e1 e2 e3 e4 e5 e6 e7 e8 e9 e10 e11 e12 e13 e14
    refine hK.out _ _ QS.out (fun hHeld => ?_)
    clear hK K
    (try simp only [Act.put]); (try simp only [List.setIfInBounds_toArray]); (try simp only [List.set_cons_succ]); (try simp only [List.set_cons_zero])
    refine wpAnyH_done (by kernel_rfl) ?_ _
    clear hHeld QS
    have c0 : w3.cell? ⟨g, 0, none⟩ = some (.int .i64 (i : Int)) := P3.out.2.1.cell 0
    have c1 : w3.cell? ⟨g, 1, none⟩ = some (.int .i64 (k : Int)) := P3.out.2.1.cell 1
    have c2 : w3.cell? ⟨g, 2, none⟩ = some (.bool b) := P3.out.2.1.cell 2
    have c3 : w3.cell? ⟨g, 3, none⟩ = some (.int .i64 z) := P3.out.2.1.cell 3
    have c4 : w3.cell? ⟨g, 4, none⟩ = some (.int .i64 (z + m)) := P3.out.2.1.cell 4
    have r0 : w3.cell? ⟨w.heap.size + 1, 0, none⟩ = some (.int .i64 0) := P3.out.1.2.2.2.1.cell 0
    have r1 : w3.cell? ⟨w.heap.size + 1, 1, none⟩ = some (.int .i64 0) := P3.out.1.2.2.2.1.cell 1
    have r2 : w3.cell? ⟨w.heap.size + 1, 2, none⟩ = some (.bool false) := P3.out.1.2.2.2.1.cell 2
    have r3 : w3.cell? ⟨w.heap.size + 1, 3, none⟩ = some (.int .i64 0) := P3.out.1.2.2.2.1.cell 3
    have r4 : w3.cell? ⟨w.heap.size + 1, 4, none⟩ = some (.int .i64 0) := P3.out.1.2.2.2.1.cell 4
    have s0 : w3.frozen? ⟨w.heap.size + 1, 0, none⟩ = false := P3.out.1.2.2.2.1.free 0
    have s1 : w3.frozen? ⟨w.heap.size + 1, 1, none⟩ = false := P3.out.1.2.2.2.1.free 1
    have s2 : w3.frozen? ⟨w.heap.size + 1, 2, none⟩ = false := P3.out.1.2.2.2.1.free 2
    have s3 : w3.frozen? ⟨w.heap.size + 1, 3, none⟩ = false := P3.out.1.2.2.2.1.free 3
    have s4 : w3.frozen? ⟨w.heap.size + 1, 4, none⟩ = false := P3.out.1.2.2.2.1.free 4
    go_wp2
    refine bodyPost_ret (v := .agg #[.int .i64 (i : Int), .int .i64 (k : Int), .bool b, .int .i64 z, .int .i64 (z + m)]) (by simp [results, Try.results43, go_sem, r0, r1, r2, r3, r4]) rfl ⟨⟨(i : Int), (k : Int), b, z, z + m⟩, rfl, HQW.out, (((((P3.out.1.1).set (by omega) 0 (.int .i64 (i : Int))).set (by omega) 1 (.int .i64 (k : Int))).set (by omega) 2 (.bool b)).set (by omega) 3 (.int .i64 z)).set (by omega) 4 (.int .i64 (z + m)), grown_setNew (grown_setNew (grown_setNew (grown_setNew (grown_setNew (P3.out.1.2.1) (by show w.heap.size ≤ w.heap.size + 1; omega) (j := 0) (.int .i64 (i : Int))) (by show w.heap.size ≤ w.heap.size + 1; omega) (j := 1) (.int .i64 (k : Int))) (by show w.heap.size ≤ w.heap.size + 1; omega) (j := 2) (.bool b)) (by show w.heap.size ≤ w.heap.size + 1; omega) (j := 3) (.int .i64 z)) (by show w.heap.size ≤ w.heap.size + 1; omega) (j := 4) (.int .i64 (z + m))⟩
end Go.Proofs.Ytpglaffmmddcdaa
