
/- spec.l05Draw (a drawn chart), MakeChart: contracts. -/
import Derived.Test.YtpglaffmmddcdaaDrawVar
import Derived.Deep.RegionHeld3
namespace Go.Proofs.Ytpglaffmmddcdaa
open Go.RowKit
set_option maxRecDepth 100000

/-- The charts that are drawn. -/
structure ChartRnd where
  b : Bool
  m : Bool
  e3 : Bool
  e4 : Bool
  x0 : Int
  y0 : Int
  x1 : Int
  y1 : Int
  x2 : Int
  y2 : Int
  x3 : Int
  y3 : Int
  x4 : Int
def ChartRnd.ok (r : ChartRnd) : Prop := (0 ≤ r.x0 ∧ r.x0 < 300) ∧ (0 ≤ r.y0 ∧ r.y0 < 40) ∧ (0 ≤ r.x1 ∧ r.x1 < 300) ∧ (0 ≤ r.y1 ∧ r.y1 < 30) ∧ (0 ≤ r.x2 ∧ r.x2 < 200) ∧ (0 ≤ r.y2 ∧ r.y2 < 20) ∧ (0 ≤ r.x3 ∧ r.x3 < 300) ∧ (0 ≤ r.y3 ∧ r.y3 < 30) ∧ (0 ≤ r.x4 ∧ r.x4 < 300)
@[reducible] def pts4 (b : Bool) : List PointD := [⟨sea, true⟩, ⟨bar, false⟩, ⟨road, b⟩, ⟨quay, true⟩]
@[reducible] def segs3 (x0 y0 x1 y1 : Int) (m : Bool) (x2 y2 : Int) : List SegmentD := [⟨0, 1, 900 + x0, 10 + y0, false⟩, ⟨1, 2, 800 + x1, 10 + y1, m⟩, ⟨2, 3, 900 + x2, 5 + y2, false⟩]
def ChartRnd.chart (r : ChartRnd) : ChartD := ⟨pts4 r.b ++ (if r.e4 = true then [⟨dock, true⟩] else []), segs3 r.x0 r.y0 r.x1 r.y1 r.m r.x2 r.y2 ++ (if r.e3 = true then [⟨3, 1, 700 + r.x3, 20 + r.y3, true⟩] else []) ++ (if r.e4 = true then [⟨2, 4, 800 + r.x4, 15, false⟩] else [])⟩
/-- What a drawn chart leaves: two lists of its own, apart from each other. -/
def DrawsChart (p : Nat) (w : World) (e : Ending) (w' : World) : Prop := ∃ (r : ChartRnd) (A : Option Addr) (a : Nat) (B : Option Addr) (b : Nat), r.ok ∧ e = .returned (.agg #[.slice A r.chart.points.length a, .slice B r.chart.segs.length b]) ∧
  OwnPoint w' w.heap.size (.slice A r.chart.points.length a) r.chart.points ∧ OwnSegment w' w.heap.size (.slice B r.chart.segs.length b) r.chart.segs ∧ (∀ g, (Value.slice A r.chart.points.length a).ownBlock = some g → (Value.slice B r.chart.segs.length b).ownBlock ≠ some g) ∧ Cursor w' p ∧ w.grownBy w' (some p)
theorem ChDraw.fin {w W : World} {p b3 : Nat} {pv sv : Value} {pts : List PointD} {segs : List SegmentD} (h : ChDraw w p w.heap.size b3 pv sv pts segs W) (r : ChartRnd) (hr : r.ok) (hc : r.chart = ⟨pts, segs⟩) :
    DrawsChart p w (.returned (.agg #[pv, sv])) ((W.setCell ⟨w.heap.size, 0, none⟩ pv).setCell ⟨w.heap.size, 1, none⟩ sv) := by
  obtain ⟨h1, h2, h3, h4, h5, h6, h7, h8, h9, hp, hb, hw⟩ := h
  obtain ⟨A, a, rfl⟩ := own_form h5
  obtain ⟨B, b, rfl⟩ := own_form h6
  have q0 : ∀ g, (Value.slice A pts.length a).ownBlock = some g → g ≠ w.heap.size := fun g hg => by have := (own_ge h5 hg).1; omega
  have q1 : ∀ g, (Value.slice B segs.length b).ownBlock = some g → g ≠ w.heap.size := fun g hg => by have := (own_ge h6 hg).1; omega
  have e0 : (Value.slice A pts.length a).ownBlock ≠ some w.heap.size := fun e => q0 _ e rfl
  have e1 : (Value.slice B segs.length b).ownBlock ≠ some w.heap.size := fun e => q1 _ e rfl
  refine ⟨r, A, a, B, b, hr, by rw [hc], ?_, ?_, ?_, (h1.set hp 0 _).set hp 1 _, grown_setNew (grown_setNew h2 (Nat.le_refl _) _) (Nat.le_refl _) _⟩
  · rw [hc]; exact own_lo (own_setO (own_setO h5 e0 _ _) e0 _ _) (by omega)
  · rw [hc]; exact own_lo (own_setO (own_setO h6 e1 _ _) e1 _ _) (by omega)
  · rw [hc]; exact h9

set_option maxHeartbeats 4000000 in
theorem l05Draw_any (p : Nat) (w : World) (hcur : Cursor w p) : Calls Try.prog 39 #[.pointer (some ⟨p, 0, none⟩)] w (DrawsChart p w) := by
  have hb0 := Joins.below_alloc1 w (.cells #[.slice none 0 0, .slice none 0 0] 26)
  have C := Lib.hid (l01Once_any p 2 _ (by omega) (by omega) (hcur.below hb0))
  have hp := hcur.lt
  have G0 := Lib.hid (grown_alloc w (.cells #[.slice none 0 0, .slice none 0 0] 26) (some p))
  have K0 := Lib.hid (Blk.new w #[.slice none 0 0, .slice none 0 0] 26)
  have HNP := Lib.hid (show some w.heap.size ≠ some p by simp; omega)
  obtain ⟨i0, hi, hz0, hz1, hz2⟩ := info_parts info_segment
  have HI := Lib.hid (And.intro hi (And.intro hz0 (And.intro hz1 hz2)))
  clear hi hz0 hz1 hz2
  obtain ⟨i1, hi, hz0, hz1, hz2⟩ := info_parts info_point
  have HIP := Lib.hid (And.intro hi (And.intro hz0 (And.intro hz1 hz2)))
  clear hcur hb0 hi hz0 hz1 hz2
  go_enter Try.func39, Try.ntmps39
  go_wp2_with fail
  refine C.out.mono ?_
  rintro e w1 ⟨b, rfl, hc1, hg1⟩
  have hs1 : w.heap.size + 1 ≤ w1.heap.size := by have := hg1.size; simpa using this
  obtain ⟨W2, hW2⟩ : ∃ W, W = ((w1.alloc (.cells #[.string ⟨#[115, 101, 97]⟩, .bool true, .string ⟨#[98, 97, 114]⟩, .bool false, .string ⟨#[114, 111, 97, 100]⟩, .bool b, .string ⟨#[113, 117, 97, 121]⟩, .bool true] 99)).alloc (.cells #[.slice (some ⟨w1.heap.size, 0, none⟩) 4 4, .slice none 0 0] 26)) := ⟨_, rfl⟩
  have ST2 : Hid (ChDraw w p w.heap.size (w1.heap.size + 1) (.slice (some ⟨w1.heap.size, 0, none⟩) 4 4) (.slice none 0 0) (pts4 b) [] W2) := by
    have a1 := Joins.below_alloc1 w1 (.cells #[.string ⟨#[115, 101, 97]⟩, .bool true, .string ⟨#[98, 97, 114]⟩, .bool false, .string ⟨#[114, 111, 97, 100]⟩, .bool b, .string ⟨#[113, 117, 97, 121]⟩, .bool true] 99)
    have a2 := Joins.below_alloc2 w1 (.cells #[.string ⟨#[115, 101, 97]⟩, .bool true, .string ⟨#[98, 97, 114]⟩, .bool false, .string ⟨#[114, 111, 97, 100]⟩, .bool b, .string ⟨#[113, 117, 97, 121]⟩, .bool true] 99) (.cells #[.slice (some ⟨w1.heap.size, 0, none⟩) 4 4, .slice none 0 0] 26)
    rw [← hW2] at a2
    have ho := World.ownsRow_lit (base := w.heap.size + 1) (e := 99) (size := 2) w1 #[.string ⟨#[115, 101, 97]⟩, .bool true, .string ⟨#[98, 97, 114]⟩, .bool false, .string ⟨#[114, 111, 97, 100]⟩, .bool b, .string ⟨#[113, 117, 97, 121]⟩, .bool true] 4 hs1 (by unfold maxLen; omega) rfl
    refine Lib.hid ⟨hc1.below a2, grown_trans (grown_trans G0.out hg1) (grown_of_below a2 _), (K0.out.grown hg1 HNP.out).below a2, ?_, ?_, ⟨rfl, .inl ⟨rfl, rfl⟩⟩, own_blk_ne (by omega), fun e => ?_, fun g _ e => ?_, hp, by omega, Nat.le_refl _⟩
    · rw [hW2]; exact Blk.newAt (by simp) _ _
    · have h2 := own_below (cs := PointD.cells) (k := 2) (l := pts4 b) ho (Joins.below_alloc1 _ (.cells #[.slice (some ⟨w1.heap.size, 0, none⟩) 4 4, .slice none 0 0] 26))
      rw [hW2]; exact h2
    · cases e
    · cases e
  have HW2 := Lib.hid hW2
  clear hc1 hg1 hW2 C
  go_wp2_with fail
  rw [← HW2.out]
  refine (l01Below_any p 300 _ (by omega) (by omega) ST2.out.cur).mono ?_
  rintro e w3 ⟨x0, rfl, x0a, x0b, hc, hg⟩
  have ST3 := Lib.hid (ST2.out.step hg hc)
  have hx0w : IntKind.i64.wrap (900 + x0) = 900 + x0 := by rw [IntKind.wrap_i64]; omega
  clear hc hg ST2
  go_wp2_with fail
  refine (l01Below_any p 40 _ (by omega) (by omega) ST3.out.cur).mono ?_
  rintro e w4 ⟨y0, rfl, y0a, y0b, hc, hg⟩
  have ST4 := Lib.hid (ST3.out.step hg hc)
  have hy0w : IntKind.i64.wrap (10 + y0) = 10 + y0 := by rw [IntKind.wrap_i64]; omega
  clear hc hg ST3
  go_wp2_with fail
  refine (l01Below_any p 300 _ (by omega) (by omega) ST4.out.cur).mono ?_
  rintro e w5 ⟨x1, rfl, x1a, x1b, hc, hg⟩
  have ST5 := Lib.hid (ST4.out.step hg hc)
  have hx1w : IntKind.i64.wrap (800 + x1) = 800 + x1 := by rw [IntKind.wrap_i64]; omega
  clear hc hg ST4
  go_wp2_with fail
  refine (l01Below_any p 30 _ (by omega) (by omega) ST5.out.cur).mono ?_
  rintro e w6 ⟨y1, rfl, y1a, y1b, hc, hg⟩
  have ST6 := Lib.hid (ST5.out.step hg hc)
  have hy1w : IntKind.i64.wrap (10 + y1) = 10 + y1 := by rw [IntKind.wrap_i64]; omega
  clear hc hg ST5
  go_wp2_with fail
  refine (l01Once_any p 2 _ (by omega) (by omega) ST6.out.cur).mono ?_
  rintro e w7 ⟨m, rfl, hc, hg⟩
  have ST7 := Lib.hid (ST6.out.step hg hc)
  clear hc hg ST6
  go_wp2_with fail
  refine (l01Below_any p 200 _ (by omega) (by omega) ST7.out.cur).mono ?_
  rintro e w8 ⟨x2, rfl, x2a, x2b, hc, hg⟩
  have ST8 := Lib.hid (ST7.out.step hg hc)
  have hx2w : IntKind.i64.wrap (900 + x2) = 900 + x2 := by rw [IntKind.wrap_i64]; omega
  clear hc hg ST7
  go_wp2_with fail
  refine (l01Below_any p 20 _ (by omega) (by omega) ST8.out.cur).mono ?_
  rintro e w9 ⟨y2, rfl, y2a, y2b, hc, hg⟩
  have ST9 := Lib.hid (ST8.out.step hg hc)
  have hy2w : IntKind.i64.wrap (5 + y2) = 5 + y2 := by rw [IntKind.wrap_i64]; omega
  clear hc hg ST8
  obtain ⟨W10, hW10⟩ : ∃ W, W = ((w9.alloc (.cells #[.int .i64 0, .int .i64 1, .int .i64 (900 + x0), .int .i64 (10 + y0), .bool false, .int .i64 1, .int .i64 2, .int .i64 (800 + x1), .int .i64 (10 + y1), .bool m, .int .i64 2, .int .i64 3, .int .i64 (900 + x2), .int .i64 (5 + y2), .bool false] 90)).setCell ⟨w1.heap.size + 1, 1, none⟩ (.slice (some ⟨w9.heap.size, 0, none⟩) 3 3)) := ⟨_, rfl⟩
  have ST10 : Hid (ChDraw w p w.heap.size (w1.heap.size + 1) (.slice (some ⟨w1.heap.size, 0, none⟩) 4 4) (.slice (some ⟨w9.heap.size, 0, none⟩) 3 3) (pts4 b) (segs3 x0 y0 x1 y1 m x2 y2) W10) := by
    rw [hW10]
    exact Lib.hid (ST9.out.litS (l := (segs3 x0 y0 x1 y1 m x2 y2)) (cells := #[.int .i64 0, .int .i64 1, .int .i64 (900 + x0), .int .i64 (10 + y0), .bool false, .int .i64 1, .int .i64 2, .int .i64 (800 + x1), .int .i64 (10 + y1), .bool m, .int .i64 2, .int .i64 3, .int .i64 (900 + x2), .int .i64 (5 + y2), .bool false]) rfl rfl (by simp))
  have z := ST9.out.below (Joins.below_alloc1 w9 (.cells #[.int .i64 0, .int .i64 1, .int .i64 (900 + x0), .int .i64 (10 + y0), .bool false, .int .i64 1, .int .i64 2, .int .i64 (800 + x1), .int .i64 (10 + y1), .bool m, .int .i64 2, .int .i64 3, .int .i64 (900 + x2), .int .i64 (5 + y2), .bool false] 90))
  have z1 := z.c1
  have z2 := z.f1
  have HW10 := Lib.hid hW10
  clear z hW10
  go_wp2_with fail
  rw [← HW10.out]
  refine (l01Once_any p 3 _ (by omega) (by omega) ST10.out.cur).mono ?_
  rintro e w11 ⟨e3, rfl, hc, hg⟩
  have ST11 := Lib.hid (ST10.out.step hg hc)
  clear hc hg z1 z2 ST9 ST10 HW2 HW10
  cases e3 with
  | false =>
    go_wp2_with fail
    refine (l01Once_any p 3 _ (by omega) (by omega) ST11.out.cur).mono ?_
    rintro e wC ⟨e4, rfl, hc, hg⟩
    have STC := Lib.hid (ST11.out.step hg hc)
    clear hc hg ST11
    cases e4 with
    | false =>
      have jc0 := STC.out.c0
      have jc1 := STC.out.c1
      have jk0 := STC.out.k0
      have jk1 := STC.out.k1
      have jg0 := STC.out.g0
      have jg1 := STC.out.g1
      have hne : w.heap.size ≠ w1.heap.size + 1 := by omega
      have hne' : w1.heap.size + 1 ≠ w.heap.size := by omega
      go_wp2
      refine bodyPost_ret (v := .agg #[(.slice (some ⟨w1.heap.size, 0, none⟩) 4 4), (.slice (some ⟨w9.heap.size, 0, none⟩) 3 3)]) (by simp [results, Try.results39, go_sem, *]) rfl (STC.out.fin ⟨b, m, false, false, x0, y0, x1, y1, x2, y2, 0, 0, 0⟩ ?_ rfl)
      exact ⟨⟨x0a, x0b⟩, ⟨y0a, y0b⟩, ⟨x1a, x1b⟩, ⟨y1a, y1b⟩, ⟨x2a, x2b⟩, ⟨y2a, y2b⟩, by simp <;> omega, by simp <;> omega, by simp⟩
    | true =>
      have jc0 := STC.out.c0
      have AL := Lib.hid (STC.out.below (Joins.below_alloc1 wC (.cells #[.string ⟨#[100, 111, 99, 107]⟩, .bool true] 99)))
      have HN := Lib.hid (World.news_of_block (heap_alloc_new wC (.cells #[.string ⟨#[100, 111, 99, 107]⟩, .bool true] 99)))
      have hcs : w.heap.size + 1 ≤ wC.heap.size + 1 := by have := STC.out.lt; omega
      have hip := HIP.out
      go_upto_region 7 with (at_builtin; refine wpList_append_lies _ rfl _ _ _ rfl (w.heap.size + 1) 99 i1 _ 2 24 Try.underlying23 hip.1 hip.2.1 hip.2.2.1 hip.2.2.2 rfl (by omega) (.slice (some ⟨w1.heap.size, 0, none⟩) 4 4) 4 ((pts4 b).flatMap PointD.cells) rfl AL.out.ownP ⟨wC.heap.size, 0, none⟩ 1 1 [.string ⟨#[100, 111, 99, 107]⟩, .bool true] (by first | rfl | simp) rfl HN.out (by simp [Value.oneCell']) (by omega) (by unfold maxLen; omega) (by omega) (by simp; omega) _ rfl ?_; intro g4 cap4 w4 hown4 hgrow4 hor4 hlt4; obtain ⟨t1, t2, t3⟩ := AL.out.appP (d := ⟨dock, true⟩) hown4 hgrow4 hor4; have T3 := Lib.hid t3; clear hown4 hgrow4 hor4 hlt4 t3)
      obtain ⟨W6, hW6⟩ : ∃ W, W = (w4.setCell ⟨w1.heap.size + 1, 0, none⟩ (.slice (some ⟨g4, 0, none⟩) 5 cap4)) := ⟨_, rfl⟩
      have ST6 : Hid (ChDraw w p w.heap.size (w1.heap.size + 1) (.slice (some ⟨g4, 0, none⟩) 5 cap4) (.slice (some ⟨w9.heap.size, 0, none⟩) 3 3) (pts4 b ++ [⟨dock, true⟩]) (segs3 x0 y0 x1 y1 m x2 y2) W6) := by rw [hW6]; exact T3
      have HW6 := Lib.hid hW6
      clear hW6 T3 t1 t2 AL HN
      rw [← HW6.out]
      clear HW6
      have C1 := Lib.hid (l01Below_any p 300 W6.drew (by omega) (by omega) ST6.out.drew.cur)
      have hi := HI.out
      have HI' := Lib.hid hi
      clear hi
      have jS := ST6.out.c1
      have jD : W6.drew.cell? ⟨w1.heap.size + 1, 1, none⟩ = some (.slice (some ⟨w9.heap.size, 0, none⟩) 3 3) := jS
      go_cut [66] (fun sL wx => ∃ (x4 : Int) (g c : Nat), sL = .slice (some ⟨g, 0, none⟩) 4 c ∧ 0 ≤ x4 ∧ x4 < 300 ∧ Hid (ChDraw w p w.heap.size (w1.heap.size + 1) (.slice (some ⟨g4, 0, none⟩) 5 cap4) (.slice (some ⟨g, 0, none⟩) 4 c) (pts4 b ++ [⟨dock, true⟩]) ((segs3 x0 y0 x1 y1 m x2 y2) ++ [(SegmentD.mk 2 4 (800 + x4) 15 false)]) wx))
      case first =>
        refine wp_region_held_drew (S := fun _ => True) (by kernel_rfl) trivial (fun hHeld => ?_)
        refine wpAnyH_take (i := 0) (v := ?_) (by simp only [List.getElem?_toArray, List.getElem?_cons_zero]; rfl) (by kernel_rfl) (by kernel_rfl) (by kernel_rfl) (by exact fun _ _ _ h => h) (Or.inl ⟨by rfl, ?_⟩) (by assumption) ?_; rotate_left; focus (intro w hSw; (try dsimp only at hSw); first | (go_simp; done) | (go_simp; with_reducible rfl))
        (try simp only [Act.put]); (try simp only [List.setIfInBounds_toArray]); (try simp only [List.set_cons_succ]); (try simp only [List.set_cons_zero])
        refine wpAnyH_take (i := 2) (v := ?_) (by simp only [List.getElem?_toArray, List.getElem?_cons_succ, List.getElem?_cons_zero]; rfl) (by kernel_rfl) (by kernel_rfl) (by kernel_rfl) (by exact fun _ _ _ h => h) (Or.inl ⟨by rfl, ?_⟩) (by assumption) ?_; rotate_left; focus (intro w hSw; (try dsimp only at hSw); first | (go_simp; done) | (go_simp; with_reducible rfl))
        (try simp only [Act.put]); (try simp only [List.setIfInBounds_toArray]); (try simp only [List.set_cons_succ]); (try simp only [List.set_cons_zero])
        refine wpAnyH_ready (rs := [1, 3]) (by kernel_rfl) (by simp) ?_
        refine AllReadyH.cons rfl (fun K hK => ?_) (AllReadyH.cons rfl (fun K hK => ?_) (AllReadyH.nil))
        · rw [if_pos (by rfl)]
          go_simp
          refine hK.out _ _ trivial (fun hHeld => ?_)
          clear hK K
          (try simp only [Act.put]); (try simp only [List.setIfInBounds_toArray]); (try simp only [List.set_cons_succ]); (try simp only [List.set_cons_zero])
          refine wpAnyH_ready (rs := [3]) (by kernel_rfl) (by simp) ?_
          refine AllReadyH.cons rfl (fun K hK => ?_) (AllReadyH.nil)
          rw [if_pos (by rfl)]
          go_simp
          go_at_call 42
          refine C1.out.mono ?_
          rintro e wa0 ⟨x4, rfl, x4a, x4b, hc, hg⟩
          have SA0 := Lib.hid (ST6.out.drew.step hg hc)
          have jA0 := SA0.out.c1
          have hx4w : IntKind.i64.wrap (800 + x4) = 800 + x4 := by rw [IntKind.wrap_i64]; omega
          clear hc hg
          have SAL := Lib.hid (SA0.out.below (Joins.below_alloc1 wa0 (.cells #[.int .i64 2, .int .i64 4, .int .i64 (800 + x4), .int .i64 15, .bool false] 90)))
          have jL := SAL.out.c1
          have hlt := SA0.out.lt
          go_simp
          refine hK.out _ _ trivial (fun hHeld => ?_)
          clear hK K
          (try simp only [Act.put]); (try simp only [List.setIfInBounds_toArray]); (try simp only [List.set_cons_succ]); (try simp only [List.set_cons_zero])
          refine wpAnyH_take (i := 4) (v := ?_) (by simp only [List.getElem?_toArray, List.getElem?_cons_succ, List.getElem?_cons_zero]; rfl) (by kernel_rfl) (by kernel_rfl) (by kernel_rfl) (by exact fun _ _ _ h => h) (Or.inl ⟨by rfl, ?_⟩) (by assumption) ?_; rotate_left; focus (intro w hSw; (try dsimp only at hSw); first | (go_simp; done) | (go_simp; with_reducible rfl))
          (try simp only [Act.put]); (try simp only [List.setIfInBounds_toArray]); (try simp only [List.set_cons_succ]); (try simp only [List.set_cons_zero])
          refine wpAnyH_take (i := 5) (v := ?_) (by simp only [List.getElem?_toArray, List.getElem?_cons_succ, List.getElem?_cons_zero]; rfl) (by kernel_rfl) (by kernel_rfl) (by kernel_rfl) (by exact fun _ _ _ h => h) (Or.inl ⟨by rfl, ?_⟩) (by assumption) ?_; rotate_left; focus (intro w hSw; (try dsimp only at hSw); first | (go_simp; done) | (go_simp; with_reducible rfl))
          (try simp only [Act.put]); (try simp only [List.setIfInBounds_toArray]); (try simp only [List.set_cons_succ]); (try simp only [List.set_cons_zero])
          refine wpAnyH_ready (rs := [6]) (by kernel_rfl) (by simp) ?_
          refine AllReadyH.cons rfl (fun K hK => ?_) (AllReadyH.nil)
          rw [if_pos (by rfl)]
          go_simp
          refine hK.out _ _ trivial (fun hHeld => ?_)
          clear hK K
          (try simp only [Act.put]); (try simp only [List.setIfInBounds_toArray]); (try simp only [List.set_cons_succ]); (try simp only [List.set_cons_zero])
          refine wpAnyH_ready (rs := [7]) (by kernel_rfl) (by simp) ?_
          refine AllReadyH.cons rfl (fun K hK => ?_) (AllReadyH.nil)
          refine step_append_lies _ (by rfl) _ _ _ (by rfl) (w.heap.size + 1) 90 i0 _ 5 40 Try.underlying24 HI'.out.1 HI'.out.2.1 HI'.out.2.2.1 HI'.out.2.2.2 rfl (by omega) (.slice (some ⟨w9.heap.size, 0, none⟩) 3 3) 3 (((segs3 x0 y0 x1 y1 m x2 y2) : List SegmentD).flatMap SegmentD.cells) (by rfl) SAL.out.ownS ⟨wa0.heap.size, 0, none⟩ 1 1 [.int .i64 2, .int .i64 4, .int .i64 (800 + x4), .int .i64 15, .bool false] (by rfl) (by rfl) (World.news_of_block (heap_alloc_new wa0 _)) (by simp [Value.oneCell']) (by omega) (by unfold maxLen; omega) (by omega) (by simp; omega) _ rfl ?_
          intro g4' cap4' w4' hown4 hgrow4 hor4 hlt4
          obtain ⟨t1, t2, t3⟩ := SAL.out.appS (d := (SegmentD.mk 2 4 (800 + x4) 15 false)) hown4 hgrow4 hor4
          have T3 := Lib.hid t3
          clear hown4 hgrow4 hor4 hlt4 t3
          refine hK.out _ _ trivial (fun hHeld => ?_)
          clear hK K
          (try simp only [Act.put]); (try simp only [List.setIfInBounds_toArray]); (try simp only [List.set_cons_succ]); (try simp only [List.set_cons_zero])
          refine wpAnyH_take (i := 8) (v := ?_) (by simp only [List.getElem?_toArray, List.getElem?_cons_succ, List.getElem?_cons_zero]; rfl) (by kernel_rfl) (by kernel_rfl) (by kernel_rfl) (by exact fun _ _ _ h => h) (Or.inl ⟨by rfl, ?_⟩) (by assumption) ?_; rotate_left; focus (intro w hSw; (try dsimp only at hSw); first | (go_simp; done) | (go_simp; with_reducible rfl))
          (try simp only [Act.put]); (try simp only [List.setIfInBounds_toArray]); (try simp only [List.set_cons_succ]); (try simp only [List.set_cons_zero])
          refine wpAnyH_ready (rs := [9]) (by kernel_rfl) (by simp) ?_
          refine AllReadyH.cons rfl (fun K hK => ?_) (AllReadyH.nil)
          rw [if_pos (by rfl)]
          go_simp
          refine hK.out _ _ trivial (fun hHeld => ?_)
          clear hK K
          (try simp only [Act.put]); (try simp only [List.setIfInBounds_toArray]); (try simp only [List.set_cons_succ]); (try simp only [List.set_cons_zero])
          refine wpAnyH_done (by kernel_rfl) ?_ _
          go_wp2_with fail
          go_meet
          exact ⟨x4, _, _, rfl, x4a, x4b, T3⟩
        · rw [if_pos (by rfl)]
          go_simp
          go_at_call 42
          refine C1.out.mono ?_
          rintro e wa0 ⟨x4, rfl, x4a, x4b, hc, hg⟩
          have SA0 := Lib.hid (ST6.out.drew.step hg hc)
          have jA0 := SA0.out.c1
          have hx4w : IntKind.i64.wrap (800 + x4) = 800 + x4 := by rw [IntKind.wrap_i64]; omega
          clear hc hg
          have SAL := Lib.hid (SA0.out.below (Joins.below_alloc1 wa0 (.cells #[.int .i64 2, .int .i64 4, .int .i64 (800 + x4), .int .i64 15, .bool false] 90)))
          have jL := SAL.out.c1
          have hlt := SA0.out.lt
          go_simp
          refine hK.out _ _ trivial (fun hHeld => ?_)
          clear hK K
          (try simp only [Act.put]); (try simp only [List.setIfInBounds_toArray]); (try simp only [List.set_cons_succ]); (try simp only [List.set_cons_zero])
          refine wpAnyH_take (i := 4) (v := ?_) (by simp only [List.getElem?_toArray, List.getElem?_cons_succ, List.getElem?_cons_zero]; rfl) (by kernel_rfl) (by kernel_rfl) (by kernel_rfl) (by exact fun _ _ _ h => h) (Or.inl ⟨by rfl, ?_⟩) (by assumption) ?_; rotate_left; focus (intro w hSw; (try dsimp only at hSw); first | (go_simp; done) | (go_simp; with_reducible rfl))
          (try simp only [Act.put]); (try simp only [List.setIfInBounds_toArray]); (try simp only [List.set_cons_succ]); (try simp only [List.set_cons_zero])
          refine wpAnyH_take (i := 5) (v := ?_) (by simp only [List.getElem?_toArray, List.getElem?_cons_succ, List.getElem?_cons_zero]; rfl) (by kernel_rfl) (by kernel_rfl) (by kernel_rfl) (by exact fun _ _ _ h => h) (Or.inl ⟨by rfl, ?_⟩) (by assumption) ?_; rotate_left; focus (intro w hSw; (try dsimp only at hSw); first | (go_simp; done) | (go_simp; with_reducible rfl))
          (try simp only [Act.put]); (try simp only [List.setIfInBounds_toArray]); (try simp only [List.set_cons_succ]); (try simp only [List.set_cons_zero])
          refine wpAnyH_ready (rs := [1, 6]) (by kernel_rfl) (by simp) ?_
          refine AllReadyH.cons rfl (fun K hK => ?_) (AllReadyH.cons rfl (fun K hK => ?_) (AllReadyH.nil))
          · rw [if_pos (by rfl)]
            go_simp
            refine hK.out _ _ trivial (fun hHeld => ?_)
            clear hK K
            (try simp only [Act.put]); (try simp only [List.setIfInBounds_toArray]); (try simp only [List.set_cons_succ]); (try simp only [List.set_cons_zero])
            refine wpAnyH_ready (rs := [6]) (by kernel_rfl) (by simp) ?_
            refine AllReadyH.cons rfl (fun K hK => ?_) (AllReadyH.nil)
            rw [if_pos (by rfl)]
            go_simp
            refine hK.out _ _ trivial (fun hHeld => ?_)
            clear hK K
            (try simp only [Act.put]); (try simp only [List.setIfInBounds_toArray]); (try simp only [List.set_cons_succ]); (try simp only [List.set_cons_zero])
            refine wpAnyH_ready (rs := [7]) (by kernel_rfl) (by simp) ?_
            refine AllReadyH.cons rfl (fun K hK => ?_) (AllReadyH.nil)
            refine step_append_lies _ (by rfl) _ _ _ (by rfl) (w.heap.size + 1) 90 i0 _ 5 40 Try.underlying24 HI'.out.1 HI'.out.2.1 HI'.out.2.2.1 HI'.out.2.2.2 rfl (by omega) (.slice (some ⟨w9.heap.size, 0, none⟩) 3 3) 3 (((segs3 x0 y0 x1 y1 m x2 y2) : List SegmentD).flatMap SegmentD.cells) (by rfl) SAL.out.ownS ⟨wa0.heap.size, 0, none⟩ 1 1 [.int .i64 2, .int .i64 4, .int .i64 (800 + x4), .int .i64 15, .bool false] (by rfl) (by rfl) (World.news_of_block (heap_alloc_new wa0 _)) (by simp [Value.oneCell']) (by omega) (by unfold maxLen; omega) (by omega) (by simp; omega) _ rfl ?_
            intro g4' cap4' w4' hown4 hgrow4 hor4 hlt4
            obtain ⟨t1, t2, t3⟩ := SAL.out.appS (d := (SegmentD.mk 2 4 (800 + x4) 15 false)) hown4 hgrow4 hor4
            have T3 := Lib.hid t3
            clear hown4 hgrow4 hor4 hlt4 t3
            refine hK.out _ _ trivial (fun hHeld => ?_)
            clear hK K
            (try simp only [Act.put]); (try simp only [List.setIfInBounds_toArray]); (try simp only [List.set_cons_succ]); (try simp only [List.set_cons_zero])
            refine wpAnyH_take (i := 8) (v := ?_) (by simp only [List.getElem?_toArray, List.getElem?_cons_succ, List.getElem?_cons_zero]; rfl) (by kernel_rfl) (by kernel_rfl) (by kernel_rfl) (by exact fun _ _ _ h => h) (Or.inl ⟨by rfl, ?_⟩) (by assumption) ?_; rotate_left; focus (intro w hSw; (try dsimp only at hSw); first | (go_simp; done) | (go_simp; with_reducible rfl))
            (try simp only [Act.put]); (try simp only [List.setIfInBounds_toArray]); (try simp only [List.set_cons_succ]); (try simp only [List.set_cons_zero])
            refine wpAnyH_ready (rs := [9]) (by kernel_rfl) (by simp) ?_
            refine AllReadyH.cons rfl (fun K hK => ?_) (AllReadyH.nil)
            rw [if_pos (by rfl)]
            go_simp
            refine hK.out _ _ trivial (fun hHeld => ?_)
            clear hK K
            (try simp only [Act.put]); (try simp only [List.setIfInBounds_toArray]); (try simp only [List.set_cons_succ]); (try simp only [List.set_cons_zero])
            refine wpAnyH_done (by kernel_rfl) ?_ _
            go_wp2_with fail
            go_meet
            exact ⟨x4, _, _, rfl, x4a, x4b, T3⟩
          · rw [if_pos (by rfl)]
            go_simp
            refine hK.out _ _ trivial (fun hHeld => ?_)
            clear hK K
            (try simp only [Act.put]); (try simp only [List.setIfInBounds_toArray]); (try simp only [List.set_cons_succ]); (try simp only [List.set_cons_zero])
            refine wpAnyH_ready (rs := [1]) (by kernel_rfl) (by simp) ?_
            refine AllReadyH.cons rfl (fun K hK => ?_) (AllReadyH.nil)
            rw [if_pos (by rfl)]
            go_simp
            refine hK.out _ _ trivial (fun hHeld => ?_)
            clear hK K
            (try simp only [Act.put]); (try simp only [List.setIfInBounds_toArray]); (try simp only [List.set_cons_succ]); (try simp only [List.set_cons_zero])
            refine wpAnyH_ready (rs := [7]) (by kernel_rfl) (by simp) ?_
            refine AllReadyH.cons rfl (fun K hK => ?_) (AllReadyH.nil)
            refine step_append_lies _ (by rfl) _ _ _ (by rfl) (w.heap.size + 1) 90 i0 _ 5 40 Try.underlying24 HI'.out.1 HI'.out.2.1 HI'.out.2.2.1 HI'.out.2.2.2 rfl (by omega) (.slice (some ⟨w9.heap.size, 0, none⟩) 3 3) 3 (((segs3 x0 y0 x1 y1 m x2 y2) : List SegmentD).flatMap SegmentD.cells) (by rfl) SAL.out.ownS ⟨wa0.heap.size, 0, none⟩ 1 1 [.int .i64 2, .int .i64 4, .int .i64 (800 + x4), .int .i64 15, .bool false] (by rfl) (by rfl) (World.news_of_block (heap_alloc_new wa0 _)) (by simp [Value.oneCell']) (by omega) (by unfold maxLen; omega) (by omega) (by simp; omega) _ rfl ?_
            intro g4' cap4' w4' hown4 hgrow4 hor4 hlt4
            obtain ⟨t1, t2, t3⟩ := SAL.out.appS (d := (SegmentD.mk 2 4 (800 + x4) 15 false)) hown4 hgrow4 hor4
            have T3 := Lib.hid t3
            clear hown4 hgrow4 hor4 hlt4 t3
            refine hK.out _ _ trivial (fun hHeld => ?_)
            clear hK K
            (try simp only [Act.put]); (try simp only [List.setIfInBounds_toArray]); (try simp only [List.set_cons_succ]); (try simp only [List.set_cons_zero])
            refine wpAnyH_take (i := 8) (v := ?_) (by simp only [List.getElem?_toArray, List.getElem?_cons_succ, List.getElem?_cons_zero]; rfl) (by kernel_rfl) (by kernel_rfl) (by kernel_rfl) (by exact fun _ _ _ h => h) (Or.inl ⟨by rfl, ?_⟩) (by assumption) ?_; rotate_left; focus (intro w hSw; (try dsimp only at hSw); first | (go_simp; done) | (go_simp; with_reducible rfl))
            (try simp only [Act.put]); (try simp only [List.setIfInBounds_toArray]); (try simp only [List.set_cons_succ]); (try simp only [List.set_cons_zero])
            refine wpAnyH_ready (rs := [9]) (by kernel_rfl) (by simp) ?_
            refine AllReadyH.cons rfl (fun K hK => ?_) (AllReadyH.nil)
            rw [if_pos (by rfl)]
            go_simp
            refine hK.out _ _ trivial (fun hHeld => ?_)
            clear hK K
            (try simp only [Act.put]); (try simp only [List.setIfInBounds_toArray]); (try simp only [List.set_cons_succ]); (try simp only [List.set_cons_zero])
            refine wpAnyH_done (by kernel_rfl) ?_ _
            go_wp2_with fail
            go_meet
            exact ⟨x4, _, _, rfl, x4a, x4b, T3⟩
      case rest =>
        obtain ⟨x4, g5, c5, rfl, x4a, x4b, STD⟩ := hcut
        have jc0 := STD.out.c0
        have jc1 := STD.out.c1
        have jk0 := STD.out.k0
        have jk1 := STD.out.k1
        have jg0 := STD.out.g0
        have jg1 := STD.out.g1
        have hne : w.heap.size ≠ w1.heap.size + 1 := by omega
        have hne' : w1.heap.size + 1 ≠ w.heap.size := by omega
        clear ST6
        go_wp2
        refine bodyPost_ret (v := .agg #[.slice (some ⟨g4, 0, none⟩) 5 cap4, .slice (some ⟨g5, 0, none⟩) 4 c5]) (by simp [results, Try.results39, go_sem, *]) rfl (STD.out.fin ⟨b, m, false, true, x0, y0, x1, y1, x2, y2, 0, 0, x4⟩ ?_ rfl)
        exact ⟨⟨x0a, x0b⟩, ⟨y0a, y0b⟩, ⟨x1a, x1b⟩, ⟨y1a, y1b⟩, ⟨x2a, x2b⟩, ⟨y2a, y2b⟩, by simp <;> omega, by simp <;> omega, x4a, x4b⟩
  | true =>
    have C1 := Lib.hid (l01Below_any p 300 w11.drew (by omega) (by omega) ST11.out.drew.cur)
    have hi := HI.out
    have HI' := Lib.hid hi
    clear hi
    have jS := ST11.out.c1
    have jD : w11.drew.cell? ⟨w1.heap.size + 1, 1, none⟩ = some (.slice (some ⟨w9.heap.size, 0, none⟩) 3 3) := jS
    go_upto_region 4 with fail
    go_cut [49] (fun sL wx => ∃ (x3 y3 : Int) (g c : Nat), sL = .slice (some ⟨g, 0, none⟩) 4 c ∧ 0 ≤ x3 ∧ x3 < 300 ∧ 0 ≤ y3 ∧ y3 < 30 ∧ Hid (ChDraw w p w.heap.size (w1.heap.size + 1) (.slice (some ⟨w1.heap.size, 0, none⟩) 4 4) (.slice (some ⟨g, 0, none⟩) 4 c) (pts4 b) ((segs3 x0 y0 x1 y1 m x2 y2) ++ [(SegmentD.mk 3 1 (700 + x3) (20 + y3) true)]) wx))
    case first =>
      refine wp_region_held_drew (S := fun _ => True) (by kernel_rfl) trivial (fun hHeld => ?_)
      refine wpAnyH_take (i := 0) (v := ?_) (by simp only [List.getElem?_toArray, List.getElem?_cons_zero]; rfl) (by kernel_rfl) (by kernel_rfl) (by kernel_rfl) (by exact fun _ _ _ h => h) (Or.inl ⟨by rfl, ?_⟩) (by assumption) ?_; rotate_left; focus (intro w hSw; (try dsimp only at hSw); first | (go_simp; done) | (go_simp; with_reducible rfl))
      (try simp only [Act.put]); (try simp only [List.setIfInBounds_toArray]); (try simp only [List.set_cons_succ]); (try simp only [List.set_cons_zero])
      refine wpAnyH_take (i := 2) (v := ?_) (by simp only [List.getElem?_toArray, List.getElem?_cons_succ, List.getElem?_cons_zero]; rfl) (by kernel_rfl) (by kernel_rfl) (by kernel_rfl) (by exact fun _ _ _ h => h) (Or.inl ⟨by rfl, ?_⟩) (by assumption) ?_; rotate_left; focus (intro w hSw; (try dsimp only at hSw); first | (go_simp; done) | (go_simp; with_reducible rfl))
      (try simp only [Act.put]); (try simp only [List.setIfInBounds_toArray]); (try simp only [List.set_cons_succ]); (try simp only [List.set_cons_zero])
      refine wpAnyH_take (i := 5) (v := ?_) (by simp only [List.getElem?_toArray, List.getElem?_cons_succ, List.getElem?_cons_zero]; rfl) (by kernel_rfl) (by kernel_rfl) (by kernel_rfl) (by exact fun _ _ _ h => h) (Or.inl ⟨by rfl, ?_⟩) (by assumption) ?_; rotate_left; focus (intro w hSw; (try dsimp only at hSw); first | (go_simp; done) | (go_simp; with_reducible rfl))
      (try simp only [Act.put]); (try simp only [List.setIfInBounds_toArray]); (try simp only [List.set_cons_succ]); (try simp only [List.set_cons_zero])
      refine wpAnyH_ready (rs := [1, 3]) (by kernel_rfl) (by simp) ?_
      refine AllReadyH.cons rfl (fun K hK => ?_) (AllReadyH.cons rfl (fun K hK => ?_) (AllReadyH.nil))
      · rw [if_pos (by rfl)]
        go_simp
        refine hK.out _ _ trivial (fun hHeld => ?_)
        clear hK K
        (try simp only [Act.put]); (try simp only [List.setIfInBounds_toArray]); (try simp only [List.set_cons_succ]); (try simp only [List.set_cons_zero])
        refine wpAnyH_ready (rs := [3]) (by kernel_rfl) (by simp) ?_
        refine AllReadyH.cons rfl (fun K hK => ?_) (AllReadyH.nil)
        rw [if_pos (by rfl)]
        go_simp
        go_at_call 42
        refine C1.out.mono ?_
        rintro e wa0 ⟨x3, rfl, x3a, x3b, hc, hg⟩
        have SA0 := Lib.hid (ST11.out.drew.step hg hc)
        have jA0 := SA0.out.c1
        have hx3w : IntKind.i64.wrap (700 + x3) = 700 + x3 := by rw [IntKind.wrap_i64]; omega
        clear hc hg
        go_simp
        refine hK.out _ _ trivial (fun hHeld => ?_)
        clear hK K
        (try simp only [Act.put]); (try simp only [List.setIfInBounds_toArray]); (try simp only [List.set_cons_succ]); (try simp only [List.set_cons_zero])
        refine wpAnyH_take (i := 4) (v := ?_) (by simp only [List.getElem?_toArray, List.getElem?_cons_succ, List.getElem?_cons_zero]; rfl) (by kernel_rfl) (by kernel_rfl) (by kernel_rfl) (by exact fun _ _ _ h => h) (Or.inl ⟨by rfl, ?_⟩) (by assumption) ?_; rotate_left; focus (intro w hSw; (try dsimp only at hSw); first | (go_simp; done) | (go_simp; with_reducible rfl))
        (try simp only [Act.put]); (try simp only [List.setIfInBounds_toArray]); (try simp only [List.set_cons_succ]); (try simp only [List.set_cons_zero])
        refine wpAnyH_ready (rs := [6]) (by kernel_rfl) (by simp) ?_
        refine AllReadyH.cons rfl (fun K hK => ?_) (AllReadyH.nil)
        rw [if_pos (by rfl)]
        go_simp
        go_at_call 42
        refine (l01Below_any p 30 _ (by omega) (by omega) SA0.out.cur).mono ?_
        rintro e wa1 ⟨y3, rfl, y3a, y3b, hc, hg⟩
        have SA1 := Lib.hid (SA0.out.step hg hc)
        have jA1 := SA1.out.c1
        have hy3w : IntKind.i64.wrap (20 + y3) = 20 + y3 := by rw [IntKind.wrap_i64]; omega
        clear hc hg
        have SAL := Lib.hid (SA1.out.below (Joins.below_alloc1 wa1 (.cells #[.int .i64 3, .int .i64 1, .int .i64 (700 + x3), .int .i64 (20 + y3), .bool true] 90)))
        have jL := SAL.out.c1
        have hlt := SA1.out.lt
        go_simp
        refine hK.out _ _ trivial (fun hHeld => ?_)
        clear hK K
        (try simp only [Act.put]); (try simp only [List.setIfInBounds_toArray]); (try simp only [List.set_cons_succ]); (try simp only [List.set_cons_zero])
        refine wpAnyH_take (i := 7) (v := ?_) (by simp only [List.getElem?_toArray, List.getElem?_cons_succ, List.getElem?_cons_zero]; rfl) (by kernel_rfl) (by kernel_rfl) (by kernel_rfl) (by exact fun _ _ _ h => h) (Or.inl ⟨by rfl, ?_⟩) (by assumption) ?_; rotate_left; focus (intro w hSw; (try dsimp only at hSw); first | (go_simp; done) | (go_simp; with_reducible rfl))
        (try simp only [Act.put]); (try simp only [List.setIfInBounds_toArray]); (try simp only [List.set_cons_succ]); (try simp only [List.set_cons_zero])
        refine wpAnyH_take (i := 8) (v := ?_) (by simp only [List.getElem?_toArray, List.getElem?_cons_succ, List.getElem?_cons_zero]; rfl) (by kernel_rfl) (by kernel_rfl) (by kernel_rfl) (by exact fun _ _ _ h => h) (Or.inl ⟨by rfl, ?_⟩) (by assumption) ?_; rotate_left; focus (intro w hSw; (try dsimp only at hSw); first | (go_simp; done) | (go_simp; with_reducible rfl))
        (try simp only [Act.put]); (try simp only [List.setIfInBounds_toArray]); (try simp only [List.set_cons_succ]); (try simp only [List.set_cons_zero])
        refine wpAnyH_ready (rs := [9]) (by kernel_rfl) (by simp) ?_
        refine AllReadyH.cons rfl (fun K hK => ?_) (AllReadyH.nil)
        rw [if_pos (by rfl)]
        go_simp
        refine hK.out _ _ trivial (fun hHeld => ?_)
        clear hK K
        (try simp only [Act.put]); (try simp only [List.setIfInBounds_toArray]); (try simp only [List.set_cons_succ]); (try simp only [List.set_cons_zero])
        refine wpAnyH_ready (rs := [10]) (by kernel_rfl) (by simp) ?_
        refine AllReadyH.cons rfl (fun K hK => ?_) (AllReadyH.nil)
        refine step_append_lies _ (by rfl) _ _ _ (by rfl) (w.heap.size + 1) 90 i0 _ 5 40 Try.underlying24 HI'.out.1 HI'.out.2.1 HI'.out.2.2.1 HI'.out.2.2.2 rfl (by omega) (.slice (some ⟨w9.heap.size, 0, none⟩) 3 3) 3 (((segs3 x0 y0 x1 y1 m x2 y2) : List SegmentD).flatMap SegmentD.cells) (by rfl) SAL.out.ownS ⟨wa1.heap.size, 0, none⟩ 1 1 [.int .i64 3, .int .i64 1, .int .i64 (700 + x3), .int .i64 (20 + y3), .bool true] (by rfl) (by rfl) (World.news_of_block (heap_alloc_new wa1 _)) (by simp [Value.oneCell']) (by omega) (by unfold maxLen; omega) (by omega) (by simp; omega) _ rfl ?_
        intro g4' cap4' w4' hown4 hgrow4 hor4 hlt4
        obtain ⟨t1, t2, t3⟩ := SAL.out.appS (d := (SegmentD.mk 3 1 (700 + x3) (20 + y3) true)) hown4 hgrow4 hor4
        have T3 := Lib.hid t3
        clear hown4 hgrow4 hor4 hlt4 t3
        refine hK.out _ _ trivial (fun hHeld => ?_)
        clear hK K
        (try simp only [Act.put]); (try simp only [List.setIfInBounds_toArray]); (try simp only [List.set_cons_succ]); (try simp only [List.set_cons_zero])
        refine wpAnyH_take (i := 11) (v := ?_) (by simp only [List.getElem?_toArray, List.getElem?_cons_succ, List.getElem?_cons_zero]; rfl) (by kernel_rfl) (by kernel_rfl) (by kernel_rfl) (by exact fun _ _ _ h => h) (Or.inl ⟨by rfl, ?_⟩) (by assumption) ?_; rotate_left; focus (intro w hSw; (try dsimp only at hSw); first | (go_simp; done) | (go_simp; with_reducible rfl))
        (try simp only [Act.put]); (try simp only [List.setIfInBounds_toArray]); (try simp only [List.set_cons_succ]); (try simp only [List.set_cons_zero])
        refine wpAnyH_ready (rs := [12]) (by kernel_rfl) (by simp) ?_
        refine AllReadyH.cons rfl (fun K hK => ?_) (AllReadyH.nil)
        rw [if_pos (by rfl)]
        go_simp
        refine hK.out _ _ trivial (fun hHeld => ?_)
        clear hK K
        (try simp only [Act.put]); (try simp only [List.setIfInBounds_toArray]); (try simp only [List.set_cons_succ]); (try simp only [List.set_cons_zero])
        refine wpAnyH_done (by kernel_rfl) ?_ _
        go_wp2_with fail
        go_meet
        exact ⟨x3, y3, _, _, rfl, x3a, x3b, y3a, y3b, T3⟩
      · rw [if_pos (by rfl)]
        go_simp
        go_at_call 42
        refine C1.out.mono ?_
        rintro e wa0 ⟨x3, rfl, x3a, x3b, hc, hg⟩
        have SA0 := Lib.hid (ST11.out.drew.step hg hc)
        have jA0 := SA0.out.c1
        have hx3w : IntKind.i64.wrap (700 + x3) = 700 + x3 := by rw [IntKind.wrap_i64]; omega
        clear hc hg
        go_simp
        refine hK.out _ _ trivial (fun hHeld => ?_)
        clear hK K
        (try simp only [Act.put]); (try simp only [List.setIfInBounds_toArray]); (try simp only [List.set_cons_succ]); (try simp only [List.set_cons_zero])
        refine wpAnyH_take (i := 4) (v := ?_) (by simp only [List.getElem?_toArray, List.getElem?_cons_succ, List.getElem?_cons_zero]; rfl) (by kernel_rfl) (by kernel_rfl) (by kernel_rfl) (by exact fun _ _ _ h => h) (Or.inl ⟨by rfl, ?_⟩) (by assumption) ?_; rotate_left; focus (intro w hSw; (try dsimp only at hSw); first | (go_simp; done) | (go_simp; with_reducible rfl))
        (try simp only [Act.put]); (try simp only [List.setIfInBounds_toArray]); (try simp only [List.set_cons_succ]); (try simp only [List.set_cons_zero])
        refine wpAnyH_ready (rs := [1, 6]) (by kernel_rfl) (by simp) ?_
        refine AllReadyH.cons rfl (fun K hK => ?_) (AllReadyH.cons rfl (fun K hK => ?_) (AllReadyH.nil))
        · rw [if_pos (by rfl)]
          go_simp
          refine hK.out _ _ trivial (fun hHeld => ?_)
          clear hK K
          (try simp only [Act.put]); (try simp only [List.setIfInBounds_toArray]); (try simp only [List.set_cons_succ]); (try simp only [List.set_cons_zero])
          refine wpAnyH_ready (rs := [6]) (by kernel_rfl) (by simp) ?_
          refine AllReadyH.cons rfl (fun K hK => ?_) (AllReadyH.nil)
          rw [if_pos (by rfl)]
          go_simp
          go_at_call 42
          refine (l01Below_any p 30 _ (by omega) (by omega) SA0.out.cur).mono ?_
          rintro e wa1 ⟨y3, rfl, y3a, y3b, hc, hg⟩
          have SA1 := Lib.hid (SA0.out.step hg hc)
          have jA1 := SA1.out.c1
          have hy3w : IntKind.i64.wrap (20 + y3) = 20 + y3 := by rw [IntKind.wrap_i64]; omega
          clear hc hg
          have SAL := Lib.hid (SA1.out.below (Joins.below_alloc1 wa1 (.cells #[.int .i64 3, .int .i64 1, .int .i64 (700 + x3), .int .i64 (20 + y3), .bool true] 90)))
          have jL := SAL.out.c1
          have hlt := SA1.out.lt
          go_simp
          refine hK.out _ _ trivial (fun hHeld => ?_)
          clear hK K
          (try simp only [Act.put]); (try simp only [List.setIfInBounds_toArray]); (try simp only [List.set_cons_succ]); (try simp only [List.set_cons_zero])
          refine wpAnyH_take (i := 7) (v := ?_) (by simp only [List.getElem?_toArray, List.getElem?_cons_succ, List.getElem?_cons_zero]; rfl) (by kernel_rfl) (by kernel_rfl) (by kernel_rfl) (by exact fun _ _ _ h => h) (Or.inl ⟨by rfl, ?_⟩) (by assumption) ?_; rotate_left; focus (intro w hSw; (try dsimp only at hSw); first | (go_simp; done) | (go_simp; with_reducible rfl))
          (try simp only [Act.put]); (try simp only [List.setIfInBounds_toArray]); (try simp only [List.set_cons_succ]); (try simp only [List.set_cons_zero])
          refine wpAnyH_take (i := 8) (v := ?_) (by simp only [List.getElem?_toArray, List.getElem?_cons_succ, List.getElem?_cons_zero]; rfl) (by kernel_rfl) (by kernel_rfl) (by kernel_rfl) (by exact fun _ _ _ h => h) (Or.inl ⟨by rfl, ?_⟩) (by assumption) ?_; rotate_left; focus (intro w hSw; (try dsimp only at hSw); first | (go_simp; done) | (go_simp; with_reducible rfl))
          (try simp only [Act.put]); (try simp only [List.setIfInBounds_toArray]); (try simp only [List.set_cons_succ]); (try simp only [List.set_cons_zero])
          refine wpAnyH_ready (rs := [9]) (by kernel_rfl) (by simp) ?_
          refine AllReadyH.cons rfl (fun K hK => ?_) (AllReadyH.nil)
          rw [if_pos (by rfl)]
          go_simp
          refine hK.out _ _ trivial (fun hHeld => ?_)
          clear hK K
          (try simp only [Act.put]); (try simp only [List.setIfInBounds_toArray]); (try simp only [List.set_cons_succ]); (try simp only [List.set_cons_zero])
          refine wpAnyH_ready (rs := [10]) (by kernel_rfl) (by simp) ?_
          refine AllReadyH.cons rfl (fun K hK => ?_) (AllReadyH.nil)
          refine step_append_lies _ (by rfl) _ _ _ (by rfl) (w.heap.size + 1) 90 i0 _ 5 40 Try.underlying24 HI'.out.1 HI'.out.2.1 HI'.out.2.2.1 HI'.out.2.2.2 rfl (by omega) (.slice (some ⟨w9.heap.size, 0, none⟩) 3 3) 3 (((segs3 x0 y0 x1 y1 m x2 y2) : List SegmentD).flatMap SegmentD.cells) (by rfl) SAL.out.ownS ⟨wa1.heap.size, 0, none⟩ 1 1 [.int .i64 3, .int .i64 1, .int .i64 (700 + x3), .int .i64 (20 + y3), .bool true] (by rfl) (by rfl) (World.news_of_block (heap_alloc_new wa1 _)) (by simp [Value.oneCell']) (by omega) (by unfold maxLen; omega) (by omega) (by simp; omega) _ rfl ?_
          intro g4' cap4' w4' hown4 hgrow4 hor4 hlt4
          obtain ⟨t1, t2, t3⟩ := SAL.out.appS (d := (SegmentD.mk 3 1 (700 + x3) (20 + y3) true)) hown4 hgrow4 hor4
          have T3 := Lib.hid t3
          clear hown4 hgrow4 hor4 hlt4 t3
          refine hK.out _ _ trivial (fun hHeld => ?_)
          clear hK K
          (try simp only [Act.put]); (try simp only [List.setIfInBounds_toArray]); (try simp only [List.set_cons_succ]); (try simp only [List.set_cons_zero])
          refine wpAnyH_take (i := 11) (v := ?_) (by simp only [List.getElem?_toArray, List.getElem?_cons_succ, List.getElem?_cons_zero]; rfl) (by kernel_rfl) (by kernel_rfl) (by kernel_rfl) (by exact fun _ _ _ h => h) (Or.inl ⟨by rfl, ?_⟩) (by assumption) ?_; rotate_left; focus (intro w hSw; (try dsimp only at hSw); first | (go_simp; done) | (go_simp; with_reducible rfl))
          (try simp only [Act.put]); (try simp only [List.setIfInBounds_toArray]); (try simp only [List.set_cons_succ]); (try simp only [List.set_cons_zero])
          refine wpAnyH_ready (rs := [12]) (by kernel_rfl) (by simp) ?_
          refine AllReadyH.cons rfl (fun K hK => ?_) (AllReadyH.nil)
          rw [if_pos (by rfl)]
          go_simp
          refine hK.out _ _ trivial (fun hHeld => ?_)
          clear hK K
          (try simp only [Act.put]); (try simp only [List.setIfInBounds_toArray]); (try simp only [List.set_cons_succ]); (try simp only [List.set_cons_zero])
          refine wpAnyH_done (by kernel_rfl) ?_ _
          go_wp2_with fail
          go_meet
          exact ⟨x3, y3, _, _, rfl, x3a, x3b, y3a, y3b, T3⟩
        · rw [if_pos (by rfl)]
          go_simp
          go_at_call 42
          refine (l01Below_any p 30 _ (by omega) (by omega) SA0.out.cur).mono ?_
          rintro e wa1 ⟨y3, rfl, y3a, y3b, hc, hg⟩
          have SA1 := Lib.hid (SA0.out.step hg hc)
          have jA1 := SA1.out.c1
          have hy3w : IntKind.i64.wrap (20 + y3) = 20 + y3 := by rw [IntKind.wrap_i64]; omega
          clear hc hg
          have SAL := Lib.hid (SA1.out.below (Joins.below_alloc1 wa1 (.cells #[.int .i64 3, .int .i64 1, .int .i64 (700 + x3), .int .i64 (20 + y3), .bool true] 90)))
          have jL := SAL.out.c1
          have hlt := SA1.out.lt
          go_simp
          refine hK.out _ _ trivial (fun hHeld => ?_)
          clear hK K
          (try simp only [Act.put]); (try simp only [List.setIfInBounds_toArray]); (try simp only [List.set_cons_succ]); (try simp only [List.set_cons_zero])
          refine wpAnyH_take (i := 7) (v := ?_) (by simp only [List.getElem?_toArray, List.getElem?_cons_succ, List.getElem?_cons_zero]; rfl) (by kernel_rfl) (by kernel_rfl) (by kernel_rfl) (by exact fun _ _ _ h => h) (Or.inl ⟨by rfl, ?_⟩) (by assumption) ?_; rotate_left; focus (intro w hSw; (try dsimp only at hSw); first | (go_simp; done) | (go_simp; with_reducible rfl))
          (try simp only [Act.put]); (try simp only [List.setIfInBounds_toArray]); (try simp only [List.set_cons_succ]); (try simp only [List.set_cons_zero])
          refine wpAnyH_take (i := 8) (v := ?_) (by simp only [List.getElem?_toArray, List.getElem?_cons_succ, List.getElem?_cons_zero]; rfl) (by kernel_rfl) (by kernel_rfl) (by kernel_rfl) (by exact fun _ _ _ h => h) (Or.inl ⟨by rfl, ?_⟩) (by assumption) ?_; rotate_left; focus (intro w hSw; (try dsimp only at hSw); first | (go_simp; done) | (go_simp; with_reducible rfl))
          (try simp only [Act.put]); (try simp only [List.setIfInBounds_toArray]); (try simp only [List.set_cons_succ]); (try simp only [List.set_cons_zero])
          refine wpAnyH_ready (rs := [1, 9]) (by kernel_rfl) (by simp) ?_
          refine AllReadyH.cons rfl (fun K hK => ?_) (AllReadyH.cons rfl (fun K hK => ?_) (AllReadyH.nil))
          · rw [if_pos (by rfl)]
            go_simp
            refine hK.out _ _ trivial (fun hHeld => ?_)
            clear hK K
            (try simp only [Act.put]); (try simp only [List.setIfInBounds_toArray]); (try simp only [List.set_cons_succ]); (try simp only [List.set_cons_zero])
            refine wpAnyH_ready (rs := [9]) (by kernel_rfl) (by simp) ?_
            refine AllReadyH.cons rfl (fun K hK => ?_) (AllReadyH.nil)
            rw [if_pos (by rfl)]
            go_simp
            refine hK.out _ _ trivial (fun hHeld => ?_)
            clear hK K
            (try simp only [Act.put]); (try simp only [List.setIfInBounds_toArray]); (try simp only [List.set_cons_succ]); (try simp only [List.set_cons_zero])
            refine wpAnyH_ready (rs := [10]) (by kernel_rfl) (by simp) ?_
            refine AllReadyH.cons rfl (fun K hK => ?_) (AllReadyH.nil)
            refine step_append_lies _ (by rfl) _ _ _ (by rfl) (w.heap.size + 1) 90 i0 _ 5 40 Try.underlying24 HI'.out.1 HI'.out.2.1 HI'.out.2.2.1 HI'.out.2.2.2 rfl (by omega) (.slice (some ⟨w9.heap.size, 0, none⟩) 3 3) 3 (((segs3 x0 y0 x1 y1 m x2 y2) : List SegmentD).flatMap SegmentD.cells) (by rfl) SAL.out.ownS ⟨wa1.heap.size, 0, none⟩ 1 1 [.int .i64 3, .int .i64 1, .int .i64 (700 + x3), .int .i64 (20 + y3), .bool true] (by rfl) (by rfl) (World.news_of_block (heap_alloc_new wa1 _)) (by simp [Value.oneCell']) (by omega) (by unfold maxLen; omega) (by omega) (by simp; omega) _ rfl ?_
            intro g4' cap4' w4' hown4 hgrow4 hor4 hlt4
            obtain ⟨t1, t2, t3⟩ := SAL.out.appS (d := (SegmentD.mk 3 1 (700 + x3) (20 + y3) true)) hown4 hgrow4 hor4
            have T3 := Lib.hid t3
            clear hown4 hgrow4 hor4 hlt4 t3
            refine hK.out _ _ trivial (fun hHeld => ?_)
            clear hK K
            (try simp only [Act.put]); (try simp only [List.setIfInBounds_toArray]); (try simp only [List.set_cons_succ]); (try simp only [List.set_cons_zero])
            refine wpAnyH_take (i := 11) (v := ?_) (by simp only [List.getElem?_toArray, List.getElem?_cons_succ, List.getElem?_cons_zero]; rfl) (by kernel_rfl) (by kernel_rfl) (by kernel_rfl) (by exact fun _ _ _ h => h) (Or.inl ⟨by rfl, ?_⟩) (by assumption) ?_; rotate_left; focus (intro w hSw; (try dsimp only at hSw); first | (go_simp; done) | (go_simp; with_reducible rfl))
            (try simp only [Act.put]); (try simp only [List.setIfInBounds_toArray]); (try simp only [List.set_cons_succ]); (try simp only [List.set_cons_zero])
            refine wpAnyH_ready (rs := [12]) (by kernel_rfl) (by simp) ?_
            refine AllReadyH.cons rfl (fun K hK => ?_) (AllReadyH.nil)
            rw [if_pos (by rfl)]
            go_simp
            refine hK.out _ _ trivial (fun hHeld => ?_)
            clear hK K
            (try simp only [Act.put]); (try simp only [List.setIfInBounds_toArray]); (try simp only [List.set_cons_succ]); (try simp only [List.set_cons_zero])
            refine wpAnyH_done (by kernel_rfl) ?_ _
            go_wp2_with fail
            go_meet
            exact ⟨x3, y3, _, _, rfl, x3a, x3b, y3a, y3b, T3⟩
          · rw [if_pos (by rfl)]
            go_simp
            refine hK.out _ _ trivial (fun hHeld => ?_)
            clear hK K
            (try simp only [Act.put]); (try simp only [List.setIfInBounds_toArray]); (try simp only [List.set_cons_succ]); (try simp only [List.set_cons_zero])
            refine wpAnyH_ready (rs := [1]) (by kernel_rfl) (by simp) ?_
            refine AllReadyH.cons rfl (fun K hK => ?_) (AllReadyH.nil)
            rw [if_pos (by rfl)]
            go_simp
            refine hK.out _ _ trivial (fun hHeld => ?_)
            clear hK K
            (try simp only [Act.put]); (try simp only [List.setIfInBounds_toArray]); (try simp only [List.set_cons_succ]); (try simp only [List.set_cons_zero])
            refine wpAnyH_ready (rs := [10]) (by kernel_rfl) (by simp) ?_
            refine AllReadyH.cons rfl (fun K hK => ?_) (AllReadyH.nil)
            refine step_append_lies _ (by rfl) _ _ _ (by rfl) (w.heap.size + 1) 90 i0 _ 5 40 Try.underlying24 HI'.out.1 HI'.out.2.1 HI'.out.2.2.1 HI'.out.2.2.2 rfl (by omega) (.slice (some ⟨w9.heap.size, 0, none⟩) 3 3) 3 (((segs3 x0 y0 x1 y1 m x2 y2) : List SegmentD).flatMap SegmentD.cells) (by rfl) SAL.out.ownS ⟨wa1.heap.size, 0, none⟩ 1 1 [.int .i64 3, .int .i64 1, .int .i64 (700 + x3), .int .i64 (20 + y3), .bool true] (by rfl) (by rfl) (World.news_of_block (heap_alloc_new wa1 _)) (by simp [Value.oneCell']) (by omega) (by unfold maxLen; omega) (by omega) (by simp; omega) _ rfl ?_
            intro g4' cap4' w4' hown4 hgrow4 hor4 hlt4
            obtain ⟨t1, t2, t3⟩ := SAL.out.appS (d := (SegmentD.mk 3 1 (700 + x3) (20 + y3) true)) hown4 hgrow4 hor4
            have T3 := Lib.hid t3
            clear hown4 hgrow4 hor4 hlt4 t3
            refine hK.out _ _ trivial (fun hHeld => ?_)
            clear hK K
            (try simp only [Act.put]); (try simp only [List.setIfInBounds_toArray]); (try simp only [List.set_cons_succ]); (try simp only [List.set_cons_zero])
            refine wpAnyH_take (i := 11) (v := ?_) (by simp only [List.getElem?_toArray, List.getElem?_cons_succ, List.getElem?_cons_zero]; rfl) (by kernel_rfl) (by kernel_rfl) (by kernel_rfl) (by exact fun _ _ _ h => h) (Or.inl ⟨by rfl, ?_⟩) (by assumption) ?_; rotate_left; focus (intro w hSw; (try dsimp only at hSw); first | (go_simp; done) | (go_simp; with_reducible rfl))
            (try simp only [Act.put]); (try simp only [List.setIfInBounds_toArray]); (try simp only [List.set_cons_succ]); (try simp only [List.set_cons_zero])
            refine wpAnyH_ready (rs := [12]) (by kernel_rfl) (by simp) ?_
            refine AllReadyH.cons rfl (fun K hK => ?_) (AllReadyH.nil)
            rw [if_pos (by rfl)]
            go_simp
            refine hK.out _ _ trivial (fun hHeld => ?_)
            clear hK K
            (try simp only [Act.put]); (try simp only [List.setIfInBounds_toArray]); (try simp only [List.set_cons_succ]); (try simp only [List.set_cons_zero])
            refine wpAnyH_done (by kernel_rfl) ?_ _
            go_wp2_with fail
            go_meet
            exact ⟨x3, y3, _, _, rfl, x3a, x3b, y3a, y3b, T3⟩
    case rest =>
      obtain ⟨x3, y3, g3, c3, rfl, x3a, x3b, y3a, y3b, ST12⟩ := hcut
      clear ST11 C1 jS jD
      go_wp2_with fail
      refine (l01Once_any p 3 _ (by omega) (by omega) ST12.out.cur).mono ?_
      rintro e wC ⟨e4, rfl, hc, hg⟩
      have STC := Lib.hid (ST12.out.step hg hc)
      clear hc hg ST12
      cases e4 with
      | false =>
        have jc0 := STC.out.c0
        have jc1 := STC.out.c1
        have jk0 := STC.out.k0
        have jk1 := STC.out.k1
        have jg0 := STC.out.g0
        have jg1 := STC.out.g1
        have hne : w.heap.size ≠ w1.heap.size + 1 := by omega
        have hne' : w1.heap.size + 1 ≠ w.heap.size := by omega
        go_wp2
        refine bodyPost_ret (v := .agg #[(.slice (some ⟨w1.heap.size, 0, none⟩) 4 4), (.slice (some ⟨g3, 0, none⟩) 4 c3)]) (by simp [results, Try.results39, go_sem, *]) rfl (STC.out.fin ⟨b, m, true, false, x0, y0, x1, y1, x2, y2, x3, y3, 0⟩ ?_ rfl)
        exact ⟨⟨x0a, x0b⟩, ⟨y0a, y0b⟩, ⟨x1a, x1b⟩, ⟨y1a, y1b⟩, ⟨x2a, x2b⟩, ⟨y2a, y2b⟩, by simp <;> omega, by simp <;> omega, by simp⟩
      | true =>
        have jc0 := STC.out.c0
        have AL := Lib.hid (STC.out.below (Joins.below_alloc1 wC (.cells #[.string ⟨#[100, 111, 99, 107]⟩, .bool true] 99)))
        have HN := Lib.hid (World.news_of_block (heap_alloc_new wC (.cells #[.string ⟨#[100, 111, 99, 107]⟩, .bool true] 99)))
        have hcs : w.heap.size + 1 ≤ wC.heap.size + 1 := by have := STC.out.lt; omega
        have hip := HIP.out
        go_upto_region 7 with (at_builtin; refine wpList_append_lies _ rfl _ _ _ rfl (w.heap.size + 1) 99 i1 _ 2 24 Try.underlying23 hip.1 hip.2.1 hip.2.2.1 hip.2.2.2 rfl (by omega) (.slice (some ⟨w1.heap.size, 0, none⟩) 4 4) 4 ((pts4 b).flatMap PointD.cells) rfl AL.out.ownP ⟨wC.heap.size, 0, none⟩ 1 1 [.string ⟨#[100, 111, 99, 107]⟩, .bool true] (by first | rfl | simp) rfl HN.out (by simp [Value.oneCell']) (by omega) (by unfold maxLen; omega) (by omega) (by simp; omega) _ rfl ?_; intro g4 cap4 w4 hown4 hgrow4 hor4 hlt4; obtain ⟨t1, t2, t3⟩ := AL.out.appP (d := ⟨dock, true⟩) hown4 hgrow4 hor4; have T3 := Lib.hid t3; clear hown4 hgrow4 hor4 hlt4 t3)
        obtain ⟨W6, hW6⟩ : ∃ W, W = (w4.setCell ⟨w1.heap.size + 1, 0, none⟩ (.slice (some ⟨g4, 0, none⟩) 5 cap4)) := ⟨_, rfl⟩
        have ST6 : Hid (ChDraw w p w.heap.size (w1.heap.size + 1) (.slice (some ⟨g4, 0, none⟩) 5 cap4) (.slice (some ⟨g3, 0, none⟩) 4 c3) (pts4 b ++ [⟨dock, true⟩]) ((segs3 x0 y0 x1 y1 m x2 y2) ++ [SegmentD.mk 3 1 (700 + x3) (20 + y3) true]) W6) := by rw [hW6]; exact T3
        have HW6 := Lib.hid hW6
        clear hW6 T3 t1 t2 AL HN
        rw [← HW6.out]
        clear HW6
        have C1 := Lib.hid (l01Below_any p 300 W6.drew (by omega) (by omega) ST6.out.drew.cur)
        have hi := HI.out
        have HI' := Lib.hid hi
        clear hi
        have jS := ST6.out.c1
        have jD : W6.drew.cell? ⟨w1.heap.size + 1, 1, none⟩ = some (.slice (some ⟨g3, 0, none⟩) 4 c3) := jS
        go_cut [66] (fun sL wx => ∃ (x4 : Int) (g c : Nat), sL = .slice (some ⟨g, 0, none⟩) 5 c ∧ 0 ≤ x4 ∧ x4 < 300 ∧ Hid (ChDraw w p w.heap.size (w1.heap.size + 1) (.slice (some ⟨g4, 0, none⟩) 5 cap4) (.slice (some ⟨g, 0, none⟩) 5 c) (pts4 b ++ [⟨dock, true⟩]) (((segs3 x0 y0 x1 y1 m x2 y2) ++ [SegmentD.mk 3 1 (700 + x3) (20 + y3) true]) ++ [(SegmentD.mk 2 4 (800 + x4) 15 false)]) wx))
        case first =>
          refine wp_region_held_drew (S := fun _ => True) (by kernel_rfl) trivial (fun hHeld => ?_)
          refine wpAnyH_take (i := 0) (v := ?_) (by simp only [List.getElem?_toArray, List.getElem?_cons_zero]; rfl) (by kernel_rfl) (by kernel_rfl) (by kernel_rfl) (by exact fun _ _ _ h => h) (Or.inl ⟨by rfl, ?_⟩) (by assumption) ?_; rotate_left; focus (intro w hSw; (try dsimp only at hSw); first | (go_simp; done) | (go_simp; with_reducible rfl))
          (try simp only [Act.put]); (try simp only [List.setIfInBounds_toArray]); (try simp only [List.set_cons_succ]); (try simp only [List.set_cons_zero])
          refine wpAnyH_take (i := 2) (v := ?_) (by simp only [List.getElem?_toArray, List.getElem?_cons_succ, List.getElem?_cons_zero]; rfl) (by kernel_rfl) (by kernel_rfl) (by kernel_rfl) (by exact fun _ _ _ h => h) (Or.inl ⟨by rfl, ?_⟩) (by assumption) ?_; rotate_left; focus (intro w hSw; (try dsimp only at hSw); first | (go_simp; done) | (go_simp; with_reducible rfl))
          (try simp only [Act.put]); (try simp only [List.setIfInBounds_toArray]); (try simp only [List.set_cons_succ]); (try simp only [List.set_cons_zero])
          refine wpAnyH_ready (rs := [1, 3]) (by kernel_rfl) (by simp) ?_
          refine AllReadyH.cons rfl (fun K hK => ?_) (AllReadyH.cons rfl (fun K hK => ?_) (AllReadyH.nil))
          · rw [if_pos (by rfl)]
            go_simp
            refine hK.out _ _ trivial (fun hHeld => ?_)
            clear hK K
            (try simp only [Act.put]); (try simp only [List.setIfInBounds_toArray]); (try simp only [List.set_cons_succ]); (try simp only [List.set_cons_zero])
            refine wpAnyH_ready (rs := [3]) (by kernel_rfl) (by simp) ?_
            refine AllReadyH.cons rfl (fun K hK => ?_) (AllReadyH.nil)
            rw [if_pos (by rfl)]
            go_simp
            go_at_call 42
            refine C1.out.mono ?_
            rintro e wa0 ⟨x4, rfl, x4a, x4b, hc, hg⟩
            have SA0 := Lib.hid (ST6.out.drew.step hg hc)
            have jA0 := SA0.out.c1
            have hx4w : IntKind.i64.wrap (800 + x4) = 800 + x4 := by rw [IntKind.wrap_i64]; omega
            clear hc hg
            have SAL := Lib.hid (SA0.out.below (Joins.below_alloc1 wa0 (.cells #[.int .i64 2, .int .i64 4, .int .i64 (800 + x4), .int .i64 15, .bool false] 90)))
            have jL := SAL.out.c1
            have hlt := SA0.out.lt
            go_simp
            refine hK.out _ _ trivial (fun hHeld => ?_)
            clear hK K
            (try simp only [Act.put]); (try simp only [List.setIfInBounds_toArray]); (try simp only [List.set_cons_succ]); (try simp only [List.set_cons_zero])
            refine wpAnyH_take (i := 4) (v := ?_) (by simp only [List.getElem?_toArray, List.getElem?_cons_succ, List.getElem?_cons_zero]; rfl) (by kernel_rfl) (by kernel_rfl) (by kernel_rfl) (by exact fun _ _ _ h => h) (Or.inl ⟨by rfl, ?_⟩) (by assumption) ?_; rotate_left; focus (intro w hSw; (try dsimp only at hSw); first | (go_simp; done) | (go_simp; with_reducible rfl))
            (try simp only [Act.put]); (try simp only [List.setIfInBounds_toArray]); (try simp only [List.set_cons_succ]); (try simp only [List.set_cons_zero])
            refine wpAnyH_take (i := 5) (v := ?_) (by simp only [List.getElem?_toArray, List.getElem?_cons_succ, List.getElem?_cons_zero]; rfl) (by kernel_rfl) (by kernel_rfl) (by kernel_rfl) (by exact fun _ _ _ h => h) (Or.inl ⟨by rfl, ?_⟩) (by assumption) ?_; rotate_left; focus (intro w hSw; (try dsimp only at hSw); first | (go_simp; done) | (go_simp; with_reducible rfl))
            (try simp only [Act.put]); (try simp only [List.setIfInBounds_toArray]); (try simp only [List.set_cons_succ]); (try simp only [List.set_cons_zero])
            refine wpAnyH_ready (rs := [6]) (by kernel_rfl) (by simp) ?_
            refine AllReadyH.cons rfl (fun K hK => ?_) (AllReadyH.nil)
            rw [if_pos (by rfl)]
            go_simp
            refine hK.out _ _ trivial (fun hHeld => ?_)
            clear hK K
            (try simp only [Act.put]); (try simp only [List.setIfInBounds_toArray]); (try simp only [List.set_cons_succ]); (try simp only [List.set_cons_zero])
            refine wpAnyH_ready (rs := [7]) (by kernel_rfl) (by simp) ?_
            refine AllReadyH.cons rfl (fun K hK => ?_) (AllReadyH.nil)
            refine step_append_lies _ (by rfl) _ _ _ (by rfl) (w.heap.size + 1) 90 i0 _ 5 40 Try.underlying24 HI'.out.1 HI'.out.2.1 HI'.out.2.2.1 HI'.out.2.2.2 rfl (by omega) (.slice (some ⟨g3, 0, none⟩) 4 c3) 4 ((((segs3 x0 y0 x1 y1 m x2 y2) ++ [SegmentD.mk 3 1 (700 + x3) (20 + y3) true]) : List SegmentD).flatMap SegmentD.cells) (by rfl) SAL.out.ownS ⟨wa0.heap.size, 0, none⟩ 1 1 [.int .i64 2, .int .i64 4, .int .i64 (800 + x4), .int .i64 15, .bool false] (by rfl) (by rfl) (World.news_of_block (heap_alloc_new wa0 _)) (by simp [Value.oneCell']) (by omega) (by unfold maxLen; omega) (by omega) (by simp; omega) _ rfl ?_
            intro g4' cap4' w4' hown4 hgrow4 hor4 hlt4
            obtain ⟨t1, t2, t3⟩ := SAL.out.appS (d := (SegmentD.mk 2 4 (800 + x4) 15 false)) hown4 hgrow4 hor4
            have T3 := Lib.hid t3
            clear hown4 hgrow4 hor4 hlt4 t3
            refine hK.out _ _ trivial (fun hHeld => ?_)
            clear hK K
            (try simp only [Act.put]); (try simp only [List.setIfInBounds_toArray]); (try simp only [List.set_cons_succ]); (try simp only [List.set_cons_zero])
            refine wpAnyH_take (i := 8) (v := ?_) (by simp only [List.getElem?_toArray, List.getElem?_cons_succ, List.getElem?_cons_zero]; rfl) (by kernel_rfl) (by kernel_rfl) (by kernel_rfl) (by exact fun _ _ _ h => h) (Or.inl ⟨by rfl, ?_⟩) (by assumption) ?_; rotate_left; focus (intro w hSw; (try dsimp only at hSw); first | (go_simp; done) | (go_simp; with_reducible rfl))
            (try simp only [Act.put]); (try simp only [List.setIfInBounds_toArray]); (try simp only [List.set_cons_succ]); (try simp only [List.set_cons_zero])
            refine wpAnyH_ready (rs := [9]) (by kernel_rfl) (by simp) ?_
            refine AllReadyH.cons rfl (fun K hK => ?_) (AllReadyH.nil)
            rw [if_pos (by rfl)]
            go_simp
            refine hK.out _ _ trivial (fun hHeld => ?_)
            clear hK K
            (try simp only [Act.put]); (try simp only [List.setIfInBounds_toArray]); (try simp only [List.set_cons_succ]); (try simp only [List.set_cons_zero])
            refine wpAnyH_done (by kernel_rfl) ?_ _
            go_wp2_with fail
            go_meet
            exact ⟨x4, _, _, rfl, x4a, x4b, T3⟩
          · rw [if_pos (by rfl)]
            go_simp
            go_at_call 42
            refine C1.out.mono ?_
            rintro e wa0 ⟨x4, rfl, x4a, x4b, hc, hg⟩
            have SA0 := Lib.hid (ST6.out.drew.step hg hc)
            have jA0 := SA0.out.c1
            have hx4w : IntKind.i64.wrap (800 + x4) = 800 + x4 := by rw [IntKind.wrap_i64]; omega
            clear hc hg
            have SAL := Lib.hid (SA0.out.below (Joins.below_alloc1 wa0 (.cells #[.int .i64 2, .int .i64 4, .int .i64 (800 + x4), .int .i64 15, .bool false] 90)))
            have jL := SAL.out.c1
            have hlt := SA0.out.lt
            go_simp
            refine hK.out _ _ trivial (fun hHeld => ?_)
            clear hK K
            (try simp only [Act.put]); (try simp only [List.setIfInBounds_toArray]); (try simp only [List.set_cons_succ]); (try simp only [List.set_cons_zero])
            refine wpAnyH_take (i := 4) (v := ?_) (by simp only [List.getElem?_toArray, List.getElem?_cons_succ, List.getElem?_cons_zero]; rfl) (by kernel_rfl) (by kernel_rfl) (by kernel_rfl) (by exact fun _ _ _ h => h) (Or.inl ⟨by rfl, ?_⟩) (by assumption) ?_; rotate_left; focus (intro w hSw; (try dsimp only at hSw); first | (go_simp; done) | (go_simp; with_reducible rfl))
            (try simp only [Act.put]); (try simp only [List.setIfInBounds_toArray]); (try simp only [List.set_cons_succ]); (try simp only [List.set_cons_zero])
            refine wpAnyH_take (i := 5) (v := ?_) (by simp only [List.getElem?_toArray, List.getElem?_cons_succ, List.getElem?_cons_zero]; rfl) (by kernel_rfl) (by kernel_rfl) (by kernel_rfl) (by exact fun _ _ _ h => h) (Or.inl ⟨by rfl, ?_⟩) (by assumption) ?_; rotate_left; focus (intro w hSw; (try dsimp only at hSw); first | (go_simp; done) | (go_simp; with_reducible rfl))
            (try simp only [Act.put]); (try simp only [List.setIfInBounds_toArray]); (try simp only [List.set_cons_succ]); (try simp only [List.set_cons_zero])
            refine wpAnyH_ready (rs := [1, 6]) (by kernel_rfl) (by simp) ?_
            refine AllReadyH.cons rfl (fun K hK => ?_) (AllReadyH.cons rfl (fun K hK => ?_) (AllReadyH.nil))
            · rw [if_pos (by rfl)]
              go_simp
              refine hK.out _ _ trivial (fun hHeld => ?_)
              clear hK K
              (try simp only [Act.put]); (try simp only [List.setIfInBounds_toArray]); (try simp only [List.set_cons_succ]); (try simp only [List.set_cons_zero])
              refine wpAnyH_ready (rs := [6]) (by kernel_rfl) (by simp) ?_
              refine AllReadyH.cons rfl (fun K hK => ?_) (AllReadyH.nil)
              rw [if_pos (by rfl)]
              go_simp
              refine hK.out _ _ trivial (fun hHeld => ?_)
              clear hK K
              (try simp only [Act.put]); (try simp only [List.setIfInBounds_toArray]); (try simp only [List.set_cons_succ]); (try simp only [List.set_cons_zero])
              refine wpAnyH_ready (rs := [7]) (by kernel_rfl) (by simp) ?_
              refine AllReadyH.cons rfl (fun K hK => ?_) (AllReadyH.nil)
              refine step_append_lies _ (by rfl) _ _ _ (by rfl) (w.heap.size + 1) 90 i0 _ 5 40 Try.underlying24 HI'.out.1 HI'.out.2.1 HI'.out.2.2.1 HI'.out.2.2.2 rfl (by omega) (.slice (some ⟨g3, 0, none⟩) 4 c3) 4 ((((segs3 x0 y0 x1 y1 m x2 y2) ++ [SegmentD.mk 3 1 (700 + x3) (20 + y3) true]) : List SegmentD).flatMap SegmentD.cells) (by rfl) SAL.out.ownS ⟨wa0.heap.size, 0, none⟩ 1 1 [.int .i64 2, .int .i64 4, .int .i64 (800 + x4), .int .i64 15, .bool false] (by rfl) (by rfl) (World.news_of_block (heap_alloc_new wa0 _)) (by simp [Value.oneCell']) (by omega) (by unfold maxLen; omega) (by omega) (by simp; omega) _ rfl ?_
              intro g4' cap4' w4' hown4 hgrow4 hor4 hlt4
              obtain ⟨t1, t2, t3⟩ := SAL.out.appS (d := (SegmentD.mk 2 4 (800 + x4) 15 false)) hown4 hgrow4 hor4
              have T3 := Lib.hid t3
              clear hown4 hgrow4 hor4 hlt4 t3
              refine hK.out _ _ trivial (fun hHeld => ?_)
              clear hK K
              (try simp only [Act.put]); (try simp only [List.setIfInBounds_toArray]); (try simp only [List.set_cons_succ]); (try simp only [List.set_cons_zero])
              refine wpAnyH_take (i := 8) (v := ?_) (by simp only [List.getElem?_toArray, List.getElem?_cons_succ, List.getElem?_cons_zero]; rfl) (by kernel_rfl) (by kernel_rfl) (by kernel_rfl) (by exact fun _ _ _ h => h) (Or.inl ⟨by rfl, ?_⟩) (by assumption) ?_; rotate_left; focus (intro w hSw; (try dsimp only at hSw); first | (go_simp; done) | (go_simp; with_reducible rfl))
              (try simp only [Act.put]); (try simp only [List.setIfInBounds_toArray]); (try simp only [List.set_cons_succ]); (try simp only [List.set_cons_zero])
              refine wpAnyH_ready (rs := [9]) (by kernel_rfl) (by simp) ?_
              refine AllReadyH.cons rfl (fun K hK => ?_) (AllReadyH.nil)
              rw [if_pos (by rfl)]
              go_simp
              refine hK.out _ _ trivial (fun hHeld => ?_)
              clear hK K
              (try simp only [Act.put]); (try simp only [List.setIfInBounds_toArray]); (try simp only [List.set_cons_succ]); (try simp only [List.set_cons_zero])
              refine wpAnyH_done (by kernel_rfl) ?_ _
              go_wp2_with fail
              go_meet
              exact ⟨x4, _, _, rfl, x4a, x4b, T3⟩
            · rw [if_pos (by rfl)]
              go_simp
              refine hK.out _ _ trivial (fun hHeld => ?_)
              clear hK K
              (try simp only [Act.put]); (try simp only [List.setIfInBounds_toArray]); (try simp only [List.set_cons_succ]); (try simp only [List.set_cons_zero])
              refine wpAnyH_ready (rs := [1]) (by kernel_rfl) (by simp) ?_
              refine AllReadyH.cons rfl (fun K hK => ?_) (AllReadyH.nil)
              rw [if_pos (by rfl)]
              go_simp
              refine hK.out _ _ trivial (fun hHeld => ?_)
              clear hK K
              (try simp only [Act.put]); (try simp only [List.setIfInBounds_toArray]); (try simp only [List.set_cons_succ]); (try simp only [List.set_cons_zero])
              refine wpAnyH_ready (rs := [7]) (by kernel_rfl) (by simp) ?_
              refine AllReadyH.cons rfl (fun K hK => ?_) (AllReadyH.nil)
              refine step_append_lies _ (by rfl) _ _ _ (by rfl) (w.heap.size + 1) 90 i0 _ 5 40 Try.underlying24 HI'.out.1 HI'.out.2.1 HI'.out.2.2.1 HI'.out.2.2.2 rfl (by omega) (.slice (some ⟨g3, 0, none⟩) 4 c3) 4 ((((segs3 x0 y0 x1 y1 m x2 y2) ++ [SegmentD.mk 3 1 (700 + x3) (20 + y3) true]) : List SegmentD).flatMap SegmentD.cells) (by rfl) SAL.out.ownS ⟨wa0.heap.size, 0, none⟩ 1 1 [.int .i64 2, .int .i64 4, .int .i64 (800 + x4), .int .i64 15, .bool false] (by rfl) (by rfl) (World.news_of_block (heap_alloc_new wa0 _)) (by simp [Value.oneCell']) (by omega) (by unfold maxLen; omega) (by omega) (by simp; omega) _ rfl ?_
              intro g4' cap4' w4' hown4 hgrow4 hor4 hlt4
              obtain ⟨t1, t2, t3⟩ := SAL.out.appS (d := (SegmentD.mk 2 4 (800 + x4) 15 false)) hown4 hgrow4 hor4
              have T3 := Lib.hid t3
              clear hown4 hgrow4 hor4 hlt4 t3
              refine hK.out _ _ trivial (fun hHeld => ?_)
              clear hK K
              (try simp only [Act.put]); (try simp only [List.setIfInBounds_toArray]); (try simp only [List.set_cons_succ]); (try simp only [List.set_cons_zero])
              refine wpAnyH_take (i := 8) (v := ?_) (by simp only [List.getElem?_toArray, List.getElem?_cons_succ, List.getElem?_cons_zero]; rfl) (by kernel_rfl) (by kernel_rfl) (by kernel_rfl) (by exact fun _ _ _ h => h) (Or.inl ⟨by rfl, ?_⟩) (by assumption) ?_; rotate_left; focus (intro w hSw; (try dsimp only at hSw); first | (go_simp; done) | (go_simp; with_reducible rfl))
              (try simp only [Act.put]); (try simp only [List.setIfInBounds_toArray]); (try simp only [List.set_cons_succ]); (try simp only [List.set_cons_zero])
              refine wpAnyH_ready (rs := [9]) (by kernel_rfl) (by simp) ?_
              refine AllReadyH.cons rfl (fun K hK => ?_) (AllReadyH.nil)
              rw [if_pos (by rfl)]
              go_simp
              refine hK.out _ _ trivial (fun hHeld => ?_)
              clear hK K
              (try simp only [Act.put]); (try simp only [List.setIfInBounds_toArray]); (try simp only [List.set_cons_succ]); (try simp only [List.set_cons_zero])
              refine wpAnyH_done (by kernel_rfl) ?_ _
              go_wp2_with fail
              go_meet
              exact ⟨x4, _, _, rfl, x4a, x4b, T3⟩
        case rest =>
          obtain ⟨x4, g5, c5, rfl, x4a, x4b, STD⟩ := hcut
          have jc0 := STD.out.c0
          have jc1 := STD.out.c1
          have jk0 := STD.out.k0
          have jk1 := STD.out.k1
          have jg0 := STD.out.g0
          have jg1 := STD.out.g1
          have hne : w.heap.size ≠ w1.heap.size + 1 := by omega
          have hne' : w1.heap.size + 1 ≠ w.heap.size := by omega
          clear ST6
          go_wp2
          refine bodyPost_ret (v := .agg #[.slice (some ⟨g4, 0, none⟩) 5 cap4, .slice (some ⟨g5, 0, none⟩) 5 c5]) (by simp [results, Try.results39, go_sem, *]) rfl (STD.out.fin ⟨b, m, true, true, x0, y0, x1, y1, x2, y2, x3, y3, x4⟩ ?_ rfl)
          exact ⟨⟨x0a, x0b⟩, ⟨y0a, y0b⟩, ⟨x1a, x1b⟩, ⟨y1a, y1b⟩, ⟨x2a, x2b⟩, ⟨y2a, y2b⟩, by simp <;> omega, by simp <;> omega, x4a, x4b⟩

/-- What MakeChart leaves. -/
def MadeChart (w : World) (e : Ending) (w' : World) : Prop := ∃ (r : ChartRnd) (A : Option Addr) (a : Nat) (B : Option Addr) (b : Nat), r.ok ∧ e = .returned (.agg #[.slice A r.chart.points.length a, .slice B r.chart.segs.length b]) ∧
  RdChart w' (.slice A r.chart.points.length a) (.slice B r.chart.segs.length b) r.chart ∧ Below w.heap.size w w'
theorem chart_len (r : ChartRnd) : r.chart.points.length ≤ 5 ∧ r.chart.segs.length ≤ 5 := by
  obtain ⟨b, m, e3, e4, x0, y0, x1, y1, x2, y2, x3, y3, x4⟩ := r
  cases e3 <;> cases e4 <;> simp [ChartRnd.chart]

end Go.Proofs.Ytpglaffmmddcdaa
