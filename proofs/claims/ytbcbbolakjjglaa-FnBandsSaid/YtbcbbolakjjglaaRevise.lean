/- ReviseBand of the program: contract. -/
import Derived.Test.YtbcbbolakjjglaaRevise0
import Derived.Test.YtbcbbolakjjglaaCopyTide
import Derived.BigRegion
namespace Go.Proofs.Ytbcbbolakjjglaa
open Go.RowKit
set_option maxRecDepth 100000

def revB (m : Int) (l : List PartD) (s : List SurgeD) (t lo hi : Int) : Bool := sAt m l s t && fcB m l (revL s t lo hi)
theorem revB_no1 {m : Int} {l : List PartD} {s : List SurgeD} {t lo hi : Int} (h : sAt m l s t = false) : revB m l s t lo hi = false := by unfold revB; rw [h]; rfl
theorem revB_yes {m : Int} {l : List PartD} {s : List SurgeD} {t lo hi : Int} (h : sAt m l s t = true) : revB m l s t lo hi = fcB m l (revL s t lo hi) := by unfold revB; rw [h]; rfl

/-- What ReviseBand leaves: a forecast over two new lists, or the zero value. -/
def RevPost (m : Int) (l : List PartD) (s : List SurgeD) (t lo hi : Int) (w : World) (e : Ending) (w' : World) : Prop :=
  ∃ v u, e = .returned (.tuple #[.agg #[.int .i64 (if revB m l s t lo hi = true then m else 0), v, u], .bool (revB m l s t lo hi)]) ∧ OwnP w' w.heap.size v (if revB m l s t lo hi = true then l else []) ∧ OwnSurge w' w.heap.size u (if revB m l s t lo hi = true then revL s t lo hi else []) ∧ Apart v u ∧ Below w.heap.size w w'
theorem rev_no {m : Int} {l : List PartD} {s : List SurgeD} {t lo hi : Int} {w w' : World} (h : revB m l s t lo hi = false) (hb : Below w.heap.size w w') : RevPost m l s t lo hi w (.returned (.tuple #[.agg #[.int .i64 0, .slice none 0 0, .slice none 0 0], .bool false])) w' := by
  refine ⟨.slice none 0 0, .slice none 0 0, ?_, ?_, ?_, ?_, hb⟩
  · rw [h]; rfl
  · rw [h]; exact World.ownsRow_nil _ _ _ _
  · rw [h]; exact World.ownsRow_nil _ _ _ _
  · intro g hg; cases hg
theorem rev_yes {m : Int} {l : List PartD} {s : List SurgeD} {t lo hi : Int} {w w' : World} {v u : Value} (h : revB m l s t lo hi = true) (h1 : OwnP w' w.heap.size v l) (h2 : OwnSurge w' w.heap.size u (revL s t lo hi)) (h3 : Apart v u) (hb : Below w.heap.size w w') : RevPost m l s t lo hi w (.returned (.tuple #[.agg #[.int .i64 m, v, u], .bool true])) w' := by
  refine ⟨v, u, ?_, ?_, ?_, h3, hb⟩
  · rw [h]; rfl
  · rw [h]; exact h1
  · rw [h]; exact h2

theorem set_two (A B : List Value) (a b c b' c' : Value) : ((A ++ ([a, b, c] ++ B)).set (A.length + 1) b').set (A.length + 2) c' = A ++ ([a, b', c'] ++ B) := by
  rw [List.set_append_right _ _ (by omega), List.set_append_right _ _ (by omega)]
  congr 1
  simp

theorem OwnOf_sl {w : World} {base : Nat} {v : Value} {l : List PartD} (h : OwnP w base v l) (hl : l.length ≤ 1000000000) : SlP w v l := own_sl partLen h hl
theorem OwnSurge_sl {w : World} {base : Nat} {v : Value} {l : List SurgeD} {n : Nat} (_ : l.length = n) (h : OwnSurge w base v l) (hl : l.length ≤ 1000000000) : SlSurge w v l := h.sl hl
theorem row_cell {w : World} {g : Nat} {l : List SurgeD} {R : List Value} {t : TypeId} (hg : w.heap[g]? = some (.cells (l.flatMap SurgeD.cells ++ R).toArray t (0, 0))) (i : Nat) (x : SurgeD) (hx : l[i]? = some x) :
    w.cell? ⟨g, i * 3, none⟩ = some (.int .i64 x.fr) ∧ w.cell? ⟨g, i * 3 + 1, none⟩ = some (.int .i64 x.lo) ∧ w.cell? ⟨g, i * 3 + 2, none⟩ = some (.int .i64 x.hi) := by
  have hi := (List.getElem?_eq_some_iff.1 hx).1
  have hl := flat_len surgeLen l
  have key : ∀ j u, x.cells[j]? = some u → w.cell? ⟨g, i * 3 + j, none⟩ = some u := by
    intro j u hj
    have hj3 : j < 3 := (List.getElem?_eq_some_iff.1 hj).1
    rw [Joins.cell_of_block hg]
    simp only [List.getElem?_toArray]
    rw [List.getElem?_append_left (by omega)]
    exact flat_at surgeLen l i x hx j u hj
  exact ⟨key 0 _ rfl, key 1 _ rfl, key 2 _ rfl⟩

set_option maxHeartbeats 4000000 in
theorem implReviseBand (m : Int) (v u : Value) (l : List PartD) (s : List SurgeD) (t lo hi : Int) (w : World) (h : SlP w v l) (h' : SlSurge w u s) :
    Calls Try.prog 21 #[.agg #[.int .i64 m, v, u], .int .i64 t, .int .i64 lo, .int .i64 hi] w (RevPost m l s t lo hi w) := by
  have H := Lib.hid h
  have H' := Lib.hid h'
  obtain ⟨A, c, rfl⟩ := h.at
  obtain ⟨A', c', rfl⟩ := h'.at
  clear h h'
  have F0 := FBox.new 28 (m := m) H.out H'.out
  have hal := Joins.below_alloc1 (w.alloc (.cells #[.int .i64 m, .slice A l.length c, .slice A' s.length c'] 28)) (.cells #[.int .i64 0, .slice none 0 0, .slice none 0 0] 28)
  have F1 := Lib.hid (F0.below hal)
  have B1 := Lib.hid ((Joins.below_alloc1 w (.cells #[.int .i64 m, .slice A l.length c, .slice A' s.length c'] 28)).trans (hal.mono (by simp)))
  clear F0 hal
  have eS : ((w.alloc (.cells #[.int .i64 m, .slice A l.length c, .slice A' s.length c'] 28)).alloc (.cells #[.int .i64 0, .slice none 0 0, .slice none 0 0] 28)).heap.size = w.heap.size + 2 := by simp
  have ES := Lib.hid eS
  clear eS
  cases hf : fcB m l s with
  | false =>
    have HF := Lib.hid hf
    have E := Lib.hid (revB_no1 (lo := lo) (hi := hi) (sAt_no1 (t := t) hf))
    clear hf
    go_enter Try.func21, Try.ntmps21
    go_wp2_with fail
    refine (implForecastOk m _ _ l s _ F1.out.2.2.2.1 F1.out.2.2.2.2).mono ?_
    rw [HF.out]
    rintro e w1 ⟨rfl, hb1⟩
    have B2 := Lib.hid (B1.out.trans (hb1.mono B1.out.size))
    obtain ⟨hc, hfz⟩ := bcell hb1
    clear hb1
    go_wp2
    refine bodyPost_ret (v := .tuple #[.agg #[.int .i64 0, .slice none 0 0, .slice none 0 0], .bool false]) (by simp [results, Try.results21, go_sem, *]) rfl (rev_no E.out ?_)
    repeat (first | exact B2.out | refine Below.setCell ?_ (by simp <;> omega) _)
  | true =>
    cases hm : inB t 0 2880 with
    | false =>
      have HF := Lib.hid hf
      have HM := Lib.hid hm
      have E := Lib.hid (revB_no1 (lo := lo) (hi := hi) (sAt_no2 (m := m) (l := l) (s := s) hm))
      clear hf hm
      go_enter Try.func21, Try.ntmps21
      go_wp2_with fail
      refine (implForecastOk m _ _ l s _ F1.out.2.2.2.1 F1.out.2.2.2.2).mono ?_
      rw [HF.out]
      rintro e w1 ⟨rfl, hb1⟩
      have B2 := Lib.hid (B1.out.trans (hb1.mono B1.out.size))
      obtain ⟨hc, hfz⟩ := bcell hb1
      clear hb1
      go_wp2_with fail
      refine (isMinute_any _ _).mono ?_
      rw [HM.out]
      rintro e w2 ⟨rfl, rfl⟩
      go_wp2
      refine bodyPost_ret (v := .tuple #[.agg #[.int .i64 0, .slice none 0 0, .slice none 0 0], .bool false]) (by simp [results, Try.results21, go_sem, *]) rfl (rev_no E.out ?_)
      repeat (first | exact B2.out | refine Below.setCell ?_ (by simp <;> omega) _)
    | true =>
      obtain ⟨_, s0, s6, hh, hall⟩ := fcB_true hf
      have hat := sAt_mk hf hm
      obtain ⟨_, t0, t1⟩ := sAt_true hat
      have s0 : 0 < s.length := s0
      have HF := Lib.hid hf
      have HM := Lib.hid hm
      have ER := Lib.hid (revB_yes (lo := lo) (hi := hi) hat)
      have HH := Lib.hid (headB_le hh t0)
      obtain ⟨PA, PB, e1, e2, e3, hPA, hPB⟩ := cutL_parts s0 (asc_of hall) (headB_le hh t0) lo hi
      obtain ⟨x, ex⟩ : ∃ x, atS s t = x := ⟨_, rfl⟩
      rw [ex] at e1 e2
      obtain ⟨xa, xl, xh⟩ := x
      simp only at e1
      have hlen : (cutL s t).length ≤ 7 := by
        unfold cutL
        split
        · omega
        · rw [insL_length _ _ _ (by have := lastLe_lt (s := s) (t := t) s0 _ (Nat.le_refl _); omega)]; omega
      have hJ := lastLe_here PA PB ⟨t, xl, xh⟩ t (Int.le_refl _) hPB
      have hhead : ∀ y, (cutL s t)[0]? = some y → y.fr ≤ t := by
        intro y hy
        rw [e1] at hy
        have hmem := List.mem_of_getElem? hy
        rw [List.mem_append, List.mem_cons] at hmem
        cases PA with
        | nil => simp at hy; rw [← hy]; exact Int.le_refl _
        | cons p PA => simp at hy; have := hPA p (by simp); rw [← hy]; omega
      have hl0 : 0 < (cutL s t).length := by rw [e1, List.length_append, List.length_cons]; omega
      rw [← e1] at hJ
      obtain ⟨cl, hcl⟩ : ∃ cl, cutL s t = cl := ⟨_, rfl⟩
      rw [hcl] at hhead hl0 hJ hlen e1
      have HCL := Lib.hid hcl
      have HHD := Lib.hid hhead
      have HJ := Lib.hid hJ
      have EL := Lib.hid e1
      have ERL := Lib.hid e2
      clear hf hm hat hh hall hPA hPB ex hhead hJ hcl e3 e1 e2
      go_enter Try.func21, Try.ntmps21
      go_wp2_with fail
      refine (implForecastOk m _ _ l s _ F1.out.2.2.2.1 F1.out.2.2.2.2).mono ?_
      rw [HF.out]
      rintro e w1 ⟨rfl, hb1⟩
      have F2 := Lib.hid (F1.out.below hb1)
      have B2 := Lib.hid (B1.out.trans (hb1.mono B1.out.size))
      have RB1 := Lib.hid ((Blk.newAt (w := w.alloc (.cells #[.int .i64 m, .slice A l.length c, .slice A' s.length c'] 28)) (b := w.heap.size + 1) (by simp) #[.int .i64 0, .slice none 0 0, .slice none 0 0] 28).below hb1)
      have hz1 : w.heap.size + 2 ≤ w1.heap.size := by have := hb1.size; rw [ES.out] at this; exact this
      clear hb1
      obtain ⟨x0, x1, x2, _⟩ := F2.out
      go_wp2_with fail
      refine (isMinute_any _ _).mono ?_
      rw [HM.out]
      rintro e w2 ⟨rfl, rfl⟩
      go_wp2_with fail
      refine (cutAt_any _ s t _ F2.out.2.2.2.2 s0 s6 HH.out).mono ?_
      rw [HCL.out]
      rintro e w3 ⟨v3, rfl, ho3, hb3⟩
      obtain ⟨g3, cap3, R3, rfl, hbg3, hg3, hcap1, hcap2, hR3⟩ := own_block ho3 hl0
      have F3 := Lib.hid (F2.out.below hb3)
      have B3 := Lib.hid (B2.out.trans (hb3.mono B2.out.size))
      have RB3 := Lib.hid (RB1.out.below hb3)
      have SL3 := Lib.hid (OwnSurge.sl ho3 (by omega))
      have HO3 := Lib.hid ho3
      have hJx : cl[PA.length]? = some ⟨t, xl, xh⟩ := by rw [EL.out]; simp
      obtain ⟨p0, p1, p2⟩ := row_cell hg3 PA.length _ hJx
      simp only at p0 p1 p2
      have f1 : w3.frozen? ⟨g3, PA.length * 3 + 1, none⟩ = false := Joins.unfrozen_of_block hg3 _
      have f2 : w3.frozen? ⟨g3, PA.length * 3 + 2, none⟩ = false := Joins.unfrozen_of_block hg3 _
      have hJl : PA.length < cl.length := (List.getElem?_eq_some_iff.1 hJx).1
      have hz3 := hb3.size
      have hg3w : g3 < w3.heap.size := Blk.lt hg3
      obtain ⟨W5, hW5⟩ : ∃ W5, W5 = ((w3.setCell ⟨g3, PA.length * 3 + 1, none⟩ (.int .i64 (max xl lo))).setCell ⟨g3, PA.length * 3 + 2, none⟩ (.int .i64 (min xh hi))).drew := ⟨_, rfl⟩
      have hB5 : Below w1.heap.size w1 W5 := by rw [hW5]; exact ((hb3.setCell (p := ⟨g3, PA.length * 3 + 1, none⟩) hbg3 _).setCell (p := ⟨g3, PA.length * 3 + 2, none⟩) hbg3 _).drew
      have hz5 : W5.heap.size = w3.heap.size := by rw [hW5]; simp
      have ho5 : OwnSurge W5 w1.heap.size (.slice (some ⟨g3, 0, none⟩) (revL s t lo hi).length cap3) (revL s t lo hi) := by
        have hst := (World.ownsRow.stored (World.ownsRow.stored ho3 (PA.length * 3 + 1) (.int .i64 (max xl lo))).1 (PA.length * 3 + 2) (.int .i64 (min xh hi))).1
        have e4 : ((cl.flatMap SurgeD.cells).set (PA.length * 3 + 1) (.int .i64 (max xl lo))).set (PA.length * 3 + 2) (.int .i64 (min xh hi)) = (revL s t lo hi).flatMap SurgeD.cells := by
          rw [EL.out, ERL.out, List.flatMap_append, List.flatMap_cons, List.flatMap_append, List.flatMap_cons, ← flat_len surgeLen PA]
          exact set_two _ _ _ _ _ _ _
        have e5 : cl.length = (revL s t lo hi).length := by rw [EL.out, ERL.out]; simp
        rw [e4] at hst
        rw [hW5]
        show World.ownsRow _ w1.heap.size 44 3 _ (revL s t lo hi).length _
        rw [← e5]
        exact hst
      have e5 : (revL s t lo hi).length = cl.length := by rw [EL.out, ERL.out]; simp
      rw [e5] at ho5
      have F5 := Lib.hid (F2.out.below hB5)
      have B5 := Lib.hid (B2.out.trans (hB5.mono B2.out.size))
      have RB5 := Lib.hid (RB1.out.below hB5)
      have HO5 := Lib.hid ho5
      have HW5 := Lib.hid hW5
      have E5 := Lib.hid e5
      clear hb3 ho3 hg3 hR3 hJx x0 x1 x2 hcap2 hB5 ho5 hW5 e5 F3 B3 RB3 HO3
      go_wp2_with fail
      refine (surgeIndex_any _ cl t _ SL3.out hl0 HHD.out).mono ?_
      rw [HJ.out]
      rintro e w4 ⟨rfl, rfl⟩
      go_wp2
      go_region
      rw [← HW5.out]
      clear HW5 p0 p1 p2 f1 f2 SL3
      obtain ⟨x0, x1, x2, _⟩ := F5.out
      go_wp2_with fail
      refine (copyTide_any m _ l _ F5.out.2.2.2.1).mono ?_
      rintro e w6 ⟨v6, rfl, ho6, hb6⟩
      obtain ⟨A6, c6, rfl⟩ := own_form ho6
      have hal := Joins.below_alloc1 w6 (.cells #[.int .i64 m, .slice A6 l.length c6, .slice (some ⟨g3, 0, none⟩) cl.length cap3] 28)
      have hb7 := hb6.trans (hal.mono hb6.size)
      have O6 := Lib.hid (own_below ho6 hal)
      have O5 := Lib.hid (own_below HO5.out hb7)
      have B7 := Lib.hid (B5.out.trans (hb7.mono B5.out.size))
      have RB7 := Lib.hid (RB5.out.below hb7)
      have L6 := Lib.hid (World.ownsRow.lt ho6)
      have S6 := Lib.hid (OwnOf_sl (O6.out) F2.out.2.2.2.1.1)
      have S5 := Lib.hid (OwnSurge_sl E5.out O5.out (by have := E5.out; omega))
      have X7 := Lib.hid (Blk.new w6 #[.int .i64 m, .slice A6 l.length c6, .slice (some ⟨g3, 0, none⟩) cl.length cap3] 28)
      have hz6 := hb6.size
      clear hb6 ho6 hal hb7 x0 x1 x2
      cases hr : fcB m l (revL s t lo hi) with
      | false =>
        have HR := Lib.hid hr
        have E := Lib.hid (ER.out.trans hr)
        clear hr
        go_wp2_with fail
        refine (implForecastOk m _ _ l (revL s t lo hi) _ S6.out S5.out).mono ?_
        rw [HR.out]
        rintro e w8 ⟨rfl, hb8⟩
        have B8 := Lib.hid (B7.out.trans (hb8.mono B7.out.size))
        have RB8 := RB7.out.below hb8
        have r0 := RB8.cell 0
        have r1 := RB8.cell 1
        have r2 := RB8.cell 2
        simp at r0 r1 r2
        have q0 := RB8.free 0
        have q1 := RB8.free 1
        have q2 := RB8.free 2
        clear hb8 RB8
        go_wp2
        refine bodyPost_ret (v := .tuple #[.agg #[.int .i64 0, .slice none 0 0, .slice none 0 0], .bool false]) (by simp [results, Try.results21, go_sem, *]) rfl (rev_no E.out ?_)
        repeat (first | exact B8.out | refine Below.setCell ?_ (by simp <;> omega) _)
      | true =>
        have HR := Lib.hid hr
        have E := Lib.hid (ER.out.trans hr)
        clear hr
        go_wp2_with fail
        refine (implForecastOk m _ _ l (revL s t lo hi) _ S6.out S5.out).mono ?_
        rw [HR.out]
        rintro e w8 ⟨rfl, hb8⟩
        have B8 := Lib.hid (B7.out.trans (hb8.mono B7.out.size))
        have RB8 := RB7.out.below hb8
        have X8 := X7.out.below hb8
        have O68 := Lib.hid (own_below O6.out hb8)
        have O58 := Lib.hid (own_below O5.out hb8)
        have r0 := RB8.cell 0
        have r1 := RB8.cell 1
        have r2 := RB8.cell 2
        have y0 := X8.cell 0
        have y1 := X8.cell 1
        have y2 := X8.cell 2
        simp at r0 r1 r2 y0 y1 y2
        have q0 := RB8.free 0
        have q1 := RB8.free 1
        have q2 := RB8.free 2
        clear hb8 RB8 X8
        go_wp2
        refine bodyPost_ret (v := .tuple #[.agg #[.int .i64 m, .slice A6 l.length c6, .slice (some ⟨g3, 0, none⟩) cl.length cap3], .bool true]) (by simp [results, Try.results21, go_sem, *]) rfl (rev_yes E.out ?_ ?_ ?_ ?_)
        · refine own_lo (base := w.heap.size + 2) ?_ (by omega)
          repeat (first | exact own_lo O68.out (by omega) | refine own_set_under ?_ (by simp <;> omega) _)
        · refine own_lo (base := w.heap.size + 2) ?_ (by omega)
          repeat (first | exact own_lo O58.out (by omega) | refine own_set_under ?_ (by simp <;> omega) _)
        · intro g hg hg'
          have h1 := (L6.out g hg).1
          simp [Value.ownBlock] at hg'
          omega
        · repeat (first | exact B8.out | refine Below.setCell ?_ (by simp <;> omega) _)

end Go.Proofs.Ytbcbbolakjjglaa
