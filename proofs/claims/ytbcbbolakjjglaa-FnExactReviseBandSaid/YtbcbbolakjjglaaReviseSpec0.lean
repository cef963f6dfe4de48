/- The model's copy of a tide and of a cut surge: contracts. -/
import Derived.Test.YtbcbbolakjjglaaRevise
import Derived.Deep.AppendLies
namespace Go.Proofs.Ytbcbbolakjjglaa
open Go.RowKit
set_option maxRecDepth 100000

theorem l03Cut_any (x : SurgeD) (lo hi : Int) (w : World) :
    Calls Try.prog 67 #[x.val, .int .i64 lo, .int .i64 hi] w fun e w' => e = .returned (.agg #[.int .i64 x.fr, .int .i64 (max x.lo lo), .int .i64 (min x.hi hi)]) ∧ Below w.heap.size w w' := by
  obtain ⟨a, b, c⟩ := x
  go_enter Try.func67, Try.ntmps67
  go_wp2
  refine bodyPost_ret (v := .agg #[.int .i64 a, .int .i64 (max b lo), .int .i64 (min c hi)]) (by simp [results, Try.results67, go_sem, *]) rfl ⟨rfl, ?_⟩
  repeat (first | exact Below.refl _ _ | refine Below.setCell ?_ (by simp <;> omega) _ | refine Below.alloc ?_ (by simp <;> omega) _)

/-- The builtin append as one step of a region that draws, where its run is known. -/
theorem step_append_runK {P : Program} {ops : Array Oper} {o : Oper} {a : Act} {w : World} {K : Act → World → Prop} {Q : Exit → Act → World → Prop} {E : Prop}
    (hg : o.guard = none) (d x : Operand) (dT sT : TypeId) (hop : o.op = Op.call { callee := Callee.builtin Builtin.append, args := #[d, x], argTypes := #[dT, sT] })
    (v u : Value) (hd : a.eval d = v) (hx : a.eval x = u) {v' : Value} {w' : World} (hr : (Builtin.append_ #[dT, sT] o.type #[v, u]).run P w = .ok v' w') (hK : K (a.put o.dst v') w') :
    if Region.wanted o (yielded ops a.tmps) = true then Oper.wp P o a w K Q else E := by
  have hw : Region.wanted o (yielded ops a.tmps) = true := by simp [Region.wanted, hg]
  rw [if_pos hw]
  unfold Oper.wp
  simp [execOp, hop, resolve, invoke, builtin, hd, hx, hr, Result.andThen]
  exact hK

theorem own_empty {α : Type} {k : Nat} {cs : α → List Value} {t : TypeId} (X : World) (b : Nat) (hb : b = X.heap.size) (base : Nat) (h : base ≤ b) : OwnOf k cs t (X.alloc (.cells #[] t)) base (.slice (some ⟨b, 0, none⟩) 0 0) [] := by
  subst hb
  exact ⟨by simp, .inr ⟨_, 0, #[], rfl, h, heap_alloc_new X _, Nat.le_refl _, by unfold maxLen; omega, by simp, by simp⟩⟩
theorem flat_cells {α : Type} {k : Nat} {cs : α → List Value} (hk : ∀ x, (cs x).length = k) (hk0 : 0 < k) {w : World} {g o : Nat} {l : List α} (hc : ∀ i x, l[i]? = some x → ∀ j u, (cs x)[j]? = some u → w.cell? ⟨g, o + i * k + j, none⟩ = some u) :
    ∀ j u, (l.flatMap cs)[j]? = some u → w.cell? ((⟨g, o, none⟩ : Addr).add j) = some u := by
  intro j u hj
  have hjl : j < l.length * k := by have := (List.getElem?_eq_some_iff.1 hj).1; rw [flat_len hk] at this; exact this
  have hd : j / k < l.length := by rw [Nat.div_lt_iff_lt_mul hk0]; exact hjl
  obtain ⟨x, hx⟩ : ∃ x, l[j / k]? = some x := ⟨_, List.getElem?_eq_getElem hd⟩
  obtain ⟨u', hu'⟩ : ∃ u', (cs x)[j % k]? = some u' := ⟨_, List.getElem?_eq_getElem (by rw [hk]; exact Nat.mod_lt _ hk0)⟩
  have e1 := flat_at hk l (j / k) x hx (j % k) u' hu'
  rw [Nat.div_add_mod', hj] at e1
  injection e1 with e1
  subst e1
  have e2 := hc (j / k) x hx (j % k) u hu'
  rw [Nat.add_assoc, Nat.div_add_mod'] at e2
  rw [Addr.add_lit]
  exact e2

set_option maxHeartbeats 2000000 in
theorem l03Tide_any (m : Int) (v : Value) (l : List PartD) (w : World) (h : SlP w v l) :
    Calls Try.prog 66 #[.agg #[.int .i64 m, v]] w (CopTide m l w) := by
  obtain ⟨i0, hi, hz0, hz1, hz2⟩ := info_parts (P := Try.prog) (e := 92) (z := .agg #[.int .i64 0, .int .i64 0, .int .i64 0]) (size := 3) (bytes := 24) (by kernel_rfl)
  obtain ⟨hl, h⟩ := h
  have HI := Lib.hid hi
  rcases h with ⟨rfl, A, c, rfl⟩ | ⟨g, o, c, rfl, hp, hcap, hc⟩
  · have hr : ∀ (W : World) (ty : TypeId) (b : Nat), (Builtin.append_ #[23, 23] ty #[.slice (some ⟨b, 0, none⟩) 0 0, .slice A 0 c]).run Try.prog W = .ok (.slice (some ⟨b, 0, none⟩) 0 0) W := by
      intro W ty b
      cases A with
      | none => simp [Builtin.append_, run_underlying Try.underlying23, sizeOf, typeInfo, hi, Builtin.lenOf, Builtin.firstCells, storeCells]
      | some a => exact run_append_nothing (P := Try.prog) W 23 23 ty 92 i0 Try.underlying23 hi (some ⟨b, 0, none⟩) 0 0 (Nat.le_refl _) (.slice (some a) 0 c) (Src.ofSlice W Try.underlying23 a 0 c [] (by simp) (by simp) (by simp))
    have HR := Lib.hid hr
    clear hi hz0 hz1 hz2 HI hr
    go_enter Try.func66, Try.ntmps66
    go_wp2
    go_region_law (refine step_append_runK rfl _ _ 23 23 rfl (.slice (some ⟨w.heap.size + 2, 0, none⟩) 0 0) (.slice A 0 c) (by simp [Act.eval]) (by simp [Act.eval]) (HR.out _ _ _) ?_)
    all_goals
      go_wp2
      refine bodyPost_ret (v := .agg #[.int .i64 m, .slice (some ⟨w.heap.size + 2, 0, none⟩) 0 0]) (by simp [results, Try.results66, go_sem, *]) rfl ⟨_, rfl, ?_, ?_⟩
      · refine own_lo (base := w.heap.size + 2) ?_ (by omega)
        repeat (first | exact own_empty _ _ (by simp) _ (Nat.le_refl _) | refine own_set_under ?_ (by simp <;> omega) _)
      · repeat (first | exact Below.refl _ _ | refine Below.setCell ?_ (by simp <;> omega) _ | refine Below.alloc ?_ (by simp <;> omega) _ | refine below_drewN ?_ _ | refine Below.drew ?_)
  · have HS := Lib.hid (flat_cells partLen (by omega) hc)
    have B0 : Below w.heap.size w (((w.alloc (.cells #[.int .i64 m, .slice (some ⟨g, o, none⟩) l.length c] 25)).alloc (.cells #[.int .i64 0, .slice none 0 0] 25)).alloc (.cells #[] 92)).drew := by
      repeat (first | exact Below.refl _ _ | refine Below.alloc ?_ (by simp <;> omega) _ | refine Below.drew ?_)
    have hg : g < w.heap.size := by
      obtain ⟨x, hx⟩ : ∃ x, l[0]? = some x := ⟨_, List.getElem?_eq_getElem hp⟩
      exact World.block_lt_of_cell? w _ (hc 0 x hx 0 _ rfl)
    have HB0 := Lib.hid B0
    have K0 := Lib.hid (((Blk.new w #[.int .i64 m, .slice (some ⟨g, o, none⟩) l.length c] 25).below (Joins.below_alloc2 _ (.cells #[.int .i64 0, .slice none 0 0] 25) (.cells #[] 92))).drew)
    have K1 := Lib.hid (((Blk.newAt (w := w.alloc (.cells #[.int .i64 m, .slice (some ⟨g, o, none⟩) l.length c] 25)) (b := w.heap.size + 1) (by simp) #[.int .i64 0, .slice none 0 0] 25).below (Joins.below_alloc1 _ (.cells #[] 92))).drew)
    have OWN := Lib.hid (own_empty (k := 3) (cs := PartD.cells) (t := 92) ((w.alloc (.cells #[.int .i64 m, .slice (some ⟨g, o, none⟩) l.length c] 25)).alloc (.cells #[.int .i64 0, .slice none 0 0] 25)) (w.heap.size + 2) (by simp) (w.heap.size + 2) (Nat.le_refl _))
    have HN := Lib.hid (show ∀ j u, (l.flatMap PartD.cells)[j]? = some u → (((w.alloc (.cells #[.int .i64 m, .slice (some ⟨g, o, none⟩) l.length c] 25)).alloc (.cells #[.int .i64 0, .slice none 0 0] 25)).alloc (.cells #[] 92)).drew.cell? ((⟨g, o, none⟩ : Addr).add j) = some u from fun j u hj => (B0.cell (p := (⟨g, o, none⟩ : Addr).add j) (by rw [Addr.add_lit]; exact hg)).trans (HS.out j u hj))
    clear hc hi B0
    go_enter Try.func66, Try.ntmps66
    go_wp2
    go_region_law (refine step_append_lies _ (by rfl) _ _ _ (by rfl) (w.heap.size + 2) 92 i0 _ 3 24 Try.underlying23 HI.out hz0 hz1 hz2 rfl (by omega) (.slice (some ⟨w.heap.size + 2, 0, none⟩) 0 0) 0 [] (by rfl) OWN.out ⟨g, o, none⟩ l.length c (l.flatMap PartD.cells) (by rfl) (flat_len partLen l) HN.out (oneCell_flat (fun x v hv => by simp at hv; rcases hv with rfl | rfl | rfl <;> rfl) l) hp (by unfold maxLen; omega) (by omega) (by simp) _ rfl ?_; intro g4 cap4 w4 hown4 hgrow4 hor4 hlt4; have a0 := (K0.out.grown hgrow4 (by simp [Value.ownBlock])).cell 0; have a1 := (K1.out.grown hgrow4 (by simp [Value.ownBlock])).cell 0; have a2 := (K1.out.grown hgrow4 (by simp [Value.ownBlock])).cell 1; have a3 := (K1.out.grown hgrow4 (by simp [Value.ownBlock])).free 0; have a4 := (K1.out.grown hgrow4 (by simp [Value.ownBlock])).free 1; simp at a0 a1 a2; have HO4 := Lib.hid hown4; have HG4 := Lib.hid hgrow4; clear hown4 hgrow4 hor4)
    all_goals
      go_wp2
      refine bodyPost_ret (v := .agg #[.int .i64 m, .slice (some ⟨g4, 0, none⟩) (0 + l.length) cap4]) (by simp [results, Try.results66, go_sem, *]) rfl ⟨_, rfl, ?_, ?_⟩
      · refine own_lo (base := w.heap.size + 2) ?_ (by omega)
        have ho : OwnOf 3 PartD.cells 92 w4 (w.heap.size + 2) (.slice (some ⟨g4, 0, none⟩) (0 + l.length) cap4) l := by
          have := HO4.out
          simpa [OwnOf] using this
        repeat (first | exact ho | refine own_set_under ?_ (by simp <;> omega) _)
      · have hB4 := HB0.out.grown HG4.out HB0.out.size (by intro k hk; simp [Value.ownBlock] at hk; omega)
        repeat (first | exact hB4 | refine Below.setCell ?_ (by simp <;> omega) _)

end Go.Proofs.Ytbcbbolakjjglaa
