
/- What InOrderLaw rests on, part 7: contracts and mathematics. -/
import Derived.Test.YtooeikimoheecaaIo3
import Derived.Test.YtooeikimoheecaaIo5
import Derived.Deep.AppendLies
import Derived.Deep.Upon
import Derived.Lib.SlFresh
namespace Go.Proofs.Ytooeikimoheecaa
open Go.RowKit
set_option maxRecDepth 100000
set_option maxHeartbeats 1000000 in
theorem cloneInt (v : Value) (l : List Int) (w : World) (h : SlInt w v l) :
    Calls Try.prog 117 #[v] w (NewInt l w) := by
  obtain ⟨i0, hi, hz0, hz1, hz2⟩ := info_parts (P := Try.prog) (e := 3) (z := .int .i64 0) (size := 1) (bytes := 8) (by kernel_rfl)
  obtain ⟨hl, h⟩ := h
  have own0 : (w.alloc (.cells #[] 3)).ownsRow w.heap.size 3 1 (.slice (some ⟨w.heap.size, 0, none⟩) 0 0) 0 [] :=
    ⟨rfl, .inr ⟨_, 0, #[], rfl, Nat.le_refl _, heap_alloc_new w _, Nat.le_refl _, by unfold maxLen; omega, rfl, rfl⟩⟩
  have q26 : ∀ (w : World) (a : Option Addr) (n c n' c' : Nat), (binOp .eql 36 (.slice a n c) (.slice none n' c')).run Try.prog w = .ok (.bool a.isNone) w := fun w a n c n' c' => Lib.run_eql_slice_nil w _ _ a n c n' c' Try.underlying36
  have OWN := Lib.hid own0
  have HI := Lib.hid hi
  clear own0
  rcases h with ⟨rfl, A, c, rfl⟩ | ⟨g, o, c, rfl, hp, hcap, hc⟩
  · cases A with
    | none =>
      clear hi hz0 hz1 hz2 HI
      go_enter Try.func117, Try.ntmps117
      go_wp2
      go_ret
      exact ⟨_, rfl, World.ownsRow_nil _ _ _ _, Below.refl _ _⟩
    | some a =>
      have hr := fun (W : World) => Lib.hid (run_append_nothing (P := Try.prog) W 36 36 36 3 i0 Try.underlying36 hi (some ⟨w.heap.size, 0, none⟩) 0 0 (Nat.le_refl _) (.slice (some a) 0 c) (Src.ofSlice W Try.underlying36 a 0 c [] (by simp) (by simp) (by simp)))
      clear hi hz0 hz1 hz2 HI
      go_enter Try.func117, Try.ntmps117
      go_wp2_with (at_builtin; refine Lib.wpList_append_run_sl _ rfl _ _ _ rfl _ _ rfl rfl (hr _).out ?_)
      go_ret
      exact ⟨_, rfl, OWN.out, Joins.below_alloc1 _ _⟩
  · have HC := Lib.hid hc
    have hsrc : ∀ j u, (l.flatMap intCells)[j]? = some u → (w.alloc (.cells #[] 3)).cell? ((⟨g, o, none⟩ : Addr).add j) = some u := by
      intro j u hj
      have hjl : j < l.length * 1 := by have := (List.getElem?_eq_some_iff.1 hj).1; rw [flat_len intLen] at this; exact this
      obtain ⟨x, hx⟩ : ∃ x, l[j / 1]? = some x := ⟨_, List.getElem?_eq_getElem (by omega)⟩
      obtain ⟨u', hu'⟩ : ∃ u', (intCells x)[j % 1]? = some u' := ⟨_, List.getElem?_eq_getElem (by rw [intLen]; omega)⟩
      have e1 := flat_at intLen l (j / 1) x hx (j % 1) u' hu'
      rw [show j / 1 * 1 + j % 1 = j by omega, hj] at e1
      injection e1 with e1
      subst e1
      have e2 := hc (j / 1) x hx (j % 1) u hu'
      rw [show o + j / 1 * 1 + j % 1 = o + j by omega] at e2
      rw [Addr.add_lit]
      exact ((Joins.below_alloc1 w _).cell (World.block_lt_of_cell? w _ e2)).trans e2
    have HS := Lib.hid hsrc
    clear hc hsrc
    go_enter Try.func117, Try.ntmps117
    go_wp2_with (at_builtin; refine wpList_append_lies _ rfl _ _ _ rfl w.heap.size 3 i0 _ 1 8 Try.underlying36 HI.out hz0 hz1 hz2 rfl (by omega) (.slice (some ⟨w.heap.size, 0, none⟩) 0 0) 0 [] rfl OWN.out ⟨g, o, none⟩ l.length c (l.flatMap intCells) rfl (flat_len intLen l) HS.out (oneCell_flat int_one l) hp (by unfold maxLen; omega) (by omega) (by simp) _ rfl ?_; intro g4 cap4 w4 hown4 hgrow4 hor4 hlt4)
    go_ret
    refine ⟨_, rfl, ?_, ?_⟩
    · simpa [NewInt, OwnOf] using hown4
    · exact ((Below.refl _ w).alloc (Nat.le_refl _) _).grown hgrow4 (by simp) (by intro k hk; simp [Value.ownBlock] at hk; exact Nat.le_of_eq hk)
end Go.Proofs.Ytooeikimoheecaa
