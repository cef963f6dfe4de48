
/- A table of moves: StayingMoves, l13Moves: contracts. -/
import Derived.Test.YtfofbnpgjdagkaaDraw
import Derived.Test.YtfofbnpgjdagkaaBlk
import Derived.Test.YtfofbnpgjdagkaaOwnVar
import Derived.Test.YtfofbnpgjdagkaaInts
import Derived.Deep.RegionHeld3
namespace Go.Proofs.Ytfofbnpgjdagkaa
open Go.RowKit
set_option maxRecDepth 100000

theorem flat_int (l : List Int) : l.flatMap intCells = l.map (fun x => Value.int .i64 x) := by
  induction l with
  | nil => rfl
  | cons x l ih => simp [intCells, ih]
/-- What holds of drawn moves. -/
def MvDraw (w : World) (p : Nat) (v : Value) (l : List Int) (wr : World) : Prop := Cursor wr p ∧ w.grownBy wr (some p) ∧ OwnInt wr w.heap.size v l ∧ l.length = 64 ∧ (∀ x ∈ l, 0 ≤ x ∧ x ≤ 20) ∧ p < w.heap.size
theorem MvDraw.step {w wr w3 : World} {p : Nat} {v : Value} {l : List Int} (h : MvDraw w p v l wr) (hg : wr.grownBy w3 (some p)) (hc : Cursor w3 p) : MvDraw w p v l w3 := by
  obtain ⟨h1, h2, h3, h4, h5, h6⟩ := h
  exact ⟨hc, grown_trans h2 hg, own_kept h3 hg (fun b hv e => by have := (own_ge h3 hv).1; have := Option.some.inj e; omega), h4, h5, h6⟩
theorem MvDraw.put {w wr : World} {p g c : Nat} {l : List Int} (h : MvDraw w p (.slice (some ⟨g, 0, none⟩) 64 c) l wr) (k : Nat) (hk : k < 64) (u : Int) (h0 : 0 ≤ u) (h1 : u ≤ 20) :
    (∃ x, wr.cell? ⟨g, k, none⟩ = some (.int .i64 x)) ∧ wr.frozen? ⟨g, k, none⟩ = false ∧ MvDraw w p (.slice (some ⟨g, 0, none⟩) 64 c) (l.set k u) (wr.setCell ⟨g, k, none⟩ (.int .i64 u)) := by
  obtain ⟨hc, hgr, hown, hl, hall, hp⟩ := h
  have hge := own_ge hown (own_blk g 64 c)
  have hown' := hown
  unfold OwnInt OwnOf at hown'
  rw [hl] at hown'
  have hcell := World.ownsRow.cellAt hown' k (by omega)
  rw [flat_int] at hcell
  refine ⟨⟨l[k]'(by omega), ?_⟩, World.ownsRow.frozenAt hown' k, hc.set (by omega) _ _, grown_setNew hgr hge.1 _, ?_, by simp [hl], fun x hx => ?_, hp⟩
  · rw [hcell]; simp [show k < l.length by omega]
  · have hs := (World.ownsRow.stored hown' k (.int .i64 u)).1
    rw [flat_int] at hs
    unfold OwnInt OwnOf
    rw [flat_int, List.length_set, hl, List.map_set]
    exact hs
  · rcases List.mem_or_eq_of_mem_set hx with h | h
    · exact hall x h
    · rw [h]; exact ⟨h0, h1⟩
def DrawsMoves (p : Nat) (w : World) (e : Ending) (w' : World) : Prop := ∃ (g c : Nat) (l : List Int), e = .returned (.slice (some ⟨g, 0, none⟩) 64 c) ∧ MvDraw w p (.slice (some ⟨g, 0, none⟩) 64 c) l w'
theorem specStaying (w : World) : Calls Try.prog 36 #[] w fun e w' => e = .returned (.slice (some ⟨w.heap.size, 0, none⟩) 64 64) ∧ OwnInt w' w.heap.size (.slice (some ⟨w.heap.size, 0, none⟩) 64 64) (List.replicate 64 0) ∧ Below w.heap.size w w' := by
  have hmk : ∀ W : World, (Instr.makeSlice 23 (.int .i64 64) (.int .i64 64)).run Try.prog W = .ok (.slice (some ⟨W.heap.size, 0, none⟩) 64 64) (W.alloc (.cells (madeCells #[.int .i64 0] (64 * 1)) 3)) := make_ints 64 (by omega)
  go_enter Try.func36, Try.ntmps36
  go_wp2
  go_ret
  refine ⟨rfl, ?_, (Below.refl _ _).alloc (Nat.le_refl _) _⟩
  have h := World.ownsRow_lit (base := w.heap.size) (e := 3) (size := 1) w (madeCells #[.int .i64 0] (64 * 1)) 64 (Nat.le_refl _) (by unfold maxLen; omega) (by rw [size_madeCells])
  have e : (madeCells #[Value.int .i64 0] (64 * 1)).toList = (List.replicate 64 (0 : Int)).flatMap intCells := (made_flat #[Value.int .i64 0] 64).trans (by rw [List.flatMap_def, List.map_replicate]; rfl)
  unfold OwnInt OwnOf
  rw [← e, List.length_replicate]
  exact h
set_option maxHeartbeats 2000000 in
theorem l13Moves_any (p : Nat) (w : World) (hcur : Cursor w p) : Calls Try.prog 39 #[.pointer (some ⟨p, 0, none⟩)] w (DrawsMoves p w) := by
  have hp := hcur.lt
  have HC := Lib.hid hcur
  clear hcur
  go_enter Try.func39, Try.ntmps39
  go_wp2_with fail
  refine (specStaying _).mono ?_
  rintro e w1 ⟨rfl, ho, hb⟩
  have ST := Lib.hid (show MvDraw w p (.slice (some ⟨w.heap.size, 0, none⟩) 64 64) (List.replicate 64 0) w1 from ⟨HC.out.below hb, grown_of_below hb _, ho, by simp, fun x hx => by have := List.eq_of_mem_replicate hx; omega, hp⟩)
  clear ho hb HC
  go_wp2
  go_loopw [8] (fun i wr => ∃ (k : Nat) (l : List Int), k ≤ 64 ∧ i = .int .i64 k ∧ Hid (MvDraw w p (.slice (some ⟨w.heap.size, 0, none⟩) 64 64) l wr)) (fun i _ => 64 - (intOf i).toNat)
  case atStart => exact ⟨0, _, by omega, rfl, ST⟩
  case round =>
    obtain ⟨k, l, hk, rfl, hD⟩ := hrel
    by_cases hlt : k < 64
    · have hki : (k : Int) < 64 := by omega
      have hnext : IntKind.i64.wrap ((k : Int) + 1) = ((k + 1 : Nat) : Int) := by rw [IntKind.wrap_i64]; omega
      by_cases h9 : (k : Int) % 9 = 0
      · have hb9 : ((k : Int) % 9 != 0) = false := by simp [h9]
        go_wp2
        go_roundw
        case rel => exact ⟨k + 1, l, by omega, by rfl, hD⟩
        case measure => simp [intOf]; omega
      · have hb9 : ((k : Int) % 9 != 0) = true := by simp [h9]
        go_wp2_with fail
        refine (l01Below_any p 5 _ (by omega) (by omega) hD.out.1).mono ?_
        rintro e w3 ⟨x, rfl, x0, x1, hc, hg⟩
        have SD := Lib.hid (hD.out.step hg hc)
        obtain ⟨⟨y, c0⟩, f0, hn⟩ := SD.out.put k hlt (5 * x) (by omega) (by omega)
        have SN := Lib.hid hn
        have hw5 : IntKind.i64.wrap (5 * x) = 5 * x := by rw [IntKind.wrap_i64]; omega
        clear hc hg hn hD
        go_wp2
        go_roundw
        case rel => exact ⟨k + 1, _, by omega, by rfl, SN⟩
        case measure => simp [intOf]; omega
    · go_wp2
      go_ret
      exact ⟨_, _, l, rfl, hD.out⟩
/-- StayingMoves, as the laws ask for it. -/
theorem specStayingMoves (w : World) : Calls Try.prog 36 #[] w (NewInt (List.replicate 64 0) w) := by
  refine (specStaying w).mono ?_
  rintro e w' ⟨rfl, ho, hb⟩
  exact ⟨_, rfl, ho, hb⟩
end Go.Proofs.Ytfofbnpgjdagkaa
