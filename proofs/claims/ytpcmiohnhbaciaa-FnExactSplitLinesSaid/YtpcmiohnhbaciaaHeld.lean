/- The helpers of the exact laws over lists of strings: markStringS writes its marks into the slice and nothing else, heldStringS finds them again: contracts. -/
import Derived.Test.YtpcmiohnhbaciaaMarks
import Derived.Deep.RegionHeld3
namespace Go.Proofs.Ytpcmiohnhbaciaa
open Go.RowKit

def marks (k : Int) (n : Nat) : List ByteArray := (List.range n).map fun j : Nat => markT (k + (j : Int))
theorem marks_len (k : Int) (n : Nat) : (marks k n).length = n := by simp [marks]
theorem marks_at (k : Int) (n j : Nat) (h : j < n) : (marks k n)[j]? = some (markT (k + (j : Int))) := by simp [marks, h]

theorem grown_below {a b c : World} {row : Option Nat} (h : a.grownBy b row) (hb : Below b.heap.size b c) : a.grownBy c row :=
  ⟨hb.os.trans h.os, hb.tape.trans h.tape, hb.output.trans h.output, Nat.le_trans h.size hb.size, fun i hi hn => (hb.block i (Nat.lt_of_lt_of_le hi h.size)).trans (h.block i hi hn)⟩
theorem grown_set {a w : World} {g o : Nat} (h : a.grownBy w (some g)) (u : Value) : a.grownBy (w.setCell ⟨g, o, none⟩ u) (some g) :=
  ⟨h.os, h.tape, h.output, by simpa [World.setCell] using h.size, fun i hi hne => (Below.heap_setCell w _ u i (by rintro rfl; exact hne rfl)).trans (h.block i hi hne)⟩

theorem setCell_frozen (w : World) (a b : Addr) (u : Value) (h : w.frozen? b = false) : (w.setCell a u).frozen? b = false := by
  rw [World.frozen?_setCell]; exact h

/-- What the marking loop has done when i elements are marked. -/
def Marking (w : World) (g o n : Nat) (k : Int) (i : Nat) (wr : World) : Prop :=
  w.grownBy wr (some g) ∧ (∀ j, j < i → wr.cell? ⟨g, o + j, none⟩ = some (.string (markT (k + (j : Int))))) ∧ (∀ j, i ≤ j → j < n → ∃ x, wr.cell? ⟨g, o + j, none⟩ = some (.string x)) ∧ ∀ j, wr.frozen? ⟨g, j, none⟩ = false

theorem Marking.next {w : World} {g o n : Nat} {k : Int} {i : Nat} {wr w1 : World} (h : Marking w g o n k i wr) (hb : Below wr.heap.size wr w1) (hi : i < n) :
    (∃ x, w1.cell? ⟨g, o + i, none⟩ = some (.string x)) ∧ w1.frozen? ⟨g, o + i, none⟩ = false ∧ Marking w g o n k (i + 1) (w1.setCell ⟨g, o + i, none⟩ (.string (markT (k + (i : Int))))) := by
  obtain ⟨hg, hd, hr, hf⟩ := h
  obtain ⟨x, hx⟩ := hr i (Nat.le_refl _) hi
  have hlt : g < wr.heap.size := World.block_lt_of_cell? wr ⟨g, o + i, none⟩ hx
  have hkeep : ∀ j, w1.cell? ⟨g, j, none⟩ = wr.cell? ⟨g, j, none⟩ := fun j => hb.cell (p := ⟨g, j, none⟩) hlt
  have hfk : ∀ j, w1.frozen? ⟨g, j, none⟩ = false := fun j => (hb.frozen (p := ⟨g, j, none⟩) hlt).trans (hf j)
  refine ⟨⟨x, (hkeep _).trans hx⟩, hfk _, grown_set (grown_below hg hb) _, fun j hj => ?_, fun j hj hjn => ?_, fun j => setCell_frozen _ _ _ _ (hfk j)⟩
  · by_cases e : j = i
    · subst e
      exact World.cell?_setCell_same _ _ _ ((hkeep _).trans hx)
    · rw [World.cell?_setCell_other _ _ _ _ (by intro he; injection he with _ h2; omega), hkeep]
      exact hd j (by omega)
  · rw [World.cell?_setCell_other _ _ _ _ (by intro he; injection he with _ h2; omega), hkeep]
    exact hr j (by omega) hjn

set_option maxHeartbeats 1000000 in
theorem markStringS_any (v : Value) (l : List ByteArray) (k : Int) (w : World) (h : SlS w v l) (hfz : ∀ g, v.ownBlock = some g → ∀ j, w.frozen? ⟨g, j, none⟩ = false) (h0 : 0 ≤ k) (h1 : k ≤ 1000000) :
    Calls Try.prog 16 #[v, .int .i64 k] w fun e w' => e = .returned (.int .i64 (k + (l.length : Int))) ∧ SlS w' v (marks k l.length) ∧ w.grownBy w' v.ownBlock := by
  obtain ⟨hl, h⟩ := h
  rcases h with ⟨rfl, A, c, rfl⟩ | ⟨g, o, c, rfl, hp, hcap, hc⟩
  · go_enter Try.func16, Try.ntmps16
    go_wp2
    refine wp_loop_rounds 1 ?_
    rw [rounds_succ]
    go_wp2
    go_ret
    exact ⟨ret_int (Int.add_zero k).symm, ⟨by simp [marks], .inl ⟨rfl, A, c, rfl⟩⟩, World.grownBy.refl _ _⟩
  · have hs : Marking w g o l.length k 0 w := ⟨World.grownBy.refl _ _, fun j hj => absurd hj (by omega), fun j _ hj => ⟨_, hc j _ (List.getElem?_eq_getElem hj)⟩, fun j => hfz g rfl j⟩
    have HS := Lib.hid hs
    clear hs hc hfz
    go_enter Try.func16, Try.ntmps16
    go_wp2
    go_loopw [1, 5] (fun q i wr => ∃ j : Nat, j ≤ l.length ∧ i = .int .i64 j ∧ q = .int .i64 (k + (j : Int)) ∧ Hid (Marking w g o l.length k j wr)) (fun _ i _ => l.length - (intOf i).toNat)
    case atStart => exact ⟨0, Nat.zero_le _, rfl, by go_num, HS⟩
    case round =>
      obtain ⟨j, hj, rfl, rfl, hM⟩ := hrel
      by_cases hlt : j < l.length
      · go_wp2_with (go_at_call 30; refine (markText_any _ _ (by omega)).mono ?_; rintro e w1 ⟨rfl, hb⟩; obtain ⟨⟨x, hx⟩, hf, hM'⟩ := hM.out.next hb hlt; have HM := Lib.hid hM'; clear hM' hb)
        go_roundw
        case rel => exact ⟨j + 1, by omega, by go_num, by go_num, HM⟩
        case measure => simp [intOf]; omega
      · go_wp2
        go_ret
        obtain rfl : j = l.length := by omega
        refine ⟨rfl, ⟨by rw [marks_len]; omega, .inr ⟨g, o, c, by rw [marks_len], by rw [marks_len]; exact hp, by rw [marks_len]; exact hcap, fun i x hx => ?_⟩⟩, hM.out.1⟩
        have hil : i < l.length := by
          rcases Nat.lt_or_ge i l.length with h | h
          · exact h
          · rw [List.getElem?_eq_none (by rw [marks_len]; exact h)] at hx; cases hx
        rw [marks_at _ _ _ hil] at hx
        rw [← Option.some.inj hx]
        exact hM.out.2.1 i hil

/-- markText, and a cell that lay before it. -/
theorem markText_keep (k : Int) (w : World) (h1 : k ≤ 1000000000000) (p : Addr) (u : Value) (hp : w.cell? p = some u) :
    Calls Try.prog 30 #[.int .i64 k] w fun e w' => e = .returned (.string (markT k)) ∧ w'.cell? p = some u ∧ Below w.heap.size w w' :=
  (markText_any k w h1).mono fun _ _ ⟨he, hb⟩ => ⟨he, (hb.cell (World.block_lt_of_cell? w p hp)).trans hp, hb⟩

set_option maxHeartbeats 1000000 in
theorem heldStringS_any (v : Value) (n : Nat) (k : Int) (w : World) (h : SlS w v (marks k n)) (h0 : 0 ≤ k) (h1 : k ≤ 1000000) :
    Calls Try.prog 17 #[v, .int .i64 k] w fun e w' => e = .returned (.int .i64 (k + (n : Int))) ∧ Below w.heap.size w w' := by
  obtain ⟨hl, h⟩ := h
  rw [marks_len] at hl
  rcases h with ⟨hn, A, c, rfl⟩ | ⟨g, o, c, rfl, hp, hcap, hc⟩
  · obtain rfl : n = 0 := by rw [← marks_len k n, hn]; rfl
    go_enter Try.func17, Try.ntmps17
    go_wp2
    refine wp_loop_rounds 1 ?_
    rw [rounds_succ]
    go_wp2
    go_ret
    exact ⟨ret_int (Int.add_zero k).symm, Below.refl _ _⟩
  · rw [marks_len] at hp ⊢
    have HC : Hid (∀ j, j < n → w.cell? ⟨g, o + j, none⟩ = some (.string (markT (k + (j : Int))))) := fun j hj => hc j _ (marks_at k n j hj)
    clear hc
    go_enter Try.func17, Try.ntmps17
    go_wp2
    go_loopw [1, 5] (fun q i wr => ∃ j : Nat, j ≤ n ∧ i = .int .i64 j ∧ q = .int .i64 (k + (j : Int)) ∧ Below w.heap.size w wr) (fun _ i _ => n - (intOf i).toNat)
    case atStart => exact ⟨0, Nat.zero_le _, rfl, by go_num, Below.refl _ _⟩
    case round =>
      obtain ⟨j, hj, rfl, rfl, hb⟩ := hrel
      by_cases hlt : j < n
      · have hlt2 : g < w.heap.size := World.block_lt_of_cell? w ⟨g, o + j, none⟩ (HC.out j hlt)
        have hx : wr.cell? ⟨g, o + j, none⟩ = some (.string (markT (k + (j : Int)))) := (hb.cell (p := ⟨g, o + j, none⟩) hlt2).trans (HC.out j hlt)
        have hbs := hb.size
        go_wp2
        go_region_held3 (fun w' => w'.cell? ⟨g, o + j, none⟩ = some (.string (markT (k + (j : Int))))) (go_keep)
          (first | (go_at_call 30; refine (markText_keep (k + (j : Int)) _ (by omega) ⟨g, o + j, none⟩ (.string (markT (k + (j : Int)))) ?_).mono ?_; (simp [*]); rintro e w1 ⟨rfl, hc1, hb1⟩))
        go_wp2
        go_roundw
        case rel => exact ⟨j + 1, by omega, by go_num, by go_num, hb.drew.trans (hb1.mono hbs)⟩
        case measure => simp [intOf]; omega
      · go_wp2
        go_ret
        obtain rfl : j = n := by omega
        exact ⟨rfl, hb⟩

end Go.Proofs.Ytpcmiohnhbaciaa
