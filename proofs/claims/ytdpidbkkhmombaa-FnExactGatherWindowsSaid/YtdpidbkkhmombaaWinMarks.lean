
/- The model's windows of marked minutes: contract of l04Of. -/
import Derived.Test.YtdpidbkkhmombaaWinMerge
namespace Go.Proofs.Ytdpidbkkhmombaa
open Go.RowKit
set_option maxRecDepth 100000

@[reducible] def boolCells (b : Bool) : List Value := [.bool b]
theorem boolLen (b : Bool) : (boolCells b).length = 1 := rfl
def SlBool : World → Value → List Bool → Prop := SlOf 1 boolCells
def markF (l : List Bool) (j : Nat) : Bool := l[j]?.getD false
theorem markF_at {l : List Bool} {k : Nat} {b : Bool} (h : l[k]? = some b) : markF l k = b := by unfold markF; rw [h]; rfl

theorem GathW.set {w wr : World} {acc : List WindowD} {y : WindowD} {g cap : Nat} (t : Int) (h : GathW w (.slice (some ⟨g, 0, none⟩) (acc.length + 1) cap) (acc ++ [y]) wr) :
    GathW w (.slice (some ⟨g, 0, none⟩) (acc.length + 1) cap) (acc ++ [⟨y.fr, t⟩]) (wr.setCell ⟨g, acc.length * 2 + 1, none⟩ (.int .i64 t)) := by
  have hrow : wr.ownsRow w.heap.size 36 2 (.slice (some ⟨g, 0, none⟩) (acc.length + 1) cap) (acc.length + 1) ((acc ++ [y]).flatMap WindowD.cells) := by
    have := h.1
    unfold OwnWindow OwnOf at this
    rw [show (acc ++ [y]).length = acc.length + 1 by simp] at this
    exact this
  have hst := (World.ownsRow.stored hrow (acc.length * 2 + 1) (.int .i64 t)).1
  rw [flat_set] at hst
  refine ⟨?_, h.2.setCell (p := ⟨g, acc.length * 2 + 1, none⟩) (World.ownsRow.lt hrow g rfl).1 _⟩
  show World.ownsRow _ _ _ _ _ _ _
  rw [show (acc ++ [(⟨y.fr, t⟩ : WindowD)]).length = acc.length + 1 by simp]
  exact hst
theorem GathW.last {w wr : World} {acc : List WindowD} {y : WindowD} {v : Value} (h : GathW w v (acc ++ [y]) wr) :
    ∃ g cap, v = .slice (some ⟨g, 0, none⟩) (acc.length + 1) cap ∧ wr.cell? ⟨g, acc.length * 2 + 1, none⟩ = some (.int .i64 y.tt) ∧ wr.frozen? ⟨g, acc.length * 2 + 1, none⟩ = false := by
  have hrow : wr.ownsRow w.heap.size 36 2 v (acc.length + 1) ((acc ++ [y]).flatMap WindowD.cells) := by
    have := h.1
    unfold OwnWindow OwnOf at this
    rw [show (acc ++ [y]).length = acc.length + 1 by simp] at this
    exact this
  obtain ⟨g, cap, rfl⟩ := ownsRow_succ hrow
  exact ⟨g, cap, rfl, (World.ownsRow.cellAt hrow (acc.length * 2 + 1) (by omega)).trans (flat_last acc y).2, World.ownsRow.frozenAt hrow _⟩

theorem GathW.nextN {w W w4 : World} {v : Value} {acc : List WindowD} {x : WindowD} {g4 cap4 n : Nat} (e : n = acc.length) (h : GathW w v acc W)
    (hown : w4.ownsRow w.heap.size 36 2 (.slice (some ⟨g4, 0, none⟩) (n + 1) cap4) (n + 1) (acc.flatMap WindowD.cells ++ x.cells)) (hgr : W.grownBy w4 v.ownBlock) :
    GathW w (.slice (some ⟨g4, 0, none⟩) (n + 1) cap4) (acc ++ [x]) w4 := by subst e; exact h.next hown hgr
theorem GathW.row {w W : World} {v : Value} {acc : List WindowD} {n : Nat} (e : n = acc.length) (h : GathW w v acc W) : W.ownsRow w.heap.size 36 2 v n (acc.flatMap WindowD.cells) := by subst e; exact h.1

set_option maxHeartbeats 8000000 in
theorem l04Of_any (v : Value) (l : List Bool) (w : World) (h : SlBool w v l) (hlen : l.length ≤ 100000) :
    Calls Try.prog 76 #[v] w (NewWindow (ofMarks (markF l) l.length) w) := by
  obtain ⟨i0, hin, hz0, hzs, hz2⟩ := info_parts info_window
  have HI := Lib.hid hin
  clear hin
  obtain ⟨hl, h⟩ := h
  rcases h with ⟨rfl, A, c, rfl⟩ | ⟨g, o, c, rfl, hp, hcap, hc⟩
  · go_enter Try.func76, Try.ntmps76
    go_wp2
    have G0 := Lib.hid (GathW.made (Below.refl w.heap.size w))
    refine wp_loop_rounds 1 ?_
    rw [rounds_succ]
    go_wp2
    go_ret
    exact G0.out.new rfl
  · have HC := Lib.hid hc
    clear hc
    go_enter Try.func76, Try.ntmps76
    go_wp2
    have G0 := Lib.hid (GathW.made (Below.refl w.heap.size w))
    go_loopw [3, 9] (fun s i wr => ∃ (k : Nat) (acc : List WindowD), k ≤ l.length ∧ i = .int .i64 k ∧ Hid (ofMarks (markF l) k = acc) ∧ Hid (GathW w s acc wr)) (fun _ i _ => l.length - (intOf i).toNat)
    case atStart => exact ⟨0, [], Nat.zero_le _, rfl, Lib.hid rfl, G0⟩
    case round =>
      obtain ⟨k, acc, hk, rfl, hE, hG⟩ := hrel
      have hal := ofMarks_len (markF l) k
      rw [hE.out] at hal
      have hsz := hG.out.size
      by_cases hlt : k < l.length
      rotate_left
      · obtain rfl : k = l.length := by omega
        go_wp2
        go_ret
        exact hG.out.new hE.out
      · obtain ⟨b, hb⟩ : ∃ b, l[k]? = some b := ⟨_, List.getElem?_eq_getElem hlt⟩
        have p0 := HC.out k b hb 0 _ rfl
        simp only [Nat.mul_one, Nat.add_zero] at p0
        have hg : g < w.heap.size := World.block_lt_of_cell? w ⟨g, o + k, none⟩ p0
        have a0 := (hG.out.2.cell (p := ⟨g, o + k, none⟩) hg).trans p0
        have hF := markF_at hb
        clear p0 hb
        cases b with
        | false =>
          have EF := Lib.hid ((ofMarks_no hF).trans hE.out)
          clear hF
          go_wp2
          go_roundw
          case rel => exact ⟨k + 1, _, by omega, by go_num, EF, hG⟩
          case measure => simp [intOf]; omega
        | true =>
          have EF := Lib.hid (ofMarks_yes hF)
          rw [hE.out] at EF
          clear hF
          rcases snoc_or acc with e | ⟨acc', y, e⟩
          · subst e
            rw [markStep_nil] at EF
            obtain ⟨A, c', rfl⟩ := hG.out.form
            have hW := Lib.hid (Joins.below_alloc1 wr (.cells #[.int .i64 k, .int .i64 k] 36))
            have GW := Lib.hid (hG.out.below hW.out)
            have HN := Lib.hid (World.news_of_block (heap_alloc_new wr (.cells #[.int .i64 k, .int .i64 k] 36)))
            go_wp2_with (at_builtin; refine wpList_append_lies _ rfl _ _ _ rfl w.heap.size 36 i0 _ 2 16 Try.underlying23 HI.out hz0 (by assumption) hz2 rfl (by omega) _ ([] : List WindowD).length (([] : List WindowD).flatMap WindowD.cells) rfl GW.out.1 ⟨wr.heap.size, 0, none⟩ 1 1 (WindowD.cells ⟨k, k⟩) (by first | rfl | simp) rfl (by simpa using HN.out) (window_one _) (by omega) (by unfold maxLen; omega) (by omega) (by simp; omega) _ rfl ?_; intro g4 cap4 w4 hown4 hgrow4 hor4 hlt4; have GX := Lib.hid (GW.out.next (x := ⟨k, k⟩) hown4 hgrow4); clear hown4 hgrow4 hor4 hlt4)
            go_roundw
            case rel => exact ⟨k + 1, _, by omega, by go_num, EF, GX⟩
            case measure => simp [intOf]; omega
          · subst e
            obtain ⟨g', cap, rfl, q1, q2⟩ := hG.out.last
            have hidx : (acc'.length : Int) < (acc'.length : Int) + 1 := by omega
            have hla : acc'.length + 1 ≤ k := by simpa using hal
            by_cases hy : y.tt = (k : Int) - 1
            · rw [markStep_join hy] at EF
              have GS := Lib.hid (hG.out.set (k : Int))
              go_wp2
              go_roundw
              case rel => exact ⟨k + 1, _, by omega, by go_num, EF, GS⟩
              case measure => simp [intOf]; omega
            · rw [markStep_apart hy] at EF
              have hW := Lib.hid (Joins.below_alloc1 wr (.cells #[.int .i64 k, .int .i64 k] 36))
              have GW := Lib.hid (hG.out.below hW.out)
              have HN := Lib.hid (World.news_of_block (heap_alloc_new wr (.cells #[.int .i64 k, .int .i64 k] 36)))
              have hel : acc'.length + 1 = (acc' ++ [y]).length := by simp
              obtain ⟨acc, hacc⟩ : ∃ acc, acc' ++ [y] = acc := ⟨_, rfl⟩
              rw [hacc] at hel GW EF
              have HEL := Lib.hid hel
              clear hacc hel
              go_wp2_with (at_builtin; refine wpList_append_lies _ rfl _ _ _ rfl w.heap.size 36 i0 _ 2 16 Try.underlying23 HI.out hz0 (by assumption) hz2 rfl (by omega) _ (acc'.length + 1) (acc.flatMap WindowD.cells) rfl (GW.out.row HEL.out) ⟨wr.heap.size, 0, none⟩ 1 1 (WindowD.cells ⟨k, k⟩) (by first | rfl | simp) rfl (by simpa using HN.out) (window_one _) (by omega) (by unfold maxLen; omega) (by omega) (by simp; omega) _ rfl ?_; intro g4 cap4 w4 hown4 hgrow4 hor4 hlt4; have GX := Lib.hid (GW.out.nextN (x := ⟨k, k⟩) HEL.out hown4 hgrow4); clear hown4 hgrow4 hor4 hlt4)
              go_roundw
              case rel => exact ⟨k + 1, _, by omega, by go_num, EF, GX⟩
              case measure => simp [intOf]; omega
end Go.Proofs.Ytdpidbkkhmombaa
