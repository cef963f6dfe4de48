
/- Window by value and in lists: the laws' helpers over it: contracts; how an argument is opened. -/
import Derived.Test.YtghjfcnboocmjaaText
import Derived.Test.YtghjfcnboocmjaaOpen
import Derived.Test.YtghjfcnboocmjaaFlat
import Derived.StillTailTactics
namespace Go.Proofs.Ytghjfcnboocmjaa
open Go.ChangeShapes Go.WideShapes Go.ChangeAt Go.Deep Go.RowKit
set_option maxRecDepth 100000

structure WindowD where
  fr : Int
  tt : Int
@[reducible] def WindowD.val (d : WindowD) : Value := .agg #[.int .i64 d.fr, .int .i64 d.tt]
@[reducible] def WindowD.cells (d : WindowD) : List Value := [.int .i64 d.fr, .int .i64 d.tt]
theorem windowLen (d : WindowD) : d.cells.length = 2 := rfl
def SlWindow : World → Value → List WindowD → Prop := SlOf 2 WindowD.cells
def OwnWindow : World → Nat → Value → List WindowD → Prop := OwnOf 2 WindowD.cells 86
def NewWindow : List WindowD → World → Ending → World → Prop := NewOf 2 WindowD.cells 86
theorem SlWindow.at {w : World} {v : Value} {l : List WindowD} (h : SlWindow w v l) : ∃ A c, v = .slice A l.length c := SlOf.form h
theorem SlWindow.below {w w' : World} {v : Value} {l : List WindowD} (h : SlWindow w v l) (hb : Below w.heap.size w w') : SlWindow w' v l := SlOf.below h hb
theorem OwnWindow.sl {w : World} {base : Nat} {v : Value} {l : List WindowD} (h : OwnWindow w base v l) (hl : l.length ≤ 1000000000) : SlWindow w v l := own_sl windowLen h hl
theorem SlWindow.cells {w : World} {l : List WindowD} {g o : Nat} (hc : ∀ i x, l[i]? = some x → ∀ j u, (WindowD.cells x)[j]? = some u → w.cell? ⟨g, o + i * 2 + j, none⟩ = some u) (i : Nat) (x : WindowD) (hx : l[i]? = some x) :
    w.cell? ⟨g, o + i * 2, none⟩ = some (.int .i64 x.fr) ∧ w.cell? ⟨g, o + i * 2 + 1, none⟩ = some (.int .i64 x.tt) :=
  ⟨hc i x hx 0 _ rfl, hc i x hx 1 _ rfl⟩
def zeroWindow : List Value := [.int .i64 0, .int .i64 0]
theorem info_window : (Try.prog.info? 86).map (fun i => (i.zero, i.size, i.bytes)) = some (some (.agg #[.int .i64 0, .int .i64 0]), 2, 16) := by kernel_rfl
theorem make_windows (n : Nat) (hn : n ≤ 1000000000) (W : World) :
    (Instr.makeSlice 35 (.int .i64 (n : Int)) (.int .i64 (n : Int))).run Try.prog W = .ok (.slice (some ⟨W.heap.size, 0, none⟩) n n) (W.alloc (.cells (madeCells #[.int .i64 0, .int .i64 0] (n * 2)) 86)) := by
  obtain ⟨i0, hi, hz0, hz1, hz2⟩ := info_parts info_window
  have hr := run_make (P := Try.prog) W 35 86 i0 _ Try.underlying35 hi hz0 .i64 .i64 n n (by omega) (Int.le_refl _) (by rw [hz2]; omega) (by omega)
  simp only [Int.toNat_natCast, hz1] at hr
  exact hr

theorem eqWindow_same (fr tt : Int) (w : World) : Calls Try.prog 75 #[.agg #[.int .i64 fr, .int .i64 tt], .agg #[.int .i64 fr, .int .i64 tt]] w fun e w' => e = .returned (.bool true) ∧ Below w.heap.size w w' := by
  go_enter Try.func75, Try.ntmps75
  go_wp2
  go_ret
  exact ⟨rfl, Joins.below_alloc2 _ _ _⟩

set_option maxHeartbeats 1000000 in
theorem eqWindowS_same (va vb : Value) (l : List WindowD) (w : World) (ha : SlWindow w va l) (hb : SlWindow w vb l) :
    Calls Try.prog 37 #[va, vb] w fun e w' => e = .returned (.bool true) ∧ Below w.heap.size w w' := by
  obtain ⟨hl, ha⟩ := ha
  obtain ⟨_, hb⟩ := hb
  rcases ha with ⟨rfl, A, c, rfl⟩ | ⟨g, o, c, rfl, hp, _, hca⟩
  · rcases hb with ⟨_, A', c', rfl⟩ | ⟨g', o', c', rfl, hp, _, _⟩
    · go_enter Try.func37, Try.ntmps37
      go_wp2
      refine wp_loop_rounds 1 ?_
      rw [rounds_succ]
      go_wp2
      go_ret
      exact ⟨rfl, Below.refl _ _⟩
    · exact absurd hp (by simp)
  · rcases hb with ⟨rfl, A', c', rfl⟩ | ⟨g', o', c', rfl, _, _, hcb⟩
    · exact absurd hp (by simp)
    · have HA := Lib.hid hca
      have HB := Lib.hid hcb
      clear hca hcb
      go_enter Try.func37, Try.ntmps37
      go_wp2
      go_loopw [5] (fun i wr => ∃ k : Nat, k ≤ l.length ∧ i = .int .i64 k ∧ Below w.heap.size w wr) (fun i _ => l.length - (intOf i).toNat)
      case atStart => exact ⟨0, Nat.zero_le _, rfl, Below.refl _ _⟩
      case round =>
        obtain ⟨k, hk, rfl, hb⟩ := hrel
        by_cases hlt : k < l.length
        · obtain ⟨x, hx⟩ : ∃ x, l[k]? = some x := ⟨_, List.getElem?_eq_getElem hlt⟩
          obtain ⟨p0, p1⟩ := SlWindow.cells HA.out k x hx
          obtain ⟨q0, q1⟩ := SlWindow.cells HB.out k x hx
          have hg : g < w.heap.size := World.block_lt_of_cell? w ⟨g, o + k * 2, none⟩ p0
          have hg' : g' < w.heap.size := World.block_lt_of_cell? w ⟨g', o' + k * 2, none⟩ q0
          have a0 := (hb.cell (p := ⟨g, o + k * 2, none⟩) hg).trans p0
          have a1 := (hb.cell (p := ⟨g, o + k * 2 + 1, none⟩) hg).trans p1
          have b0 := (hb.cell (p := ⟨g', o' + k * 2, none⟩) hg').trans q0
          have b1 := (hb.cell (p := ⟨g', o' + k * 2 + 1, none⟩) hg').trans q1
          have hbs := hb.size
          clear p0 q0 p1 q1 hx
          go_wp2
          go_still_tail 8, (by kernel_rfl)
          change wpList _ _ _ _ _ wr.drew
          have hd := hb.drew
          generalize wr.drew = w2 at hd ⊢
          have hds := hd.size
          clear a0 b0 a1 b1 hb hbs
          go_wp2_with fail
          refine (eqWindow_same _ _ _).mono ?_
          rintro e w3 ⟨rfl, hb3⟩
          have B3 := Lib.hid (hd.trans (hb3.mono hds))
          clear hb3 hd hds
          go_wp2
          go_roundw
          case rel => exact ⟨k + 1, by omega, by go_num, B3.out⟩
          case measure => simp [intOf]; omega
        · go_wp2
          go_ret
          exact ⟨rfl, hb⟩

set_option maxHeartbeats 1000000 in
theorem markWindowS_any (v : Value) (l : List WindowD) (k : Int) (w : World) (h : SlWindow w v l) (hfz : ∀ g, v.ownBlock = some g → ∀ j, w.frozen? ⟨g, j, none⟩ = false) (h0 : 0 ≤ k) (h1 : k ≤ 100000000) (h2 : l.length ≤ 10000000) :
    Calls Try.prog 40 #[v, .int .i64 k] w fun e w' => e = .returned (.int .i64 (k + (l.length : Int) * 2)) ∧ Marked w' v (l.length * 2) k ∧ w.grownBy w' v.ownBlock := by
  obtain ⟨hl, h⟩ := h
  rcases h with ⟨rfl, A, c, rfl⟩ | ⟨g, o, c, rfl, hp, hcap, hc⟩
  · go_enter Try.func40, Try.ntmps40
    go_wp2
    refine wp_loop_rounds 1 ?_
    rw [rounds_succ]
    go_wp2
    go_ret
    exact ⟨ret_int (by simp), .inl (by simp), World.grownBy.refl _ _⟩
  · have hs : MarkRow w g o (l.length * 2) k (0 * 2) w := MarkRow.start (ints_of (fun x : WindowD => [x.fr, x.tt]) (fun x => rfl) (by omega) windowLen hc) (fun j => hfz g rfl j)
    have HS := Lib.hid hs
    clear hs hc hfz
    go_enter Try.func40, Try.ntmps40
    go_wp2
    go_loopw [1, 5] (fun q i wr => ∃ j : Nat, j ≤ l.length ∧ i = .int .i64 j ∧ q = .int .i64 (k + (j : Int) * 2) ∧ Hid (MarkRow w g o (l.length * 2) k (j * 2) wr)) (fun _ i _ => l.length - (intOf i).toNat)
    case atStart => exact ⟨0, Nat.zero_le _, rfl, by simp, HS⟩
    case round =>
      obtain ⟨j, hj, rfl, rfl, hM⟩ := hrel
      by_cases hlt : j < l.length
      · have fz := hM.out.2.2.2
        obtain ⟨x0, c0⟩ := hM.out.read (j * 2 + 0) (by omega) (by omega) (o + j * 2) (by omega)
        have f0 := fz (o + j * 2)
        have M0 := hM.out.next' (by omega) (o + j * 2) (by omega) (k + (j : Int) * 2) (by omega) (j * 2 + 1) rfl
        obtain ⟨x1, c1⟩ := hM.out.read (j * 2 + 1) (by omega) (by omega) (o + j * 2 + 1) (by omega)
        have f1 := fz (o + j * 2 + 1)
        have M1 := M0.next' (by omega) (o + j * 2 + 1) (by omega) (k + (j : Int) * 2 + 1) (by omega) (j * 2 + 2) rfl
        have HM := Lib.hid M1
        clear fz M0 M1
        go_wp2
        go_roundw
        case rel =>
          refine ⟨j + 1, by omega, by go_num, ?_, ?_⟩
          · congr 1; omega
          · rw [show (j + 1) * 2 = j * 2 + 2 by omega]; exact HM
        case measure => simp [intOf]; omega
      · go_wp2
        go_ret
        obtain rfl : j = l.length := by omega
        exact ⟨rfl, .inr ⟨g, o, l.length, c, rfl, hM.out.2.1⟩, hM.out.1⟩

set_option maxHeartbeats 1000000 in
theorem heldWindowS_any (v : Value) (len : Nat) (A : Option Addr) (c : Nat) (hv : v = .slice A len c) (k : Int) (w : World) (h : Marked w v (len * 2) k) (h0 : 0 ≤ k) (h1 : k ≤ 100000000) (h2 : len ≤ 10000000) :
    Calls Try.prog 41 #[v, .int .i64 k] w fun e w' => e = .returned (.int .i64 (k + (len : Int) * 2)) ∧ w = w' := by
  subst hv
  rcases h with hn | ⟨g, o, len', c', hv, hc⟩
  · obtain rfl : len = 0 := by omega
    go_enter Try.func41, Try.ntmps41
    go_wp2
    refine wp_loop_rounds 1 ?_
    rw [rounds_succ]
    go_wp2
    go_ret
    exact ⟨ret_int (by simp), rfl⟩
  · injection hv with hA hlen hcap
    subst hA hlen hcap
    have HC := Lib.hid hc
    clear hc
    go_enter Try.func41, Try.ntmps41
    go_wp2
    go_loop [1, 5] (fun q i => ∃ j : Nat, j ≤ len ∧ i = .int .i64 j ∧ q = .int .i64 (k + (j : Int) * 2)) (fun _ i => len - (intOf i).toNat)
    case atStart => exact ⟨0, Nat.zero_le _, rfl, by simp⟩
    case round =>
      obtain ⟨j, hj, rfl, rfl⟩ := hrel
      by_cases hlt : j < len
      · have c0 : w.cell? ⟨g, o + j * 2, none⟩ = some (.int .i64 (k + (j : Int) * 2)) := by have h := HC.out (j * 2 + 0) (by omega); rw [show o + (j * 2 + 0) = o + j * 2 by omega, show k + ((j * 2 + 0 : Nat) : Int) = k + (j : Int) * 2 by omega] at h; exact h
        have c1 : w.cell? ⟨g, o + j * 2 + 1, none⟩ = some (.int .i64 (k + (j : Int) * 2 + 1)) := by have h := HC.out (j * 2 + 1) (by omega); rw [show o + (j * 2 + 1) = o + j * 2 + 1 by omega, show k + ((j * 2 + 1 : Nat) : Int) = k + (j : Int) * 2 + 1 by omega] at h; exact h
        go_wp2
        go_round
        case rel =>
          refine ⟨j + 1, by omega, by go_num, ?_⟩
          congr 1; omega
        case measure => simp [intOf]; omega
      · go_wp2
        go_ret
        obtain rfl : j = len := by omega
        exact ⟨rfl, rfl⟩

section
variable {H : Type} {enc : TypeId × Value → H} {w : World} {base : Nat} {spare : Nat → Bool} {held : Bool}
def WindowD.wf (d : WindowD) : Prop := (Lit.int .i64 d.fr).wf = true ∧ (Lit.int .i64 d.tt).wf = true

end

end Go.Proofs.Ytghjfcnboocmjaa
