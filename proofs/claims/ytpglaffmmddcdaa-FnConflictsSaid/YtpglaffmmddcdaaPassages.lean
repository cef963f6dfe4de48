
/- Passage by value and in lists: the laws' helpers over it: contracts; how an argument is opened. -/
import Derived.Test.YtpglaffmmddcdaaMarks
import Derived.Test.YtpglaffmmddcdaaOpen
import Derived.Test.YtpglaffmmddcdaaFlatV
import Derived.StillTailTactics
namespace Go.Proofs.Ytpglaffmmddcdaa
open Go.ChangeShapes Go.WideShapes Go.ChangeAt Go.Deep Go.RowKit
set_option maxRecDepth 100000

structure PassageD where
  ship : Int
  segment : Int
  toward : Bool
  start : Int
  stop : Int
@[reducible] def PassageD.val (d : PassageD) : Value := .agg #[.int .i64 d.ship, .int .i64 d.segment, .bool d.toward, .int .i64 d.start, .int .i64 d.stop]
@[reducible] def PassageD.cells (d : PassageD) : List Value := [.int .i64 d.ship, .int .i64 d.segment, .bool d.toward, .int .i64 d.start, .int .i64 d.stop]
theorem passageLen (d : PassageD) : d.cells.length = 5 := rfl
theorem passage_one (x : PassageD) : ∀ v ∈ x.cells, v.oneCell' = true := fun v hv => by simp at hv; rcases hv with rfl | rfl | rfl | rfl | rfl <;> rfl
def SlPassage : World → Value → List PassageD → Prop := SlOf 5 PassageD.cells
def OwnPassage : World → Nat → Value → List PassageD → Prop := OwnOf 5 PassageD.cells 41
def NewPassage : List PassageD → World → Ending → World → Prop := NewOf 5 PassageD.cells 41
theorem SlPassage.at {w : World} {v : Value} {l : List PassageD} (h : SlPassage w v l) : ∃ A c, v = .slice A l.length c := SlOf.form h
theorem SlPassage.below {w w' : World} {v : Value} {l : List PassageD} (h : SlPassage w v l) (hb : Below w.heap.size w w') : SlPassage w' v l := SlOf.below h hb
theorem OwnPassage.sl {w : World} {base : Nat} {v : Value} {l : List PassageD} (h : OwnPassage w base v l) (hl : l.length ≤ 1000000000) : SlPassage w v l := own_sl passageLen h hl
theorem SlPassage.cells {w : World} {l : List PassageD} {g o : Nat} (hc : ∀ i x, l[i]? = some x → ∀ j u, (PassageD.cells x)[j]? = some u → w.cell? ⟨g, o + i * 5 + j, none⟩ = some u) (i : Nat) (x : PassageD) (hx : l[i]? = some x) :
    w.cell? ⟨g, o + i * 5, none⟩ = some (.int .i64 x.ship) ∧ w.cell? ⟨g, o + i * 5 + 1, none⟩ = some (.int .i64 x.segment) ∧ w.cell? ⟨g, o + i * 5 + 2, none⟩ = some (.bool x.toward) ∧ w.cell? ⟨g, o + i * 5 + 3, none⟩ = some (.int .i64 x.start) ∧ w.cell? ⟨g, o + i * 5 + 4, none⟩ = some (.int .i64 x.stop) :=
  ⟨hc i x hx 0 _ rfl, hc i x hx 1 _ rfl, hc i x hx 2 _ rfl, hc i x hx 3 _ rfl, hc i x hx 4 _ rfl⟩
def zeroPassage : List Value := [.int .i64 0, .int .i64 0, .bool false, .int .i64 0, .int .i64 0]
theorem info_passage : (Try.prog.info? 41).map (fun i => (i.zero, i.size, i.bytes)) = some (some (.agg #[.int .i64 0, .int .i64 0, .bool false, .int .i64 0, .int .i64 0]), 5, 40) := by kernel_rfl
theorem make_passages (n : Nat) (hn : n ≤ 1000000000) (W : World) :
    (Instr.makeSlice 29 (.int .i64 (n : Int)) (.int .i64 (n : Int))).run Try.prog W = .ok (.slice (some ⟨W.heap.size, 0, none⟩) n n) (W.alloc (.cells (madeCells #[.int .i64 0, .int .i64 0, .bool false, .int .i64 0, .int .i64 0] (n * 5)) 41)) := by
  obtain ⟨i0, hi, hz0, hz1, hz2⟩ := info_parts info_passage
  have hr := run_make (P := Try.prog) W 29 41 i0 _ Try.underlying29 hi hz0 .i64 .i64 n n (by omega) (Int.le_refl _) (by rw [hz2]; omega) (by omega)
  simp only [Int.toNat_natCast, hz1] at hr
  exact hr

theorem toPassage_any (ship : Int) (segment : Int) (toward : Bool) (start : Int) (stop : Int) (w : World) : Calls Try.prog 25 #[.agg #[.int .i64 ship, .int .i64 segment, .bool toward, .int .i64 start, .int .i64 stop]] w fun e w' => e = .returned (.agg #[.int .i64 ship, .int .i64 segment, .bool toward, .int .i64 start, .int .i64 stop]) ∧ Below w.heap.size w w' := by
  go_enter Try.func25, Try.ntmps25
  go_wp2
  refine bodyPost_ret (v := .agg #[.int .i64 ship, .int .i64 segment, .bool toward, .int .i64 start, .int .i64 stop]) (by simp [results, Try.results25, go_sem]) rfl ⟨rfl, ?_⟩
  repeat (first | exact Below.refl _ _ | refine Below.setCell ?_ (by simp <;> omega) _ | refine Below.alloc ?_ (by simp <;> omega) _)

theorem eqPassage_same (ship : Int) (segment : Int) (toward : Bool) (start : Int) (stop : Int) (w : World) : Calls Try.prog 62 #[.agg #[.int .i64 ship, .int .i64 segment, .bool toward, .int .i64 start, .int .i64 stop], .agg #[.int .i64 ship, .int .i64 segment, .bool toward, .int .i64 start, .int .i64 stop]] w fun e w' => e = .returned (.bool true) ∧ Below w.heap.size w w' := by
  go_enter Try.func62, Try.ntmps62
  go_wp2
  go_ret
  exact ⟨rfl, Joins.below_alloc2 _ _ _⟩

set_option maxHeartbeats 1000000 in
theorem toPassageS_any (v : Value) (l : List PassageD) (w : World) (h : SlPassage w v l) :
    Calls Try.prog 33 #[v] w (NewPassage l w) := by
  obtain ⟨hl, h⟩ := h
  have hmk := make_passages l.length hl
  rcases h with ⟨rfl, A, c, rfl⟩ | ⟨g, o, c, rfl, hp, hcap, hc⟩
  · have hmk0 : ∀ W : World, (Instr.makeSlice 29 (.int .i64 0) (.int .i64 0)).run Try.prog W = .ok (.slice (some ⟨W.heap.size, 0, none⟩) 0 0) (W.alloc (.cells (madeCells #[.int .i64 0, .int .i64 0, .bool false, .int .i64 0, .int .i64 0] (0 * 5)) 41)) := make_passages 0 (by omega)
    clear hmk
    go_enter Try.func33, Try.ntmps33
    go_wp2
    refine wp_loop_rounds 1 ?_
    rw [rounds_succ]
    go_wp2
    go_ret
    have h := World.ownsRow_lit (base := w.heap.size) (e := 41) (size := 5) w (madeCells #[.int .i64 0, .int .i64 0, .bool false, .int .i64 0, .int .i64 0] (0 * 5)) 0 (Nat.le_refl _) (by decide) (by rw [size_madeCells])
    rw [show (madeCells #[Value.int .i64 0, .int .i64 0, .bool false, .int .i64 0, .int .i64 0] (0 * 5)).toList = [] by simp [madeCells]] at h
    exact ⟨_, rfl, h, (Below.refl _ _).alloc (Nat.le_refl _) _⟩
  · have HC := Lib.hid hc
    clear hc
    go_enter Try.func33, Try.ntmps33
    go_wp2
    clear hmk
    go_loopw [4] (fun i wr => ∃ k : Nat, k ≤ l.length ∧ i = .int .i64 k ∧ Hid (wr.ownsRow w.heap.size 41 5 (.slice (some ⟨w.heap.size, 0, none⟩) l.length l.length) l.length (halfOf PassageD.cells zeroPassage l k)) ∧ Below w.heap.size w wr) (fun i _ => l.length - (intOf i).toNat)
    case atStart =>
      refine ⟨0, Nat.zero_le _, rfl, ?_, (Below.refl _ _).alloc (Nat.le_refl _) _⟩
      have h := World.ownsRow_lit (base := w.heap.size) (e := 41) (size := 5) w (madeCells #[.int .i64 0, .int .i64 0, .bool false, .int .i64 0, .int .i64 0] (l.length * 5)) l.length (Nat.le_refl _) (by unfold maxLen; omega) (by rw [size_madeCells])
      have e := made_flat #[.int .i64 0, .int .i64 0, .bool false, .int .i64 0, .int .i64 0] l.length
      rw [half_none]
      exact Lib.hid (e ▸ h)
    case round =>
      obtain ⟨k, hk, rfl, hown, hb⟩ := hrel
      by_cases hlt : k < l.length
      · obtain ⟨x, hx⟩ : ∃ x, l[k]? = some x := ⟨_, List.getElem?_eq_getElem hlt⟩
        obtain ⟨q0, q1, q2, q3, q4⟩ := SlPassage.cells HC.out k x hx
        have hlt2 : g < w.heap.size := World.block_lt_of_cell? w ⟨g, o + k * 5, none⟩ q0
        have c0 := (hb.cell (p := ⟨g, o + k * 5, none⟩) hlt2).trans q0
        have c1 := (hb.cell (p := ⟨g, o + k * 5 + 1, none⟩) hlt2).trans q1
        have c2 := (hb.cell (p := ⟨g, o + k * 5 + 2, none⟩) hlt2).trans q2
        have c3 := (hb.cell (p := ⟨g, o + k * 5 + 3, none⟩) hlt2).trans q3
        have c4 := (hb.cell (p := ⟨g, o + k * 5 + 4, none⟩) hlt2).trans q4
        have Hx := Lib.hid hx
        clear q0 q1 q2 q3 q4 hx
        go_wp2_with fail
        refine (toPassage_any _ _ _ _ _ _).mono ?_
        rintro e w1 ⟨rfl, hb1⟩
        have own1 := ownsRow_below hown.out hb1
        have B1 : Below w.heap.size w w1 := hb.trans (hb1.mono hb.size)
        have s0 : w1.cell? ⟨w.heap.size, k * 5, none⟩ = some (.int .i64 0) := (World.ownsRow.cellAt own1 (k * 5) (by omega)).trans (half_at passageLen l k hlt 0 _ rfl)
        have s1 : w1.cell? ⟨w.heap.size, k * 5 + 1, none⟩ = some (.int .i64 0) := (World.ownsRow.cellAt own1 (k * 5 + 1) (by omega)).trans (half_at passageLen l k hlt 1 _ rfl)
        have s2 : w1.cell? ⟨w.heap.size, k * 5 + 2, none⟩ = some (.bool false) := (World.ownsRow.cellAt own1 (k * 5 + 2) (by omega)).trans (half_at passageLen l k hlt 2 _ rfl)
        have s3 : w1.cell? ⟨w.heap.size, k * 5 + 3, none⟩ = some (.int .i64 0) := (World.ownsRow.cellAt own1 (k * 5 + 3) (by omega)).trans (half_at passageLen l k hlt 3 _ rfl)
        have s4 : w1.cell? ⟨w.heap.size, k * 5 + 4, none⟩ = some (.int .i64 0) := (World.ownsRow.cellAt own1 (k * 5 + 4) (by omega)).trans (half_at passageLen l k hlt 4 _ rfl)
        have z0 : w1.frozen? ⟨w.heap.size, k * 5, none⟩ = false := World.ownsRow.frozenAt own1 _
        have z1 : w1.frozen? ⟨w.heap.size, k * 5 + 1, none⟩ = false := World.ownsRow.frozenAt own1 _
        have z2 : w1.frozen? ⟨w.heap.size, k * 5 + 2, none⟩ = false := World.ownsRow.frozenAt own1 _
        have z3 : w1.frozen? ⟨w.heap.size, k * 5 + 3, none⟩ = false := World.ownsRow.frozenAt own1 _
        have z4 : w1.frozen? ⟨w.heap.size, k * 5 + 4, none⟩ = false := World.ownsRow.frozenAt own1 _
        have hst := (World.ownsRow.stored (World.ownsRow.stored (World.ownsRow.stored (World.ownsRow.stored (World.ownsRow.stored own1 (k * 5) (.int .i64 x.ship)).1 (k * 5 + 1) (.int .i64 x.segment)).1 (k * 5 + 2) (.bool x.toward)).1 (k * 5 + 3) (.int .i64 x.start)).1 (k * 5 + 4) (.int .i64 x.stop)).1
        have e := half_set passageLen (zc := zeroPassage) rfl l k x Hx.out
        have HO := Lib.hid ((show ((((((halfOf PassageD.cells zeroPassage l k).set (k * 5) (.int .i64 x.ship)).set (k * 5 + 1) (.int .i64 x.segment)).set (k * 5 + 2) (.bool x.toward)).set (k * 5 + 3) (.int .i64 x.start)).set (k * 5 + 4) (.int .i64 x.stop)) = halfOf PassageD.cells zeroPassage l (k + 1) from e) ▸ hst)
        have HB := Lib.hid (((((B1.setCell (p := ⟨w.heap.size, k * 5, none⟩) (Nat.le_refl _) (.int .i64 x.ship)).setCell (p := ⟨w.heap.size, k * 5 + 1, none⟩) (Nat.le_refl _) (.int .i64 x.segment)).setCell (p := ⟨w.heap.size, k * 5 + 2, none⟩) (Nat.le_refl _) (.bool x.toward)).setCell (p := ⟨w.heap.size, k * 5 + 3, none⟩) (Nat.le_refl _) (.int .i64 x.start)).setCell (p := ⟨w.heap.size, k * 5 + 4, none⟩) (Nat.le_refl _) (.int .i64 x.stop))
        clear own1 hst e hb1 B1
        go_wp2
        go_roundw
        case rel => exact ⟨k + 1, by omega, by go_num, HO, HB.out⟩
        case measure => simp [intOf]; omega
      · go_wp2
        go_ret
        obtain rfl : k = l.length := by omega
        have ho := hown.out
        rw [half_full] at ho
        exact ⟨_, rfl, ho, hb⟩

def bulkPassage (_ : List PassageD) : Int := 0
theorem szPassageS_any (A : Option Addr) (l : List PassageD) (c : Nat) (w : World) (hl : l.length ≤ 9223372036854775807) (_ : l.length ≤ 1000000000 → SlPassage w (.slice A l.length c) l) (lim : Int) (h0 : 0 ≤ lim) (h1 : lim ≤ 1048576) :
    Calls Try.prog 31 #[.slice A l.length c, .int .i64 lim] w fun e w' => e = .returned (.int .i64 (leftOf lim ((l.length : Int) + bulkPassage l))) ∧ Below w.heap.size w w' := by
  have e : (l.length : Int) + bulkPassage l = (l.length : Int) := by unfold bulkPassage; omega
  rw [e]
  generalize l.length = n at *
  by_cases hlt : lim < (n : Int)
  · rw [leftOf_no hlt]
    go_enter Try.func31, Try.ntmps31
    go_wp2
    go_ret
    exact ⟨rfl, Below.refl _ _⟩
  · rw [leftOf_yes hlt]
    go_enter Try.func31, Try.ntmps31
    go_wp2
    go_ret
    exact ⟨rfl, Below.refl _ _⟩
theorem bulkPassage_pos (l : List PassageD) : 0 ≤ bulkPassage l := Int.le_refl _

set_option maxHeartbeats 1000000 in
theorem eqPassageS_same (va vb : Value) (l : List PassageD) (w : World) (ha : SlPassage w va l) (hb : SlPassage w vb l) :
    Calls Try.prog 34 #[va, vb] w fun e w' => e = .returned (.bool true) ∧ Below w.heap.size w w' := by
  obtain ⟨hl, ha⟩ := ha
  obtain ⟨_, hb⟩ := hb
  rcases ha with ⟨rfl, A, c, rfl⟩ | ⟨g, o, c, rfl, hp, _, hca⟩
  · rcases hb with ⟨_, A', c', rfl⟩ | ⟨g', o', c', rfl, hp, _, _⟩
    · go_enter Try.func34, Try.ntmps34
      go_wp2
      refine wp_loop_rounds 1 ?_
      rw [rounds_succ]
      go_wp2
      go_ret
      exact ⟨rfl, Below.refl _ _⟩
    · exact absurd hp (by simp)
  · rcases hb with ⟨rfl, A', c', rfl⟩ | ⟨g', o', c', rfl, _, _, hcb⟩
    · exact absurd hp (by simp)
    · have HA := Lib.hid hca
      have HB := Lib.hid hcb
      clear hca hcb
      go_enter Try.func34, Try.ntmps34
      go_wp2
      go_loopw [5] (fun i wr => ∃ k : Nat, k ≤ l.length ∧ i = .int .i64 k ∧ Below w.heap.size w wr) (fun i _ => l.length - (intOf i).toNat)
      case atStart => exact ⟨0, Nat.zero_le _, rfl, Below.refl _ _⟩
      case round =>
        obtain ⟨k, hk, rfl, hb⟩ := hrel
        by_cases hlt : k < l.length
        · obtain ⟨x, hx⟩ : ∃ x, l[k]? = some x := ⟨_, List.getElem?_eq_getElem hlt⟩
          obtain ⟨p0, p1, p2, p3, p4⟩ := SlPassage.cells HA.out k x hx
          obtain ⟨q0, q1, q2, q3, q4⟩ := SlPassage.cells HB.out k x hx
          have hg : g < w.heap.size := World.block_lt_of_cell? w ⟨g, o + k * 5, none⟩ p0
          have hg' : g' < w.heap.size := World.block_lt_of_cell? w ⟨g', o' + k * 5, none⟩ q0
          have a0 := (hb.cell (p := ⟨g, o + k * 5, none⟩) hg).trans p0
          have a1 := (hb.cell (p := ⟨g, o + k * 5 + 1, none⟩) hg).trans p1
          have a2 := (hb.cell (p := ⟨g, o + k * 5 + 2, none⟩) hg).trans p2
          have a3 := (hb.cell (p := ⟨g, o + k * 5 + 3, none⟩) hg).trans p3
          have a4 := (hb.cell (p := ⟨g, o + k * 5 + 4, none⟩) hg).trans p4
          have b0 := (hb.cell (p := ⟨g', o' + k * 5, none⟩) hg').trans q0
          have b1 := (hb.cell (p := ⟨g', o' + k * 5 + 1, none⟩) hg').trans q1
          have b2 := (hb.cell (p := ⟨g', o' + k * 5 + 2, none⟩) hg').trans q2
          have b3 := (hb.cell (p := ⟨g', o' + k * 5 + 3, none⟩) hg').trans q3
          have b4 := (hb.cell (p := ⟨g', o' + k * 5 + 4, none⟩) hg').trans q4
          have hbs := hb.size
          clear p0 q0 p1 q1 p2 q2 p3 q3 p4 q4 hx
          go_wp2
          go_still_tail 8, (by kernel_rfl)
          change wpList _ _ _ _ _ wr.drew
          have hd := hb.drew
          generalize wr.drew = w2 at hd ⊢
          have hds := hd.size
          clear a0 b0 a1 b1 a2 b2 a3 b3 a4 b4 hb hbs
          go_wp2_with fail
          refine (eqPassage_same _ _ _ _ _ _).mono ?_
          rintro e w3 ⟨rfl, hb3⟩
          have B3 := Lib.hid (hd.trans (hb3.mono hds))
          clear hb3 hd hds
          go_wp2
          go_roundw
          case rel => exact ⟨k + 1, by omega, by go_num, B3.out⟩
          case measure => simp [intOf]; omega
        · go_wp2
          go_ret
          exact ⟨rfl, hb⟩

/-- What the marking that begins with k writes into cell j. -/
def mvPassage (k : Int) (j : Nat) : Value := if j % 5 = 0 then .int .i64 (k + (j : Int)) else if j % 5 = 1 then .int .i64 (k + (j : Int)) else if j % 5 = 2 then .bool ((k + (j : Int)) % 3 == 0) else if j % 5 = 3 then .int .i64 (k + (j : Int)) else .int .i64 (k + (j : Int))
theorem mvPassage_0 (k : Int) (j : Nat) : mvPassage k (j * 5) = .int .i64 (k + (j : Int) * 5) := by
  unfold mvPassage
  rw [if_pos (by omega), show k + ((j * 5 : Nat) : Int) = k + (j : Int) * 5 by omega]
theorem mvPassage_1 (k : Int) (j : Nat) : mvPassage k (j * 5 + 1) = .int .i64 (k + (j : Int) * 5 + 1) := by
  unfold mvPassage
  rw [if_neg (by omega), if_pos (by omega), show k + ((j * 5 + 1 : Nat) : Int) = k + (j : Int) * 5 + 1 by omega]
theorem mvPassage_2 (k : Int) (j : Nat) : mvPassage k (j * 5 + 2) = .bool ((k + (j : Int) * 5 + 2) % 3 == 0) := by
  unfold mvPassage
  rw [if_neg (by omega), if_neg (by omega), if_pos (by omega), show k + ((j * 5 + 2 : Nat) : Int) = k + (j : Int) * 5 + 2 by omega]
theorem mvPassage_3 (k : Int) (j : Nat) : mvPassage k (j * 5 + 3) = .int .i64 (k + (j : Int) * 5 + 3) := by
  unfold mvPassage
  rw [if_neg (by omega), if_neg (by omega), if_neg (by omega), if_pos (by omega), show k + ((j * 5 + 3 : Nat) : Int) = k + (j : Int) * 5 + 3 by omega]
theorem mvPassage_4 (k : Int) (j : Nat) : mvPassage k (j * 5 + 4) = .int .i64 (k + (j : Int) * 5 + 4) := by
  unfold mvPassage
  rw [if_neg (by omega), if_neg (by omega), if_neg (by omega), if_neg (by omega), show k + ((j * 5 + 4 : Nat) : Int) = k + (j : Int) * 5 + 4 by omega]
section
variable {H : Type} {enc : TypeId × Value → H} {w : World} {base : Nat} {spare : Nat → Bool} {held : Bool}
def PassageD.wf (d : PassageD) : Prop := (Lit.int .i64 d.ship).wf = true ∧ (Lit.int .i64 d.segment).wf = true ∧ (Lit.int .i64 d.start).wf = true ∧ (Lit.int .i64 d.stop).wf = true

theorem dec_passage (n : Nat) (cs : List Value) (y : DataW H × List MemPlace) (h : DataW.trod enc Try.prog w base spare held n 48 cs = some y) : ∃ d : PassageD, cs = d.cells ∧ d.wf := by
  obtain ⟨hl, hf⟩ := struct_cells Try.underlying48 (by kernel_rfl) (by kernel_rfl) h
  obtain ⟨v0, n0, y0, e0, h0⟩ := hf 0 _ rfl
  obtain ⟨v1, n1, y1, e1, h1⟩ := hf 1 _ rfl
  obtain ⟨v2, n2, y2, e2, h2⟩ := hf 2 _ rfl
  obtain ⟨v3, n3, y3, e3, h3⟩ := hf 3 _ rfl
  obtain ⟨v4, n4, y4, e4, h4⟩ := hf 4 _ rfl
  obtain ⟨a0, ha0, _, wa0⟩ := DataW.trod_int Try.underlying3 h0
  obtain ⟨a1, ha1, _, wa1⟩ := DataW.trod_int Try.underlying3 h1
  obtain ⟨a2, ha2, _⟩ := DataW.trod_bool Try.underlying4 h2
  obtain ⟨a3, ha3, _, wa3⟩ := DataW.trod_int Try.underlying3 h3
  obtain ⟨a4, ha4, _, wa4⟩ := DataW.trod_int Try.underlying3 h4
  simp only [List.cons.injEq, and_true] at ha0 ha1 ha2 ha3 ha4
  subst ha0 ha1 ha2 ha3 ha4
  refine ⟨⟨a0, a1, a2, a3, a4⟩, ?_, wa0, wa1, wa3, wa4⟩
  match cs, hl with
  | [c0, c1, c2, c3, c4], _ =>
    simp at e0 e1 e2 e3 e4
    subst e0 e1 e2 e3 e4
    rfl

theorem open_passages {fuel : Nat} {v : Value} {x : DataW H × List MemPlace} (h : DataW.trod enc Try.prog w base (fun _ => true) held fuel 60 [v] = some x) :
    ∃ A c l, v = .slice A l.length c ∧ l.length ≤ maxLen ∧ (l.length ≤ 1000000000 → SlPassage w (.slice A l.length c) l) ∧ ∀ d ∈ l, PassageD.wf d :=
  open_elems PassageD.cells 5 PassageD.wf Try.underlying60 (by kernel_rfl) passageLen (by omega) dec_passage h

theorem open_passage_arg {r : Reach} {b0 : Nat} {v : Value} {d : DataW H} {ps : List MemPlace} (hval : Value.okWide Try.prog w r b0 48 v) (hd : DataW.Trod enc Try.prog w 0 (fun _ => true) true 48 v d ps) :
    ∃ p : PassageD, v = p.val ∧ p.wf := by
  obtain ⟨cs, rfl, hsz⟩ := okWide_struct Try.underlying48 hval
  obtain ⟨fuel, hf⟩ := hd
  obtain ⟨p, hp, hw⟩ := dec_passage _ _ _ hf
  refine ⟨p, ?_, hw⟩
  obtain ⟨l⟩ := cs
  simp [Value.cells] at hp
  rw [hp]
end

end Go.Proofs.Ytpglaffmmddcdaa
