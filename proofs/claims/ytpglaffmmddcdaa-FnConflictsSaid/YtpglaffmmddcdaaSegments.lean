
/- Segment by value and in lists: the laws' helpers over it: contracts; how an argument is opened. -/
import Derived.Test.YtpglaffmmddcdaaMarks
import Derived.Test.YtpglaffmmddcdaaOpen
import Derived.Test.YtpglaffmmddcdaaFlatV
import Derived.StillTailTactics
namespace Go.Proofs.Ytpglaffmmddcdaa
open Go.ChangeShapes Go.WideShapes Go.ChangeAt Go.Deep Go.RowKit
set_option maxRecDepth 100000

structure SegmentD where
  a : Int
  b : Int
  depth : Int
  minutes : Int
  meet : Bool
@[reducible] def SegmentD.val (d : SegmentD) : Value := .agg #[.int .i64 d.a, .int .i64 d.b, .int .i64 d.depth, .int .i64 d.minutes, .bool d.meet]
@[reducible] def SegmentD.cells (d : SegmentD) : List Value := [.int .i64 d.a, .int .i64 d.b, .int .i64 d.depth, .int .i64 d.minutes, .bool d.meet]
theorem segmentLen (d : SegmentD) : d.cells.length = 5 := rfl
theorem segment_one (x : SegmentD) : ∀ v ∈ x.cells, v.oneCell' = true := fun v hv => by simp at hv; rcases hv with rfl | rfl | rfl | rfl | rfl <;> rfl
def SlSegment : World → Value → List SegmentD → Prop := SlOf 5 SegmentD.cells
def OwnSegment : World → Nat → Value → List SegmentD → Prop := OwnOf 5 SegmentD.cells 90
def NewSegment : List SegmentD → World → Ending → World → Prop := NewOf 5 SegmentD.cells 90
theorem SlSegment.at {w : World} {v : Value} {l : List SegmentD} (h : SlSegment w v l) : ∃ A c, v = .slice A l.length c := SlOf.form h
theorem SlSegment.below {w w' : World} {v : Value} {l : List SegmentD} (h : SlSegment w v l) (hb : Below w.heap.size w w') : SlSegment w' v l := SlOf.below h hb
theorem OwnSegment.sl {w : World} {base : Nat} {v : Value} {l : List SegmentD} (h : OwnSegment w base v l) (hl : l.length ≤ 1000000000) : SlSegment w v l := own_sl segmentLen h hl
theorem SlSegment.cells {w : World} {l : List SegmentD} {g o : Nat} (hc : ∀ i x, l[i]? = some x → ∀ j u, (SegmentD.cells x)[j]? = some u → w.cell? ⟨g, o + i * 5 + j, none⟩ = some u) (i : Nat) (x : SegmentD) (hx : l[i]? = some x) :
    w.cell? ⟨g, o + i * 5, none⟩ = some (.int .i64 x.a) ∧ w.cell? ⟨g, o + i * 5 + 1, none⟩ = some (.int .i64 x.b) ∧ w.cell? ⟨g, o + i * 5 + 2, none⟩ = some (.int .i64 x.depth) ∧ w.cell? ⟨g, o + i * 5 + 3, none⟩ = some (.int .i64 x.minutes) ∧ w.cell? ⟨g, o + i * 5 + 4, none⟩ = some (.bool x.meet) :=
  ⟨hc i x hx 0 _ rfl, hc i x hx 1 _ rfl, hc i x hx 2 _ rfl, hc i x hx 3 _ rfl, hc i x hx 4 _ rfl⟩
def zeroSegment : List Value := [.int .i64 0, .int .i64 0, .int .i64 0, .int .i64 0, .bool false]
theorem info_segment : (Try.prog.info? 90).map (fun i => (i.zero, i.size, i.bytes)) = some (some (.agg #[.int .i64 0, .int .i64 0, .int .i64 0, .int .i64 0, .bool false]), 5, 40) := by kernel_rfl
theorem make_segments (n : Nat) (hn : n ≤ 1000000000) (W : World) :
    (Instr.makeSlice 24 (.int .i64 (n : Int)) (.int .i64 (n : Int))).run Try.prog W = .ok (.slice (some ⟨W.heap.size, 0, none⟩) n n) (W.alloc (.cells (madeCells #[.int .i64 0, .int .i64 0, .int .i64 0, .int .i64 0, .bool false] (n * 5)) 90)) := by
  obtain ⟨i0, hi, hz0, hz1, hz2⟩ := info_parts info_segment
  have hr := run_make (P := Try.prog) W 24 90 i0 _ Try.underlying24 hi hz0 .i64 .i64 n n (by omega) (Int.le_refl _) (by rw [hz2]; omega) (by omega)
  simp only [Int.toNat_natCast, hz1] at hr
  exact hr

theorem toSegment_any (a : Int) (b : Int) (depth : Int) (minutes : Int) (meet : Bool) (w : World) : Calls Try.prog 73 #[.agg #[.int .i64 a, .int .i64 b, .int .i64 depth, .int .i64 minutes, .bool meet]] w fun e w' => e = .returned (.agg #[.int .i64 a, .int .i64 b, .int .i64 depth, .int .i64 minutes, .bool meet]) ∧ Below w.heap.size w w' := by
  go_enter Try.func73, Try.ntmps73
  go_wp2
  refine bodyPost_ret (v := .agg #[.int .i64 a, .int .i64 b, .int .i64 depth, .int .i64 minutes, .bool meet]) (by simp [results, Try.results73, go_sem]) rfl ⟨rfl, ?_⟩
  repeat (first | exact Below.refl _ _ | refine Below.setCell ?_ (by simp <;> omega) _ | refine Below.alloc ?_ (by simp <;> omega) _)

theorem eqSegment_same (a : Int) (b : Int) (depth : Int) (minutes : Int) (meet : Bool) (w : World) : Calls Try.prog 75 #[.agg #[.int .i64 a, .int .i64 b, .int .i64 depth, .int .i64 minutes, .bool meet], .agg #[.int .i64 a, .int .i64 b, .int .i64 depth, .int .i64 minutes, .bool meet]] w fun e w' => e = .returned (.bool true) ∧ Below w.heap.size w w' := by
  go_enter Try.func75, Try.ntmps75
  go_wp2
  go_ret
  exact ⟨rfl, Joins.below_alloc2 _ _ _⟩

set_option maxHeartbeats 1000000 in
theorem toSegmentS_any (v : Value) (l : List SegmentD) (w : World) (h : SlSegment w v l) :
    Calls Try.prog 59 #[v] w (NewSegment l w) := by
  obtain ⟨hl, h⟩ := h
  have hmk := make_segments l.length hl
  rcases h with ⟨rfl, A, c, rfl⟩ | ⟨g, o, c, rfl, hp, hcap, hc⟩
  · have hmk0 : ∀ W : World, (Instr.makeSlice 24 (.int .i64 0) (.int .i64 0)).run Try.prog W = .ok (.slice (some ⟨W.heap.size, 0, none⟩) 0 0) (W.alloc (.cells (madeCells #[.int .i64 0, .int .i64 0, .int .i64 0, .int .i64 0, .bool false] (0 * 5)) 90)) := make_segments 0 (by omega)
    clear hmk
    go_enter Try.func59, Try.ntmps59
    go_wp2
    refine wp_loop_rounds 1 ?_
    rw [rounds_succ]
    go_wp2
    go_ret
    have h := World.ownsRow_lit (base := w.heap.size) (e := 90) (size := 5) w (madeCells #[.int .i64 0, .int .i64 0, .int .i64 0, .int .i64 0, .bool false] (0 * 5)) 0 (Nat.le_refl _) (by decide) (by rw [size_madeCells])
    rw [show (madeCells #[Value.int .i64 0, .int .i64 0, .int .i64 0, .int .i64 0, .bool false] (0 * 5)).toList = [] by simp [madeCells]] at h
    exact ⟨_, rfl, h, (Below.refl _ _).alloc (Nat.le_refl _) _⟩
  · have HC := Lib.hid hc
    clear hc
    go_enter Try.func59, Try.ntmps59
    go_wp2
    clear hmk
    go_loopw [4] (fun i wr => ∃ k : Nat, k ≤ l.length ∧ i = .int .i64 k ∧ Hid (wr.ownsRow w.heap.size 90 5 (.slice (some ⟨w.heap.size, 0, none⟩) l.length l.length) l.length (halfOf SegmentD.cells zeroSegment l k)) ∧ Below w.heap.size w wr) (fun i _ => l.length - (intOf i).toNat)
    case atStart =>
      refine ⟨0, Nat.zero_le _, rfl, ?_, (Below.refl _ _).alloc (Nat.le_refl _) _⟩
      have h := World.ownsRow_lit (base := w.heap.size) (e := 90) (size := 5) w (madeCells #[.int .i64 0, .int .i64 0, .int .i64 0, .int .i64 0, .bool false] (l.length * 5)) l.length (Nat.le_refl _) (by unfold maxLen; omega) (by rw [size_madeCells])
      have e := made_flat #[.int .i64 0, .int .i64 0, .int .i64 0, .int .i64 0, .bool false] l.length
      rw [half_none]
      exact Lib.hid (e ▸ h)
    case round =>
      obtain ⟨k, hk, rfl, hown, hb⟩ := hrel
      by_cases hlt : k < l.length
      · obtain ⟨x, hx⟩ : ∃ x, l[k]? = some x := ⟨_, List.getElem?_eq_getElem hlt⟩
        obtain ⟨q0, q1, q2, q3, q4⟩ := SlSegment.cells HC.out k x hx
        have hlt2 : g < w.heap.size := World.block_lt_of_cell? w ⟨g, o + k * 5, none⟩ q0
        have c0 := (hb.cell (p := ⟨g, o + k * 5, none⟩) hlt2).trans q0
        have c1 := (hb.cell (p := ⟨g, o + k * 5 + 1, none⟩) hlt2).trans q1
        have c2 := (hb.cell (p := ⟨g, o + k * 5 + 2, none⟩) hlt2).trans q2
        have c3 := (hb.cell (p := ⟨g, o + k * 5 + 3, none⟩) hlt2).trans q3
        have c4 := (hb.cell (p := ⟨g, o + k * 5 + 4, none⟩) hlt2).trans q4
        have Hx := Lib.hid hx
        clear q0 q1 q2 q3 q4 hx
        go_wp2_with fail
        refine (toSegment_any _ _ _ _ _ _).mono ?_
        rintro e w1 ⟨rfl, hb1⟩
        have own1 := ownsRow_below hown.out hb1
        have B1 : Below w.heap.size w w1 := hb.trans (hb1.mono hb.size)
        have s0 : w1.cell? ⟨w.heap.size, k * 5, none⟩ = some (.int .i64 0) := (World.ownsRow.cellAt own1 (k * 5) (by omega)).trans (half_at segmentLen l k hlt 0 _ rfl)
        have s1 : w1.cell? ⟨w.heap.size, k * 5 + 1, none⟩ = some (.int .i64 0) := (World.ownsRow.cellAt own1 (k * 5 + 1) (by omega)).trans (half_at segmentLen l k hlt 1 _ rfl)
        have s2 : w1.cell? ⟨w.heap.size, k * 5 + 2, none⟩ = some (.int .i64 0) := (World.ownsRow.cellAt own1 (k * 5 + 2) (by omega)).trans (half_at segmentLen l k hlt 2 _ rfl)
        have s3 : w1.cell? ⟨w.heap.size, k * 5 + 3, none⟩ = some (.int .i64 0) := (World.ownsRow.cellAt own1 (k * 5 + 3) (by omega)).trans (half_at segmentLen l k hlt 3 _ rfl)
        have s4 : w1.cell? ⟨w.heap.size, k * 5 + 4, none⟩ = some (.bool false) := (World.ownsRow.cellAt own1 (k * 5 + 4) (by omega)).trans (half_at segmentLen l k hlt 4 _ rfl)
        have z0 : w1.frozen? ⟨w.heap.size, k * 5, none⟩ = false := World.ownsRow.frozenAt own1 _
        have z1 : w1.frozen? ⟨w.heap.size, k * 5 + 1, none⟩ = false := World.ownsRow.frozenAt own1 _
        have z2 : w1.frozen? ⟨w.heap.size, k * 5 + 2, none⟩ = false := World.ownsRow.frozenAt own1 _
        have z3 : w1.frozen? ⟨w.heap.size, k * 5 + 3, none⟩ = false := World.ownsRow.frozenAt own1 _
        have z4 : w1.frozen? ⟨w.heap.size, k * 5 + 4, none⟩ = false := World.ownsRow.frozenAt own1 _
        have hst := (World.ownsRow.stored (World.ownsRow.stored (World.ownsRow.stored (World.ownsRow.stored (World.ownsRow.stored own1 (k * 5) (.int .i64 x.a)).1 (k * 5 + 1) (.int .i64 x.b)).1 (k * 5 + 2) (.int .i64 x.depth)).1 (k * 5 + 3) (.int .i64 x.minutes)).1 (k * 5 + 4) (.bool x.meet)).1
        have e := half_set segmentLen (zc := zeroSegment) rfl l k x Hx.out
        have HO := Lib.hid ((show ((((((halfOf SegmentD.cells zeroSegment l k).set (k * 5) (.int .i64 x.a)).set (k * 5 + 1) (.int .i64 x.b)).set (k * 5 + 2) (.int .i64 x.depth)).set (k * 5 + 3) (.int .i64 x.minutes)).set (k * 5 + 4) (.bool x.meet)) = halfOf SegmentD.cells zeroSegment l (k + 1) from e) ▸ hst)
        have HB := Lib.hid (((((B1.setCell (p := ⟨w.heap.size, k * 5, none⟩) (Nat.le_refl _) (.int .i64 x.a)).setCell (p := ⟨w.heap.size, k * 5 + 1, none⟩) (Nat.le_refl _) (.int .i64 x.b)).setCell (p := ⟨w.heap.size, k * 5 + 2, none⟩) (Nat.le_refl _) (.int .i64 x.depth)).setCell (p := ⟨w.heap.size, k * 5 + 3, none⟩) (Nat.le_refl _) (.int .i64 x.minutes)).setCell (p := ⟨w.heap.size, k * 5 + 4, none⟩) (Nat.le_refl _) (.bool x.meet))
        clear own1 hst e hb1 B1
        go_wp2
        go_roundw
        case rel => exact ⟨k + 1, by omega, by go_num, HO, HB.out⟩
        case measure => simp [intOf]; omega
      · go_wp2
        go_ret
        obtain rfl : k = l.length := by omega
        have ho := hown.out
        rw [half_full] at ho
        exact ⟨_, rfl, ho, hb⟩

def bulkSegment (_ : List SegmentD) : Int := 0
theorem szSegmentS_any (A : Option Addr) (l : List SegmentD) (c : Nat) (w : World) (hl : l.length ≤ 9223372036854775807) (_ : l.length ≤ 1000000000 → SlSegment w (.slice A l.length c) l) (lim : Int) (h0 : 0 ≤ lim) (h1 : lim ≤ 1048576) :
    Calls Try.prog 55 #[.slice A l.length c, .int .i64 lim] w fun e w' => e = .returned (.int .i64 (leftOf lim ((l.length : Int) + bulkSegment l))) ∧ Below w.heap.size w w' := by
  have e : (l.length : Int) + bulkSegment l = (l.length : Int) := by unfold bulkSegment; omega
  rw [e]
  generalize l.length = n at *
  by_cases hlt : lim < (n : Int)
  · rw [leftOf_no hlt]
    go_enter Try.func55, Try.ntmps55
    go_wp2
    go_ret
    exact ⟨rfl, Below.refl _ _⟩
  · rw [leftOf_yes hlt]
    go_enter Try.func55, Try.ntmps55
    go_wp2
    go_ret
    exact ⟨rfl, Below.refl _ _⟩
theorem bulkSegment_pos (l : List SegmentD) : 0 ≤ bulkSegment l := Int.le_refl _

set_option maxHeartbeats 1000000 in
theorem eqSegmentS_same (va vb : Value) (l : List SegmentD) (w : World) (ha : SlSegment w va l) (hb : SlSegment w vb l) :
    Calls Try.prog 61 #[va, vb] w fun e w' => e = .returned (.bool true) ∧ Below w.heap.size w w' := by
  obtain ⟨hl, ha⟩ := ha
  obtain ⟨_, hb⟩ := hb
  rcases ha with ⟨rfl, A, c, rfl⟩ | ⟨g, o, c, rfl, hp, _, hca⟩
  · rcases hb with ⟨_, A', c', rfl⟩ | ⟨g', o', c', rfl, hp, _, _⟩
    · go_enter Try.func61, Try.ntmps61
      go_wp2
      refine wp_loop_rounds 1 ?_
      rw [rounds_succ]
      go_wp2
      go_ret
      exact ⟨rfl, Below.refl _ _⟩
    · exact absurd hp (by simp)
  · rcases hb with ⟨rfl, A', c', rfl⟩ | ⟨g', o', c', rfl, _, _, hcb⟩
    · exact absurd hp (by simp)
    · have HA := Lib.hid hca
      have HB := Lib.hid hcb
      clear hca hcb
      go_enter Try.func61, Try.ntmps61
      go_wp2
      go_loopw [5] (fun i wr => ∃ k : Nat, k ≤ l.length ∧ i = .int .i64 k ∧ Below w.heap.size w wr) (fun i _ => l.length - (intOf i).toNat)
      case atStart => exact ⟨0, Nat.zero_le _, rfl, Below.refl _ _⟩
      case round =>
        obtain ⟨k, hk, rfl, hb⟩ := hrel
        by_cases hlt : k < l.length
        · obtain ⟨x, hx⟩ : ∃ x, l[k]? = some x := ⟨_, List.getElem?_eq_getElem hlt⟩
          obtain ⟨p0, p1, p2, p3, p4⟩ := SlSegment.cells HA.out k x hx
          obtain ⟨q0, q1, q2, q3, q4⟩ := SlSegment.cells HB.out k x hx
          have hg : g < w.heap.size := World.block_lt_of_cell? w ⟨g, o + k * 5, none⟩ p0
          have hg' : g' < w.heap.size := World.block_lt_of_cell? w ⟨g', o' + k * 5, none⟩ q0
          have a0 := (hb.cell (p := ⟨g, o + k * 5, none⟩) hg).trans p0
          have a1 := (hb.cell (p := ⟨g, o + k * 5 + 1, none⟩) hg).trans p1
          have a2 := (hb.cell (p := ⟨g, o + k * 5 + 2, none⟩) hg).trans p2
          have a3 := (hb.cell (p := ⟨g, o + k * 5 + 3, none⟩) hg).trans p3
          have a4 := (hb.cell (p := ⟨g, o + k * 5 + 4, none⟩) hg).trans p4
          have b0 := (hb.cell (p := ⟨g', o' + k * 5, none⟩) hg').trans q0
          have b1 := (hb.cell (p := ⟨g', o' + k * 5 + 1, none⟩) hg').trans q1
          have b2 := (hb.cell (p := ⟨g', o' + k * 5 + 2, none⟩) hg').trans q2
          have b3 := (hb.cell (p := ⟨g', o' + k * 5 + 3, none⟩) hg').trans q3
          have b4 := (hb.cell (p := ⟨g', o' + k * 5 + 4, none⟩) hg').trans q4
          have hbs := hb.size
          clear p0 q0 p1 q1 p2 q2 p3 q3 p4 q4 hx
          go_wp2
          go_still_tail 8, (by kernel_rfl)
          change wpList _ _ _ _ _ wr.drew
          have hd := hb.drew
          generalize wr.drew = w2 at hd ⊢
          have hds := hd.size
          clear a0 b0 a1 b1 a2 b2 a3 b3 a4 b4 hb hbs
          go_wp2_with fail
          refine (eqSegment_same _ _ _ _ _ _).mono ?_
          rintro e w3 ⟨rfl, hb3⟩
          have B3 := Lib.hid (hd.trans (hb3.mono hds))
          clear hb3 hd hds
          go_wp2
          go_roundw
          case rel => exact ⟨k + 1, by omega, by go_num, B3.out⟩
          case measure => simp [intOf]; omega
        · go_wp2
          go_ret
          exact ⟨rfl, hb⟩

/-- What the marking that begins with k writes into cell j. -/
def mvSegment (k : Int) (j : Nat) : Value := if j % 5 = 0 then .int .i64 (k + (j : Int)) else if j % 5 = 1 then .int .i64 (k + (j : Int)) else if j % 5 = 2 then .int .i64 (k + (j : Int)) else if j % 5 = 3 then .int .i64 (k + (j : Int)) else .bool ((k + (j : Int)) % 3 == 0)
theorem mvSegment_0 (k : Int) (j : Nat) : mvSegment k (j * 5) = .int .i64 (k + (j : Int) * 5) := by
  unfold mvSegment
  rw [if_pos (by omega), show k + ((j * 5 : Nat) : Int) = k + (j : Int) * 5 by omega]
theorem mvSegment_1 (k : Int) (j : Nat) : mvSegment k (j * 5 + 1) = .int .i64 (k + (j : Int) * 5 + 1) := by
  unfold mvSegment
  rw [if_neg (by omega), if_pos (by omega), show k + ((j * 5 + 1 : Nat) : Int) = k + (j : Int) * 5 + 1 by omega]
theorem mvSegment_2 (k : Int) (j : Nat) : mvSegment k (j * 5 + 2) = .int .i64 (k + (j : Int) * 5 + 2) := by
  unfold mvSegment
  rw [if_neg (by omega), if_neg (by omega), if_pos (by omega), show k + ((j * 5 + 2 : Nat) : Int) = k + (j : Int) * 5 + 2 by omega]
theorem mvSegment_3 (k : Int) (j : Nat) : mvSegment k (j * 5 + 3) = .int .i64 (k + (j : Int) * 5 + 3) := by
  unfold mvSegment
  rw [if_neg (by omega), if_neg (by omega), if_neg (by omega), if_pos (by omega), show k + ((j * 5 + 3 : Nat) : Int) = k + (j : Int) * 5 + 3 by omega]
theorem mvSegment_4 (k : Int) (j : Nat) : mvSegment k (j * 5 + 4) = .bool ((k + (j : Int) * 5 + 4) % 3 == 0) := by
  unfold mvSegment
  rw [if_neg (by omega), if_neg (by omega), if_neg (by omega), if_neg (by omega), show k + ((j * 5 + 4 : Nat) : Int) = k + (j : Int) * 5 + 4 by omega]
section
variable {H : Type} {enc : TypeId × Value → H} {w : World} {base : Nat} {spare : Nat → Bool} {held : Bool}
def SegmentD.wf (d : SegmentD) : Prop := (Lit.int .i64 d.a).wf = true ∧ (Lit.int .i64 d.b).wf = true ∧ (Lit.int .i64 d.depth).wf = true ∧ (Lit.int .i64 d.minutes).wf = true

theorem dec_segment (n : Nat) (cs : List Value) (y : DataW H × List MemPlace) (h : DataW.trod enc Try.prog w base spare held n 120 cs = some y) : ∃ d : SegmentD, cs = d.cells ∧ d.wf := by
  obtain ⟨hl, hf⟩ := struct_cells Try.underlying120 (by kernel_rfl) (by kernel_rfl) h
  obtain ⟨v0, n0, y0, e0, h0⟩ := hf 0 _ rfl
  obtain ⟨v1, n1, y1, e1, h1⟩ := hf 1 _ rfl
  obtain ⟨v2, n2, y2, e2, h2⟩ := hf 2 _ rfl
  obtain ⟨v3, n3, y3, e3, h3⟩ := hf 3 _ rfl
  obtain ⟨v4, n4, y4, e4, h4⟩ := hf 4 _ rfl
  obtain ⟨a0, ha0, _, wa0⟩ := DataW.trod_int Try.underlying3 h0
  obtain ⟨a1, ha1, _, wa1⟩ := DataW.trod_int Try.underlying3 h1
  obtain ⟨a2, ha2, _, wa2⟩ := DataW.trod_int Try.underlying3 h2
  obtain ⟨a3, ha3, _, wa3⟩ := DataW.trod_int Try.underlying3 h3
  obtain ⟨a4, ha4, _⟩ := DataW.trod_bool Try.underlying4 h4
  simp only [List.cons.injEq, and_true] at ha0 ha1 ha2 ha3 ha4
  subst ha0 ha1 ha2 ha3 ha4
  refine ⟨⟨a0, a1, a2, a3, a4⟩, ?_, wa0, wa1, wa2, wa3⟩
  match cs, hl with
  | [c0, c1, c2, c3, c4], _ =>
    simp at e0 e1 e2 e3 e4
    subst e0 e1 e2 e3 e4
    rfl

theorem open_segments {fuel : Nat} {v : Value} {x : DataW H × List MemPlace} (h : DataW.trod enc Try.prog w base (fun _ => true) held fuel 52 [v] = some x) :
    ∃ A c l, v = .slice A l.length c ∧ l.length ≤ maxLen ∧ (l.length ≤ 1000000000 → SlSegment w (.slice A l.length c) l) ∧ ∀ d ∈ l, SegmentD.wf d :=
  open_elems SegmentD.cells 5 SegmentD.wf Try.underlying52 (by kernel_rfl) segmentLen (by omega) dec_segment h

theorem open_segment_arg {r : Reach} {b0 : Nat} {v : Value} {d : DataW H} {ps : List MemPlace} (hval : Value.okWide Try.prog w r b0 120 v) (hd : DataW.Trod enc Try.prog w 0 (fun _ => true) true 120 v d ps) :
    ∃ p : SegmentD, v = p.val ∧ p.wf := by
  obtain ⟨cs, rfl, hsz⟩ := okWide_struct Try.underlying120 hval
  obtain ⟨fuel, hf⟩ := hd
  obtain ⟨p, hp, hw⟩ := dec_segment _ _ _ hf
  refine ⟨p, ?_, hw⟩
  obtain ⟨l⟩ := cs
  simp [Value.cells] at hp
  rw [hp]
end

end Go.Proofs.Ytpglaffmmddcdaa
