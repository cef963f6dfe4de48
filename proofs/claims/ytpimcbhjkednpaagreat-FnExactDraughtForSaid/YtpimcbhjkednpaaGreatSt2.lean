
/- What ExactSureStarts and ExactOpenStarts and ExactIsSure and ExactIsOpenStart and ExactDraughtFor rests on, part 2: contracts and mathematics. -/
import Derived.Test.YtpimcbhjkednpaaGreatSt0
import Derived.StillTailTactics
import Derived.Test.YtpimcbhjkednpaaGreatSt1
import Derived.Deep.RegionHeld3
namespace Go.Proofs.YtpimcbhjkednpaaGreat
open Go.ChangeShapes Go.WideShapes Go.ChangeAt Go.Deep Go.RowKit
set_option maxRecDepth 100000
structure SegmentD where
  a : Int
  b : Int
  depth : Int
  minutes : Int
  meet : Bool
@[reducible] def SegmentD.val (d : SegmentD) : Value := .agg #[.int .i64 d.a, .int .i64 d.b, .int .i64 d.depth, .int .i64 d.minutes, .bool d.meet]
@[reducible] def SegmentD.cells (d : SegmentD) : List Value := [.int .i64 d.a, .int .i64 d.b, .int .i64 d.depth, .int .i64 d.minutes, .bool d.meet]
theorem segmentLen (d : SegmentD) : d.cells.length = 5 := rfl
def SlSegment : World → Value → List SegmentD → Prop := SlOf 5 SegmentD.cells
def OwnSegment : World → Nat → Value → List SegmentD → Prop := OwnOf 5 SegmentD.cells 108
def NewSegment : List SegmentD → World → Ending → World → Prop := NewOf 5 SegmentD.cells 108
theorem SlSegment.at {w : World} {v : Value} {l : List SegmentD} (h : SlSegment w v l) : ∃ A c, v = .slice A l.length c := SlOf.form h
theorem SlSegment.below {w w' : World} {v : Value} {l : List SegmentD} (h : SlSegment w v l) (hb : Below w.heap.size w w') : SlSegment w' v l := SlOf.below h hb
theorem OwnSegment.sl {w : World} {base : Nat} {v : Value} {l : List SegmentD} (h : OwnSegment w base v l) (hl : l.length ≤ 1000000000) : SlSegment w v l := own_sl segmentLen h hl
theorem SlSegment.cells {w : World} {l : List SegmentD} {g o : Nat} (hc : ∀ i x, l[i]? = some x → ∀ j u, (SegmentD.cells x)[j]? = some u → w.cell? ⟨g, o + i * 5 + j, none⟩ = some u) (i : Nat) (x : SegmentD) (hx : l[i]? = some x) :
    w.cell? ⟨g, o + i * 5, none⟩ = some (.int .i64 x.a) ∧ w.cell? ⟨g, o + i * 5 + 1, none⟩ = some (.int .i64 x.b) ∧ w.cell? ⟨g, o + i * 5 + 2, none⟩ = some (.int .i64 x.depth) ∧ w.cell? ⟨g, o + i * 5 + 3, none⟩ = some (.int .i64 x.minutes) ∧ w.cell? ⟨g, o + i * 5 + 4, none⟩ = some (.bool x.meet) :=
  ⟨hc i x hx 0 _ rfl, hc i x hx 1 _ rfl, hc i x hx 2 _ rfl, hc i x hx 3 _ rfl, hc i x hx 4 _ rfl⟩
def zeroSegment : List Value := [.int .i64 0, .int .i64 0, .int .i64 0, .int .i64 0, .bool false]
theorem info_segment : (Tryz.prog.info? 108).map (fun i => (i.zero, i.size, i.bytes)) = some (some (.agg #[.int .i64 0, .int .i64 0, .int .i64 0, .int .i64 0, .bool false]), 5, 40) := by kernel_rfl
theorem make_segments (n : Nat) (hn : n ≤ 1000000000) (W : World) :
    (Instr.makeSlice 47 (.int .i64 (n : Int)) (.int .i64 (n : Int))).run Tryz.prog W = .ok (.slice (some ⟨W.heap.size, 0, none⟩) n n) (W.alloc (.cells (madeCells #[.int .i64 0, .int .i64 0, .int .i64 0, .int .i64 0, .bool false] (n * 5)) 108)) := by
  obtain ⟨i0, hi, hz0, hz1, hz2⟩ := info_parts info_segment
  have hr := run_make (P := Tryz.prog) W 47 108 i0 _ Tryz.underlying47 hi hz0 .i64 .i64 n n (by omega) (Int.le_refl _) (by rw [hz2]; omega) (by omega)
  simp only [Int.toNat_natCast, hz1] at hr
  exact hr
theorem toSegment_any (a : Int) (b : Int) (depth : Int) (minutes : Int) (meet : Bool) (w : World) : Calls Tryz.prog 70 #[.agg #[.int .i64 a, .int .i64 b, .int .i64 depth, .int .i64 minutes, .bool meet]] w fun e w' => e = .returned (.agg #[.int .i64 a, .int .i64 b, .int .i64 depth, .int .i64 minutes, .bool meet]) ∧ Below w.heap.size w w' := by
  go_enter Tryz.func70, Tryz.ntmps70
  go_wp2
  refine bodyPost_ret (v := .agg #[.int .i64 a, .int .i64 b, .int .i64 depth, .int .i64 minutes, .bool meet]) (by simp [results, Tryz.results70, go_sem]) rfl ⟨rfl, ?_⟩
  repeat (first | exact Below.refl _ _ | refine Below.setCell ?_ (by simp <;> omega) _ | refine Below.alloc ?_ (by simp <;> omega) _)
theorem eqSegment_same (a : Int) (b : Int) (depth : Int) (minutes : Int) (meet : Bool) (w : World) : Calls Tryz.prog 79 #[.agg #[.int .i64 a, .int .i64 b, .int .i64 depth, .int .i64 minutes, .bool meet], .agg #[.int .i64 a, .int .i64 b, .int .i64 depth, .int .i64 minutes, .bool meet]] w fun e w' => e = .returned (.bool true) ∧ Below w.heap.size w w' := by
  go_enter Tryz.func79, Tryz.ntmps79
  go_wp2
  go_ret
  exact ⟨rfl, Joins.below_alloc2 _ _ _⟩
set_option maxHeartbeats 1000000 in
theorem toSegmentS_any (v : Value) (l : List SegmentD) (w : World) (h : SlSegment w v l) :
    Calls Tryz.prog 39 #[v] w (NewSegment l w) := by
  obtain ⟨hl, h⟩ := h
  have hmk := make_segments l.length hl
  rcases h with ⟨rfl, A, c, rfl⟩ | ⟨g, o, c, rfl, hp, hcap, hc⟩
  · have hmk0 : ∀ W : World, (Instr.makeSlice 47 (.int .i64 0) (.int .i64 0)).run Tryz.prog W = .ok (.slice (some ⟨W.heap.size, 0, none⟩) 0 0) (W.alloc (.cells (madeCells #[.int .i64 0, .int .i64 0, .int .i64 0, .int .i64 0, .bool false] (0 * 5)) 108)) := make_segments 0 (by omega)
    clear hmk
    go_enter Tryz.func39, Tryz.ntmps39
    go_wp2
    refine wp_loop_rounds 1 ?_
    rw [rounds_succ]
    go_wp2
    go_ret
    have h := World.ownsRow_lit (base := w.heap.size) (e := 108) (size := 5) w (madeCells #[.int .i64 0, .int .i64 0, .int .i64 0, .int .i64 0, .bool false] (0 * 5)) 0 (Nat.le_refl _) (by decide) (by rw [size_madeCells])
    rw [show (madeCells #[Value.int .i64 0, .int .i64 0, .int .i64 0, .int .i64 0, .bool false] (0 * 5)).toList = [] by simp [madeCells]] at h
    exact ⟨_, rfl, h, (Below.refl _ _).alloc (Nat.le_refl _) _⟩
  · have HC := Lib.hid hc
    clear hc
    go_enter Tryz.func39, Tryz.ntmps39
    go_wp2
    clear hmk
    go_loopw [4] (fun i wr => ∃ k : Nat, k ≤ l.length ∧ i = .int .i64 k ∧ Hid (wr.ownsRow w.heap.size 108 5 (.slice (some ⟨w.heap.size, 0, none⟩) l.length l.length) l.length (halfOf SegmentD.cells zeroSegment l k)) ∧ Below w.heap.size w wr) (fun i _ => l.length - (intOf i).toNat)
    case atStart =>
      refine ⟨0, Nat.zero_le _, rfl, ?_, (Below.refl _ _).alloc (Nat.le_refl _) _⟩
      have h := World.ownsRow_lit (base := w.heap.size) (e := 108) (size := 5) w (madeCells #[.int .i64 0, .int .i64 0, .int .i64 0, .int .i64 0, .bool false] (l.length * 5)) l.length (Nat.le_refl _) (by unfold maxLen; omega) (by rw [size_madeCells])
      have e := made_flat #[.int .i64 0, .int .i64 0, .int .i64 0, .int .i64 0, .bool false] l.length
      rw [half_none]
      exact Lib.hid (e ▸ h)
    case round =>
      obtain ⟨k, hk, rfl, hown, hb⟩ := hrel
      by_cases hlt : k < l.length
      · obtain ⟨x, hx⟩ : ∃ x, l[k]? = some x := ⟨_, List.getElem?_eq_getElem hlt⟩
        obtain ⟨q0, q1, q2, q3, q4⟩ := SlSegment.cells HC.out k x hx
        have hlt2 : g < w.heap.size := World.block_lt_of_cell? w ⟨g, o + k * 5, none⟩ q0
        have c0 := (hb.cell (p := ⟨g, o + k * 5, none⟩) hlt2).trans q0
        have c1 := (hb.cell (p := ⟨g, o + k * 5 + 1, none⟩) hlt2).trans q1
        have c2 := (hb.cell (p := ⟨g, o + k * 5 + 2, none⟩) hlt2).trans q2
        have c3 := (hb.cell (p := ⟨g, o + k * 5 + 3, none⟩) hlt2).trans q3
        have c4 := (hb.cell (p := ⟨g, o + k * 5 + 4, none⟩) hlt2).trans q4
        have Hx := Lib.hid hx
        clear q0 q1 q2 q3 q4 hx
        go_wp2_with fail
        refine (toSegment_any _ _ _ _ _ _).mono ?_
        rintro e w1 ⟨rfl, hb1⟩
        have own1 := ownsRow_below hown.out hb1
        have B1 : Below w.heap.size w w1 := hb.trans (hb1.mono hb.size)
        have s0 : w1.cell? ⟨w.heap.size, k * 5, none⟩ = some (.int .i64 0) := (World.ownsRow.cellAt own1 (k * 5) (by omega)).trans (half_at segmentLen l k hlt 0 _ rfl)
        have s1 : w1.cell? ⟨w.heap.size, k * 5 + 1, none⟩ = some (.int .i64 0) := (World.ownsRow.cellAt own1 (k * 5 + 1) (by omega)).trans (half_at segmentLen l k hlt 1 _ rfl)
        have s2 : w1.cell? ⟨w.heap.size, k * 5 + 2, none⟩ = some (.int .i64 0) := (World.ownsRow.cellAt own1 (k * 5 + 2) (by omega)).trans (half_at segmentLen l k hlt 2 _ rfl)
        have s3 : w1.cell? ⟨w.heap.size, k * 5 + 3, none⟩ = some (.int .i64 0) := (World.ownsRow.cellAt own1 (k * 5 + 3) (by omega)).trans (half_at segmentLen l k hlt 3 _ rfl)
        have s4 : w1.cell? ⟨w.heap.size, k * 5 + 4, none⟩ = some (.bool false) := (World.ownsRow.cellAt own1 (k * 5 + 4) (by omega)).trans (half_at segmentLen l k hlt 4 _ rfl)
        have z0 : w1.frozen? ⟨w.heap.size, k * 5, none⟩ = false := World.ownsRow.frozenAt own1 _
        have z1 : w1.frozen? ⟨w.heap.size, k * 5 + 1, none⟩ = false := World.ownsRow.frozenAt own1 _
        have z2 : w1.frozen? ⟨w.heap.size, k * 5 + 2, none⟩ = false := World.ownsRow.frozenAt own1 _
        have z3 : w1.frozen? ⟨w.heap.size, k * 5 + 3, none⟩ = false := World.ownsRow.frozenAt own1 _
        have z4 : w1.frozen? ⟨w.heap.size, k * 5 + 4, none⟩ = false := World.ownsRow.frozenAt own1 _
        have hst := (World.ownsRow.stored (World.ownsRow.stored (World.ownsRow.stored (World.ownsRow.stored (World.ownsRow.stored own1 (k * 5) (.int .i64 x.a)).1 (k * 5 + 1) (.int .i64 x.b)).1 (k * 5 + 2) (.int .i64 x.depth)).1 (k * 5 + 3) (.int .i64 x.minutes)).1 (k * 5 + 4) (.bool x.meet)).1
        have e := half_set segmentLen (zc := zeroSegment) rfl l k x Hx.out
        have HO := Lib.hid ((show ((((((halfOf SegmentD.cells zeroSegment l k).set (k * 5) (.int .i64 x.a)).set (k * 5 + 1) (.int .i64 x.b)).set (k * 5 + 2) (.int .i64 x.depth)).set (k * 5 + 3) (.int .i64 x.minutes)).set (k * 5 + 4) (.bool x.meet)) = halfOf SegmentD.cells zeroSegment l (k + 1) from e) ▸ hst)
        have HB := Lib.hid (((((B1.setCell (p := ⟨w.heap.size, k * 5, none⟩) (Nat.le_refl _) (.int .i64 x.a)).setCell (p := ⟨w.heap.size, k * 5 + 1, none⟩) (Nat.le_refl _) (.int .i64 x.b)).setCell (p := ⟨w.heap.size, k * 5 + 2, none⟩) (Nat.le_refl _) (.int .i64 x.depth)).setCell (p := ⟨w.heap.size, k * 5 + 3, none⟩) (Nat.le_refl _) (.int .i64 x.minutes)).setCell (p := ⟨w.heap.size, k * 5 + 4, none⟩) (Nat.le_refl _) (.bool x.meet))
        clear own1 hst e hb1 B1
        go_wp2
        go_roundw
        case rel => exact ⟨k + 1, by omega, by go_num, HO, HB.out⟩
        case measure => simp [intOf]; omega
      · go_wp2
        go_ret
        obtain rfl : k = l.length := by omega
        have ho := hown.out
        rw [half_full] at ho
        exact ⟨_, rfl, ho, hb⟩
def bulkSegment (_ : List SegmentD) : Int := 0
theorem szSegmentS_any (A : Option Addr) (l : List SegmentD) (c : Nat) (w : World) (hl : l.length ≤ 9223372036854775807) (_ : l.length ≤ 1000000000 → SlSegment w (.slice A l.length c) l) (lim : Int) (h0 : 0 ≤ lim) (h1 : lim ≤ 1048576) :
    Calls Tryz.prog 34 #[.slice A l.length c, .int .i64 lim] w fun e w' => e = .returned (.int .i64 (leftOf lim ((l.length : Int) + bulkSegment l))) ∧ Below w.heap.size w w' := by
  have e : (l.length : Int) + bulkSegment l = (l.length : Int) := by unfold bulkSegment; omega
  rw [e]
  generalize l.length = n at *
  by_cases hlt : lim < (n : Int)
  · rw [leftOf_no hlt]
    go_enter Tryz.func34, Tryz.ntmps34
    go_wp2
    go_ret
    exact ⟨rfl, Below.refl _ _⟩
  · rw [leftOf_yes hlt]
    go_enter Tryz.func34, Tryz.ntmps34
    go_wp2
    go_ret
    exact ⟨rfl, Below.refl _ _⟩
theorem bulkSegment_pos (l : List SegmentD) : 0 ≤ bulkSegment l := Int.le_refl _
set_option maxHeartbeats 1000000 in
theorem eqSegmentS_same (va vb : Value) (l : List SegmentD) (w : World) (ha : SlSegment w va l) (hb : SlSegment w vb l) :
    Calls Tryz.prog 46 #[va, vb] w fun e w' => e = .returned (.bool true) ∧ Below w.heap.size w w' := by
  obtain ⟨hl, ha⟩ := ha
  obtain ⟨_, hb⟩ := hb
  rcases ha with ⟨rfl, A, c, rfl⟩ | ⟨g, o, c, rfl, hp, _, hca⟩
  · rcases hb with ⟨_, A', c', rfl⟩ | ⟨g', o', c', rfl, hp, _, _⟩
    · go_enter Tryz.func46, Tryz.ntmps46
      go_wp2
      refine wp_loop_rounds 1 ?_
      rw [rounds_succ]
      go_wp2
      go_ret
      exact ⟨rfl, Below.refl _ _⟩
    · exact absurd hp (by simp)
  · rcases hb with ⟨rfl, A', c', rfl⟩ | ⟨g', o', c', rfl, _, _, hcb⟩
    · exact absurd hp (by simp)
    · have HA := Lib.hid hca
      have HB := Lib.hid hcb
      clear hca hcb
      go_enter Tryz.func46, Tryz.ntmps46
      go_wp2
      go_loopw [5] (fun i wr => ∃ k : Nat, k ≤ l.length ∧ i = .int .i64 k ∧ Below w.heap.size w wr) (fun i _ => l.length - (intOf i).toNat)
      case atStart => exact ⟨0, Nat.zero_le _, rfl, Below.refl _ _⟩
      case round =>
        obtain ⟨k, hk, rfl, hb⟩ := hrel
        by_cases hlt : k < l.length
        · obtain ⟨x, hx⟩ : ∃ x, l[k]? = some x := ⟨_, List.getElem?_eq_getElem hlt⟩
          obtain ⟨p0, p1, p2, p3, p4⟩ := SlSegment.cells HA.out k x hx
          obtain ⟨q0, q1, q2, q3, q4⟩ := SlSegment.cells HB.out k x hx
          have hg : g < w.heap.size := World.block_lt_of_cell? w ⟨g, o + k * 5, none⟩ p0
          have hg' : g' < w.heap.size := World.block_lt_of_cell? w ⟨g', o' + k * 5, none⟩ q0
          have a0 := (hb.cell (p := ⟨g, o + k * 5, none⟩) hg).trans p0
          have a1 := (hb.cell (p := ⟨g, o + k * 5 + 1, none⟩) hg).trans p1
          have a2 := (hb.cell (p := ⟨g, o + k * 5 + 2, none⟩) hg).trans p2
          have a3 := (hb.cell (p := ⟨g, o + k * 5 + 3, none⟩) hg).trans p3
          have a4 := (hb.cell (p := ⟨g, o + k * 5 + 4, none⟩) hg).trans p4
          have b0 := (hb.cell (p := ⟨g', o' + k * 5, none⟩) hg').trans q0
          have b1 := (hb.cell (p := ⟨g', o' + k * 5 + 1, none⟩) hg').trans q1
          have b2 := (hb.cell (p := ⟨g', o' + k * 5 + 2, none⟩) hg').trans q2
          have b3 := (hb.cell (p := ⟨g', o' + k * 5 + 3, none⟩) hg').trans q3
          have b4 := (hb.cell (p := ⟨g', o' + k * 5 + 4, none⟩) hg').trans q4
          have hbs := hb.size
          clear p0 q0 p1 q1 p2 q2 p3 q3 p4 q4 hx
          go_wp2
          go_still_tail 8, (by kernel_rfl)
          change wpList _ _ _ _ _ wr.drew
          have hd := hb.drew
          generalize wr.drew = w2 at hd ⊢
          have hds := hd.size
          clear a0 b0 a1 b1 a2 b2 a3 b3 a4 b4 hb hbs
          go_wp2_with fail
          refine (eqSegment_same _ _ _ _ _ _).mono ?_
          rintro e w3 ⟨rfl, hb3⟩
          have B3 := Lib.hid (hd.trans (hb3.mono hds))
          clear hb3 hd hds
          go_wp2
          go_roundw
          case rel => exact ⟨k + 1, by omega, by go_num, B3.out⟩
          case measure => simp [intOf]; omega
        · go_wp2
          go_ret
          exact ⟨rfl, hb⟩
/-- What the marking that begins with k writes into cell j. -/
def mvSegment (k : Int) (j : Nat) : Value := if j % 5 = 0 then .int .i64 (k + (j : Int)) else if j % 5 = 1 then .int .i64 (k + (j : Int)) else if j % 5 = 2 then .int .i64 (k + (j : Int)) else if j % 5 = 3 then .int .i64 (k + (j : Int)) else .bool ((k + (j : Int)) % 3 == 0)
theorem mvSegment_0 (k : Int) (j : Nat) : mvSegment k (j * 5) = .int .i64 (k + (j : Int) * 5) := by
  unfold mvSegment
  rw [if_pos (by omega), show k + ((j * 5 : Nat) : Int) = k + (j : Int) * 5 by omega]
theorem mvSegment_1 (k : Int) (j : Nat) : mvSegment k (j * 5 + 1) = .int .i64 (k + (j : Int) * 5 + 1) := by
  unfold mvSegment
  rw [if_neg (by omega), if_pos (by omega), show k + ((j * 5 + 1 : Nat) : Int) = k + (j : Int) * 5 + 1 by omega]
theorem mvSegment_2 (k : Int) (j : Nat) : mvSegment k (j * 5 + 2) = .int .i64 (k + (j : Int) * 5 + 2) := by
  unfold mvSegment
  rw [if_neg (by omega), if_neg (by omega), if_pos (by omega), show k + ((j * 5 + 2 : Nat) : Int) = k + (j : Int) * 5 + 2 by omega]
theorem mvSegment_3 (k : Int) (j : Nat) : mvSegment k (j * 5 + 3) = .int .i64 (k + (j : Int) * 5 + 3) := by
  unfold mvSegment
  rw [if_neg (by omega), if_neg (by omega), if_neg (by omega), if_pos (by omega), show k + ((j * 5 + 3 : Nat) : Int) = k + (j : Int) * 5 + 3 by omega]
theorem mvSegment_4 (k : Int) (j : Nat) : mvSegment k (j * 5 + 4) = .bool ((k + (j : Int) * 5 + 4) % 3 == 0) := by
  unfold mvSegment
  rw [if_neg (by omega), if_neg (by omega), if_neg (by omega), if_neg (by omega), show k + ((j * 5 + 4 : Nat) : Int) = k + (j : Int) * 5 + 4 by omega]
set_option maxHeartbeats 4000000 in
theorem markSegmentS_any (v : Value) (l : List SegmentD) (k : Int) (w : World) (h : SlSegment w v l) (hfz : ∀ g, v.ownBlock = some g → ∀ j, w.frozen? ⟨g, j, none⟩ = false) (h0 : 0 ≤ k) (h1 : k ≤ 100000000) (h2 : l.length ≤ 10000000) :
    Calls Tryz.prog 50 #[v, .int .i64 k] w fun e w' => e = .returned (.int .i64 (k + (l.length : Int) * 5)) ∧ MarkedV w' v (l.length * 5) (mvSegment k) ∧ w.grownBy w' v.ownBlock := by
  obtain ⟨hl, h⟩ := h
  rcases h with ⟨rfl, A, c, rfl⟩ | ⟨g, o, c, rfl, hp, hcap, hc⟩
  · go_enter Tryz.func50, Tryz.ntmps50
    go_wp2
    refine wp_loop_rounds 1 ?_
    rw [rounds_succ]
    go_wp2
    go_ret
    exact ⟨ret_int (by simp), .inl (by simp), World.grownBy.refl _ _⟩
  · have hs : MarkRowV w g o (l.length * 5) (mvSegment k) (0 * 5) w := MarkRowV.start (vals_of (by omega) segmentLen hc) (by omega) (fun j => hfz g rfl j)
    have HS := Lib.hid hs
    clear hs hc hfz
    go_enter Tryz.func50, Tryz.ntmps50
    go_wp2
    go_loopw [1, 5] (fun q i wr => ∃ j : Nat, j ≤ l.length ∧ i = .int .i64 j ∧ q = .int .i64 (k + (j : Int) * 5) ∧ Hid (MarkRowV w g o (l.length * 5) (mvSegment k) (j * 5) wr)) (fun _ i _ => l.length - (intOf i).toNat)
    case atStart => exact ⟨0, Nat.zero_le _, rfl, by simp, HS⟩
    case round =>
      obtain ⟨j, hj, rfl, rfl, hM⟩ := hrel
      by_cases hlt : j < l.length
      · clear HS
        obtain ⟨x0, c0⟩ := hM.out.read (j * 5 + 0) (by omega) (by omega) (o + j * 5) (by omega)
        have f0 := hM.out.2.2.2.1 (o + j * 5)
        have M0 := Lib.hid (hM.out.next (by omega) (o + j * 5) (by omega) (.int .i64 (k + (j : Int) * 5)) (by rw [mvSegment_0]) (j * 5 + 1) rfl)
        obtain ⟨x1, c1⟩ := M0.out.read (j * 5 + 1) (by omega) (by omega) (o + j * 5 + 1) (by omega)
        have f1 := M0.out.2.2.2.1 (o + j * 5 + 1)
        have M1 := Lib.hid (M0.out.next (by omega) (o + j * 5 + 1) (by omega) (.int .i64 (k + (j : Int) * 5 + 1)) (by rw [mvSegment_1]) (j * 5 + 2) rfl)
        obtain ⟨x2, c2⟩ := M1.out.read (j * 5 + 2) (by omega) (by omega) (o + j * 5 + 2) (by omega)
        have f2 := M1.out.2.2.2.1 (o + j * 5 + 2)
        have M2 := Lib.hid (M1.out.next (by omega) (o + j * 5 + 2) (by omega) (.int .i64 (k + (j : Int) * 5 + 1 + 1)) (by rw [mvSegment_2]; congr 1; omega) (j * 5 + 3) rfl)
        obtain ⟨x3, c3⟩ := M2.out.read (j * 5 + 3) (by omega) (by omega) (o + j * 5 + 3) (by omega)
        have f3 := M2.out.2.2.2.1 (o + j * 5 + 3)
        have M3 := Lib.hid (M2.out.next (by omega) (o + j * 5 + 3) (by omega) (.int .i64 (k + (j : Int) * 5 + 1 + 1 + 1)) (by rw [mvSegment_3]; congr 1; omega) (j * 5 + 4) rfl)
        obtain ⟨x4, c4⟩ := M3.out.read (j * 5 + 4) (by omega) (by omega) (o + j * 5 + 4) (by omega)
        have f4 := M3.out.2.2.2.1 (o + j * 5 + 4)
        have M4 := Lib.hid (M3.out.next (by omega) (o + j * 5 + 4) (by omega) (.bool ((k + (j : Int) * 5 + 1 + 1 + 1 + 1) % 3 == 0)) (by rw [mvSegment_4]; congr 2; omega) (j * 5 + 5) rfl)
        go_wp2
        go_roundw
        case rel =>
          refine ⟨j + 1, by omega, by go_num, ?_, ?_⟩
          · congr 1; omega
          · rw [show (j + 1) * 5 = j * 5 + 5 by omega]; exact M4
        case measure => simp [intOf]; omega
      · go_wp2
        go_ret
        obtain rfl : j = l.length := by omega
        exact ⟨rfl, .inr ⟨g, o, l.length, c, rfl, hM.out.2.1⟩, hM.out.1⟩
section
variable {H : Type} {enc : TypeId × Value → H} {w : World} {base : Nat} {spare : Nat → Bool} {held : Bool}
def SegmentD.wf (d : SegmentD) : Prop := (Lit.int .i64 d.a).wf = true ∧ (Lit.int .i64 d.b).wf = true ∧ (Lit.int .i64 d.depth).wf = true ∧ (Lit.int .i64 d.minutes).wf = true
theorem dec_segment (n : Nat) (cs : List Value) (y : DataW H × List MemPlace) (h : DataW.trod enc Tryz.prog w base spare held n 110 cs = some y) : ∃ d : SegmentD, cs = d.cells ∧ d.wf := by
  obtain ⟨hl, hf⟩ := struct_cells Tryz.underlying110 (by kernel_rfl) (by kernel_rfl) h
  obtain ⟨v0, n0, y0, e0, h0⟩ := hf 0 _ rfl
  obtain ⟨v1, n1, y1, e1, h1⟩ := hf 1 _ rfl
  obtain ⟨v2, n2, y2, e2, h2⟩ := hf 2 _ rfl
  obtain ⟨v3, n3, y3, e3, h3⟩ := hf 3 _ rfl
  obtain ⟨v4, n4, y4, e4, h4⟩ := hf 4 _ rfl
  obtain ⟨a0, ha0, _, wa0⟩ := DataW.trod_int Tryz.underlying3 h0
  obtain ⟨a1, ha1, _, wa1⟩ := DataW.trod_int Tryz.underlying3 h1
  obtain ⟨a2, ha2, _, wa2⟩ := DataW.trod_int Tryz.underlying3 h2
  obtain ⟨a3, ha3, _, wa3⟩ := DataW.trod_int Tryz.underlying3 h3
  obtain ⟨a4, ha4, _⟩ := DataW.trod_bool Tryz.underlying4 h4
  simp only [List.cons.injEq, and_true] at ha0 ha1 ha2 ha3 ha4
  subst ha0 ha1 ha2 ha3 ha4
  refine ⟨⟨a0, a1, a2, a3, a4⟩, ?_, wa0, wa1, wa2, wa3⟩
  match cs, hl with
  | [c0, c1, c2, c3, c4], _ =>
    simp at e0 e1 e2 e3 e4
    subst e0 e1 e2 e3 e4
    rfl
theorem open_segments {fuel : Nat} {v : Value} {x : DataW H × List MemPlace} (h : DataW.trod enc Tryz.prog w base (fun _ => true) held fuel 29 [v] = some x) :
    ∃ A c l, v = .slice A l.length c ∧ l.length ≤ maxLen ∧ (l.length ≤ 1000000000 → SlSegment w (.slice A l.length c) l) ∧ ∀ d ∈ l, SegmentD.wf d :=
  open_elems SegmentD.cells 5 SegmentD.wf Tryz.underlying29 (by kernel_rfl) segmentLen (by omega) dec_segment h
end
end Go.Proofs.YtpimcbhjkednpaaGreat
namespace Go.Proofs.YtpimcbhjkednpaaGreat
open Go.ChangeShapes Go.WideShapes Go.ChangeAt Go.Deep Go.RowKit
set_option maxRecDepth 100000
structure ChartD where
  points : List PointD
  segs : List SegmentD
/-- The slices read as the lists of d. -/
def RdChart (w : World) (v0 v1 : Value) (d : ChartD) : Prop := SlPoint w v0 d.points ∧ SlSegment w v1 d.segs
theorem RdChart.below {w w' : World} {v0 v1 : Value} {d : ChartD} (h : RdChart w v0 v1 d) (hb : Below w.heap.size w w') : RdChart w' v0 v1 d := ⟨h.1.below hb, h.2.below hb⟩
/-- A new value: over new lists, each in memory of its own. -/
def NewChart (d : ChartD) (w : World) (e : Ending) (w' : World) : Prop :=
  ∃ v0 v1, e = .returned (.agg #[v0, v1]) ∧ OwnPoint w' w.heap.size v0 d.points ∧ OwnSegment w' w.heap.size v1 d.segs ∧ ApartV v0 v1 ∧ Below w.heap.size w w'
set_option maxHeartbeats 4000000 in
theorem toChart_any (v0 v1 : Value) (d : ChartD) (w : World) (h : RdChart w v0 v1 d) :
    Calls Tryz.prog 13 #[.agg #[v0, v1]] w (NewChart d w) := by
  obtain ⟨h0, h1⟩ := h
  have H0 := Lib.hid h0
  have H1 := Lib.hid h1
  obtain ⟨A0, c0, rfl⟩ := h0.at
  obtain ⟨A1, c1, rfl⟩ := h1.at
  clear h0 h1
  go_enter Tryz.func13, Tryz.ntmps13
  go_wp2_with fail
  refine (toPointS_any _ d.points _ (H0.out.below ?_)).mono ?_
  · repeat (first | exact Below.refl _ _ | refine Below.setCell ?_ (by simp <;> omega) _ | refine Below.alloc ?_ (by simp <;> omega) _)
  rintro e w0 ⟨v0, rfl, ho0, hb0⟩
  obtain ⟨D0, k0, rfl⟩ := own_form ho0
  have S0 := Lib.hid (own_lo ho0 (base' := w.heap.size + 3) (by simp))
  have L0 := Lib.hid (World.ownsRow.lt ho0)
  obtain ⟨hc0, hf0⟩ := bcellV hb0
  have hz0 : w.heap.size + 2 < w0.heap.size := by have := hb0.size; simp at this; omega
  have hx0 : w.heap.size + 1 < w0.heap.size := by omega
  have hxx0 : w.heap.size < w0.heap.size := by omega
  have B0 : Hid (Below w.heap.size w w0) := by
    refine Lib.hid ?_
    repeat (first | exact Below.refl _ _ | refine Below.setCell ?_ (by simp <;> omega) _ | refine Below.alloc ?_ (by simp <;> omega) _ | refine Below.trans ?_ (hb0.mono (by simp <;> omega)))
  clear ho0
  go_wp2_with fail
  refine (toSegmentS_any _ d.segs _ (H1.out.below ?_)).mono ?_
  · repeat (first | exact B0.out | exact Below.refl _ _ | refine Below.setCell ?_ (by simp <;> omega) _ | refine Below.alloc ?_ (by simp <;> omega) _)
  rintro e w1 ⟨v1, rfl, ho1, hb1⟩
  obtain ⟨D1, k1, rfl⟩ := own_form ho1
  have S1 := Lib.hid (own_lo ho1 (base' := w.heap.size + 3) (by simp; omega))
  have L1 := Lib.hid (World.ownsRow.lt ho1)
  obtain ⟨hc1, hf1⟩ := bcellV hb1
  have hy1 : w0.heap.size ≤ w1.heap.size := by have := hb1.size; simp at this; omega
  have hz1 : w.heap.size + 2 < w1.heap.size := by omega
  have hx1 : w.heap.size + 1 < w1.heap.size := by omega
  have hxx1 : w.heap.size < w1.heap.size := by omega
  have B1 : Hid (Below w.heap.size w w1) := by
    refine Lib.hid ?_
    repeat (first | exact B0.out | exact Below.refl _ _ | refine Below.setCell ?_ (by simp <;> omega) _ | refine Below.alloc ?_ (by simp <;> omega) _ | refine Below.trans ?_ (hb1.mono (by simp <;> omega)))
  clear ho1
  go_wp2
  refine bodyPost_ret (v := .agg #[.slice D0 d.points.length k0, .slice D1 d.segs.length k1]) (by simp [results, Tryz.results13, go_sem, *]) rfl ⟨_, _, rfl, ?_, ?_, ?_, ?_⟩
  · refine own_lo (base := w.heap.size + 3) ?_ (by omega)
    repeat (first | exact S0.out | refine own_set_under ?_ (by simp <;> omega) _ | refine own_below ?_ hb1)
  · refine own_lo (base := w.heap.size + 3) ?_ (by omega)
    repeat (first | exact S1.out | refine own_set_under ?_ (by simp <;> omega) _)
  · intro g hg hg'
    have h1 := (L0.out g hg).2
    have h2 := (L1.out g hg').1
    simp at h2
    omega
  · repeat (first | exact B1.out | exact Below.refl _ _ | refine Below.setCell ?_ (by simp <;> omega) _ | refine Below.alloc ?_ (by simp <;> omega) _)
/-- What the law measures: elements and bytes. -/
def bulkChart (d : ChartD) : Int := ((d.points.length : Int) + bulkPoint d.points) + ((d.segs.length : Int) + bulkSegment d.segs)
theorem bulkChart_pos (d : ChartD) : 0 ≤ bulkChart d := by
  have p0 := bulkPoint_pos d.points
  have p1 := bulkSegment_pos d.segs
  unfold bulkChart
  omega
def SizChart (w : World) (A0 A1 : Option Addr) (c0 c1 : Nat) (d : ChartD) : Prop := d.points.length ≤ 9223372036854775807 ∧ (d.points.length ≤ 1000000000 → SlPoint w (.slice A0 d.points.length c0) d.points) ∧ (∀ x ∈ d.points, PointD.wf x) ∧ d.segs.length ≤ 9223372036854775807 ∧ (d.segs.length ≤ 1000000000 → SlSegment w (.slice A1 d.segs.length c1) d.segs) ∧ (∀ x ∈ d.segs, SegmentD.wf x)
theorem bulkChart_le (d : ChartD) : (d.points.length : Int) ≤ bulkChart d ∧ (d.segs.length : Int) ≤ bulkChart d := by
  have p0 := bulkPoint_pos d.points
  have p1 := bulkSegment_pos d.segs
  unfold bulkChart
  omega
theorem SizChart.below {w w' : World} {A0 A1 : Option Addr} {c0 c1 : Nat} {d : ChartD} (h : SizChart w A0 A1 c0 c1 d) (hb : Below w.heap.size w w') : SizChart w' A0 A1 c0 c1 d := by
  obtain ⟨l0, s0, f0, l1, s1, f1⟩ := h
  exact ⟨l0, fun h => (s0 h).below hb, f0, l1, fun h => (s1 h).below hb, f1⟩
set_option maxHeartbeats 4000000 in
theorem szChart_any (A0 A1 : Option Addr) (c0 c1 : Nat) (d : ChartD) (w : World) (h : SizChart w A0 A1 c0 c1 d) (lim : Int) (h0 : 0 ≤ lim) (h1 : lim ≤ 1048576) :
    Calls Tryz.prog 9 #[.agg #[.slice A0 d.points.length c0, .slice A1 d.segs.length c1], .int .i64 lim] w fun e w' => e = .returned (.int .i64 (leftOf lim (bulkChart d))) ∧ Below w.heap.size w w' := by
  obtain ⟨l0, s0, f0, l1, s1, f1⟩ := h
  have hal := Joins.below_alloc1 w (.cells #[.slice A0 d.points.length c0, .slice A1 d.segs.length c1] 31)
  have HAL := Lib.hid hal
  have p0 := bulkPoint_pos d.points
  have p1 := bulkSegment_pos d.segs
  have z0 : 0 ≤ (d.points.length : Int) + bulkPoint d.points := by omega
  have z1 : 0 ≤ (d.segs.length : Int) + bulkSegment d.segs := by omega
  obtain ⟨r, hr⟩ : ∃ r, leftOf lim (bulkChart d) = r := ⟨_, rfl⟩
  rw [hr]
  unfold bulkChart at hr
  have C0 : ∀ W, Below w.heap.size w W → Calls Tryz.prog 33 #[.slice A0 d.points.length c0, .int .i64 (lim)] W fun e w' => e = .returned (.int .i64 (leftOf (lim) ((d.points.length : Int) + bulkPoint d.points))) ∧ Below W.heap.size W w' := fun W hW => szPointS_any A0 d.points c0 W l0 (fun hle => (s0 hle).below hW) (fun x hx => wfszPoint (f0 x hx)) (lim) (by omega) (by omega)
  by_cases t0 : lim < ((d.points.length : Int) + bulkPoint d.points)
  · rw [leftOf_no t0] at C0
    have C0' := Lib.hid C0
    rw [leftOf_no (by omega)] at hr
    subst hr
    clear C0 s0 s1
    go_enter Tryz.func9, Tryz.ntmps9
    go_wp2_with fail
    refine (C0'.out _ HAL.out).mono ?_
    rintro e w0 ⟨rfl, hb0⟩
    have B0 := Lib.hid (HAL.out.trans (hb0.mono (by first | exact HAL.out.size | simp)))
    obtain ⟨hc0, hf0⟩ := bcellV hb0
    clear hb0
    go_wp2
    go_ret
    exact ⟨rfl, B0.out⟩
  rw [leftOf_yes t0] at C0
  have C0' := Lib.hid C0
  clear C0
  have y0 : ¬ lim - ((d.points.length : Int) + bulkPoint d.points) < 0 := by omega
  have C1 : ∀ W, Below w.heap.size w W → Calls Tryz.prog 34 #[.slice A1 d.segs.length c1, .int .i64 (lim - ((d.points.length : Int) + bulkPoint d.points))] W fun e w' => e = .returned (.int .i64 (leftOf (lim - ((d.points.length : Int) + bulkPoint d.points)) ((d.segs.length : Int) + bulkSegment d.segs))) ∧ Below W.heap.size W w' := fun W hW => szSegmentS_any A1 d.segs c1 W l1 (fun hle => (s1 hle).below hW) (lim - ((d.points.length : Int) + bulkPoint d.points)) (by omega) (by omega)
  by_cases t1 : lim - ((d.points.length : Int) + bulkPoint d.points) < ((d.segs.length : Int) + bulkSegment d.segs)
  · rw [leftOf_no t1] at C1
    have C1' := Lib.hid C1
    rw [leftOf_no (by omega)] at hr
    subst hr
    clear C1 s0 s1
    go_enter Tryz.func9, Tryz.ntmps9
    go_wp2_with fail
    refine (C0'.out _ HAL.out).mono ?_
    rintro e w0 ⟨rfl, hb0⟩
    have B0 := Lib.hid (HAL.out.trans (hb0.mono (by first | exact HAL.out.size | simp)))
    obtain ⟨hc0, hf0⟩ := bcellV hb0
    clear hb0
    go_wp2_with fail
    refine (C1'.out _ B0.out).mono ?_
    rintro e w1 ⟨rfl, hb1⟩
    have B1 := Lib.hid (B0.out.trans (hb1.mono (by first | exact B0.out.size | simp)))
    obtain ⟨hc1, hf1⟩ := bcellV hb1
    clear hb1
    go_wp2
    go_ret
    exact ⟨rfl, B1.out⟩
  rw [leftOf_yes t1] at C1
  have C1' := Lib.hid C1
  clear C1
  have y1 : ¬ lim - ((d.points.length : Int) + bulkPoint d.points) - ((d.segs.length : Int) + bulkSegment d.segs) < 0 := by omega
  rw [leftOf_yes (by omega)] at hr
  have hr' : r = lim - ((d.points.length : Int) + bulkPoint d.points) - ((d.segs.length : Int) + bulkSegment d.segs) := by omega
  clear hr s0 s1
  subst hr'
  go_enter Tryz.func9, Tryz.ntmps9
  go_wp2_with fail
  refine (C0'.out _ HAL.out).mono ?_
  rintro e w0 ⟨rfl, hb0⟩
  have B0 := Lib.hid (HAL.out.trans (hb0.mono (by first | exact HAL.out.size | simp)))
  obtain ⟨hc0, hf0⟩ := bcellV hb0
  clear hb0
  go_wp2_with fail
  refine (C1'.out _ B0.out).mono ?_
  rintro e w1 ⟨rfl, hb1⟩
  have B1 := Lib.hid (B0.out.trans (hb1.mono (by first | exact B0.out.size | simp)))
  obtain ⟨hc1, hf1⟩ := bcellV hb1
  clear hb1
  go_wp2
  go_ret
  exact ⟨rfl, B1.out⟩
set_option maxHeartbeats 4000000 in
theorem eqChart_same (va0 va1 vb0 vb1 : Value) (d : ChartD) (w : World) (ha : RdChart w va0 va1 d) (hb : RdChart w vb0 vb1 d) :
    Calls Tryz.prog 18 #[.agg #[va0, va1], .agg #[vb0, vb1]] w fun e w' => e = .returned (.bool true) ∧ Below w.heap.size w w' := by
  obtain ⟨ha0, ha1⟩ := ha
  obtain ⟨hb0, hb1⟩ := hb
  have HA0 := Lib.hid ha0
  have HB0 := Lib.hid hb0
  have HA1 := Lib.hid ha1
  have HB1 := Lib.hid hb1
  obtain ⟨A0, c0, rfl⟩ := ha0.at
  obtain ⟨D0, k0, rfl⟩ := hb0.at
  obtain ⟨A1, c1, rfl⟩ := ha1.at
  obtain ⟨D1, k1, rfl⟩ := hb1.at
  clear ha0 hb0 ha1 hb1
  have B := Lib.hid (Joins.below_alloc2 w (.cells #[.slice A0 d.points.length c0, .slice A1 d.segs.length c1] 49) (.cells #[.slice D0 d.points.length k0, .slice D1 d.segs.length k1] 49))
  go_enter Tryz.func18, Tryz.ntmps18
  go_wp2_with fail
  refine (eqPointS_same _ _ d.points _ (HA0.out.below B.out) (HB0.out.below B.out)).mono ?_
  rintro e w0 ⟨rfl, hb0⟩
  have B0 := Lib.hid (B.out.trans (hb0.mono B.out.size))
  obtain ⟨hc0, hf0⟩ := bcellV hb0
  clear hb0
  go_wp2_with fail
  refine (eqSegmentS_same _ _ d.segs _ (HA1.out.below B0.out) (HB1.out.below B0.out)).mono ?_
  rintro e w1 ⟨rfl, hb1⟩
  have B1 := Lib.hid (B0.out.trans (hb1.mono B0.out.size))
  obtain ⟨hc1, hf1⟩ := bcellV hb1
  clear hb1
  go_wp2
  go_ret
  exact ⟨rfl, B1.out⟩
set_option maxHeartbeats 4000000 in
theorem markChart_any (v0 v1 : Value) (d : ChartD) (k : Int) (a b : Nat) (w : World) (h : RdChart w v0 v1 d) (f0 : FreeV w v0) (f1 : FreeV w v1) (r0 : RangeV v0 a b) (r1 : RangeV v1 a b) (p0_1 : ApartV v0 v1) (h0 : 0 ≤ k) (h1 : k ≤ 10000000) (l0 : d.points.length ≤ 1100000) (l1 : d.segs.length ≤ 1100000) :
    Calls Tryz.prog 20 #[.agg #[v0, v1], .int .i64 k] w fun e w' => e = .returned (.int .i64 (k + (d.points.length : Int) * 2 + (d.segs.length : Int) * 5)) ∧ MarkedV w' v0 (d.points.length * 2) (mvPoint (k)) ∧ MarkedV w' v1 (d.segs.length * 5) (mvSegment (k + (d.points.length : Int) * 2)) ∧ TouchR w w' a b := by
  obtain ⟨h0, h1⟩ := h
  have hal := Joins.below_alloc1 w (.cells #[v0, v1] 49)
  have K := Lib.hid (Blk.new w #[v0, v1] 49)
  have T0 := Lib.hid (touch_below hal a b)
  have H0 := Lib.hid (h0.below hal)
  have G0 := Lib.hid (f0.below hal)
  have ge0 : ∀ g, v0.ownBlock = some g → g < w.heap.size := fun g hg => (f0 g hg).2
  have H1 := Lib.hid (h1.below hal)
  have G1 := Lib.hid (f1.below hal)
  have ge1 : ∀ g, v1.ownBlock = some g → g < w.heap.size := fun g hg => (f1 g hg).2
  have R0 := Lib.hid r0
  have GE0 := Lib.hid ge0
  have R1 := Lib.hid r1
  have GE1 := Lib.hid ge1
  have AP0_1 := Lib.hid p0_1
  have ms : (w.alloc (.cells #[v0, v1] 49)).heap.size = w.heap.size + 1 := by simp
  obtain ⟨A0, c0, rfl⟩ := h0.at
  obtain ⟨A1, c1, rfl⟩ := h1.at
  clear hal h0 f0 r0 ge0 h1 f1 r1 ge1 p0_1
  go_enter Tryz.func20, Tryz.ntmps20
  go_wp2_with fail
  refine (markPointS_any _ d.points (k) _ H0.out (fun g hg => (G0.out g hg).1) (by omega) (by omega) (by omega)).mono ?_
  rintro e w0 ⟨rfl, m0, g0⟩
  have U0 := touch_grown g0 R0.out
  have T1 := Lib.hid (T0.out.trans U0)
  have M0_1 := Lib.hid m0
  have H1_1 := Lib.hid (SlOf.grown H1.out g0 AP0_1.out.ne.1)
  have G1_1 := Lib.hid (FreeV.grown G1.out g0 AP0_1.out.ne.1)
  have K1 := Lib.hid (K.out.grown g0 (fun e => Nat.lt_irrefl _ (GE0.out _ e.symm)))
  clear m0 g0 U0
  have x1_0 := K1.out.cell 0
  have x1_1 := K1.out.cell 1
  simp at x1_0 x1_1
  go_wp2_with fail
  refine (markSegmentS_any _ d.segs (k + (d.points.length : Int) * 2) _ H1_1.out (fun g hg => (G1_1.out g hg).1) (by omega) (by omega) (by omega)).mono ?_
  rintro e w1 ⟨rfl, m1, g1⟩
  have U1 := touch_grown g1 R1.out
  have T2 := Lib.hid (T1.out.trans U1)
  have M1_2 := Lib.hid m1
  have M0_2 := Lib.hid (M0_1.out.grown g1 (AP0_1.out.ne.2))
  have K2 := Lib.hid (K1.out.grown g1 (fun e => Nat.lt_irrefl _ (GE1.out _ e.symm)))
  clear m1 g1 U1 x1_0 x1_1
  go_wp2
  go_ret
  exact ⟨rfl, M0_2.out, M1_2.out, T2.out⟩
/-- The block b holds d over the slices v0 v1. -/
def ChartBox (w : World) (b : Nat) (v0 v1 : Value) (d : ChartD) : Prop := w.cell? ⟨b, 0, none⟩ = some (v0) ∧ w.cell? ⟨b, 1, none⟩ = some (v1) ∧ RdChart w v0 v1 d
theorem ChartBox.below {w w' : World} {b : Nat} {v0 v1 : Value} {d : ChartD} (h : ChartBox w b v0 v1 d) (hb : Below w.heap.size w w') : ChartBox w' b v0 v1 d := by
  obtain ⟨h0, h1, hr⟩ := h
  exact ⟨cell_onV h0 hb, cell_onV h1 hb, hr.below hb⟩
theorem ChartBox.new {w : World} {v0 v1 : Value} {d : ChartD} (t : TypeId) (h : RdChart w v0 v1 d) : ChartBox (w.alloc (.cells #[v0, v1] t)) w.heap.size v0 v1 d := by
  refine ⟨?_, ?_, h.below (Joins.below_alloc1 _ _)⟩
  all_goals (rw [World.cell?_alloc_at _ _ _ _ rfl]; rfl)
theorem NewChart.rd {d : ChartD} {w w' : World} {e : Ending} (h : NewChart d w e w') (hl0 : d.points.length ≤ 1000000000) (hl1 : d.segs.length ≤ 1000000000) :
    ∃ A0 c0 A1 c1, e = .returned (.agg #[.slice A0 d.points.length c0, .slice A1 d.segs.length c1]) ∧ RdChart w' (.slice A0 d.points.length c0) (.slice A1 d.segs.length c1) d ∧ Below w.heap.size w w' := by
  obtain ⟨v0, v1, rfl, o0, o1, _, hb⟩ := h
  have s0 := OwnPoint.sl o0 hl0
  obtain ⟨A0, c0, rfl⟩ := own_form o0
  have s1 := OwnSegment.sl o1 hl1
  obtain ⟨A1, c1, rfl⟩ := own_form o1
  exact ⟨A0, c0, A1, c1, rfl, ⟨s0, s1⟩, hb⟩
section
variable {H : Type} {enc : TypeId × Value → H} {w : World} {base : Nat} {spare : Nat → Bool} {held : Bool}
/-- A value that came in. -/
def ChartIn (w : World) (A0 A1 : Option Addr) (c0 c1 : Nat) (d : ChartD) : Prop := SizChart w A0 A1 c0 c1 d
theorem dec_chart (m : Nat) (cs : List Value) (y : DataW H × List MemPlace) (h : DataW.trod enc Tryz.prog w base (fun _ => true) held m 31 cs = some y) :
    ∃ A0 c0 A1 c1 d, cs = [.slice A0 d.points.length c0, .slice A1 d.segs.length c1] ∧ ChartIn w A0 A1 c0 c1 d := by
  obtain ⟨hl, hf⟩ := struct_cells Tryz.underlying31 (by kernel_rfl) (by kernel_rfl) h
  obtain ⟨v0, n0, y0, e0, h0⟩ := hf 0 _ rfl
  obtain ⟨v1, n1, y1, e1, h1⟩ := hf 1 _ rfl
  obtain ⟨A0, c0, a0, rfl, m0, s0, f0⟩ := open_points h0
  obtain ⟨A1, c1, a1, rfl, m1, s1, f1⟩ := open_segments h1
  unfold maxLen at m0
  unfold maxLen at m1
  refine ⟨A0, c0, A1, c1, ⟨a0, a1⟩, ?_, by simp only; omega, s0, f0, by simp only; omega, s1, f1⟩
  match cs, hl with
  | [b0, b1], _ =>
    simp at e0 e1
    subst e0 e1
    rfl
theorem open_chart_arg {r : Reach} {b0 : Nat} {v : Value} {y : DataW H} {ps : List MemPlace} (hval : Value.okWide Tryz.prog w r b0 31 v) (hd : DataW.Trod enc Tryz.prog w 0 (fun _ => true) true 31 v y ps) :
    ∃ A0 c0 A1 c1 d, v = .agg #[.slice A0 d.points.length c0, .slice A1 d.segs.length c1] ∧ ChartIn w A0 A1 c0 c1 d := by
  obtain ⟨cs, rfl, hsz⟩ := okWide_struct Tryz.underlying31 hval
  obtain ⟨fuel, hf⟩ := hd
  obtain ⟨A0, c0, A1, c1, d, hp, g⟩ := dec_chart _ _ _ hf
  refine ⟨A0, c0, A1, c1, d, ?_, g⟩
  obtain ⟨ls⟩ := cs
  simp [Value.cells] at hp
  rw [hp]
end
end Go.Proofs.YtpimcbhjkednpaaGreat
namespace Go.Proofs.YtpimcbhjkednpaaGreat
open Go.RowKit
def perB (p : Int) : Bool := decide (4 ≤ p ∧ p ≤ 2880 ∧ p % 4 = 0)
def crest (x h : Int) : Int := 40000 * x * (h - x) / (h * h)
def waveI (n p : Int) : Int := if perB p = true then (if n % p < p / 2 then crest (n % p) (p / 2) else -crest (n % p - p / 2) (p / 2)) else 0
theorem perB_true {p : Int} (h : perB p = true) : 4 ≤ p ∧ p ≤ 2880 ∧ p % 4 = 0 := of_decide_eq_true h
theorem perB_false {p : Int} (h : perB p = false) : ¬ (4 ≤ p ∧ p ≤ 2880 ∧ p % 4 = 0) := of_decide_eq_false h
theorem perB_mk {p : Int} (h : 4 ≤ p ∧ p ≤ 2880 ∧ p % 4 = 0) : perB p = true := decide_eq_true h
theorem perB_no {p : Int} (h : ¬ (4 ≤ p ∧ p ≤ 2880 ∧ p % 4 = 0)) : perB p = false := decide_eq_false h
theorem crest_num {x h : Int} (h0 : 0 ≤ x) (h1 : x ≤ h) (h2 : h ≤ 1440) : 0 ≤ 40000 * x * (h - x) ∧ 40000 * x * (h - x) ≤ 82944000000 := by
  have a : 0 ≤ x * (h - x) := Int.mul_nonneg h0 (by omega)
  have b : x * (h - x) ≤ 1440 * 1440 := Int.mul_le_mul (by omega) (by omega) (by omega) (by omega)
  have e : 40000 * x * (h - x) = 40000 * (x * (h - x)) := Int.mul_assoc _ _ _
  rw [e]; omega
theorem crest_den {h : Int} (h0 : 1 ≤ h) (h2 : h ≤ 1440) : 1 ≤ h * h ∧ h * h ≤ 2073600 := by
  have a : 1 * 1 ≤ h * h := Int.mul_le_mul h0 h0 (by omega) (by omega)
  have b : h * h ≤ 1440 * 1440 := Int.mul_le_mul h2 h2 (by omega) (by omega)
  omega
/-- 4 x (h - x) is at most h * h. -/
theorem crest_le {x h : Int} (h0 : 1 ≤ h) (x0 : 0 ≤ x) (x1 : x ≤ h) : 0 ≤ crest x h ∧ crest x h ≤ 10000 := by
  have hp : 0 < h * h := Int.mul_pos (by omega) (by omega)
  unfold crest
  refine ⟨Int.ediv_nonneg (Int.mul_nonneg (by omega) (by omega)) (Int.le_of_lt hp), ?_⟩
  refine Int.ediv_le_of_le_mul hp ?_
  have sq : 0 ≤ (h - 2 * x) * (h - 2 * x) := by
    rcases Int.le_total 0 (h - 2 * x) with g | g
    · exact Int.mul_nonneg g g
    · have := Int.mul_nonneg (a := -(h - 2 * x)) (b := -(h - 2 * x)) (by omega) (by omega)
      rwa [Int.neg_mul_neg] at this
  have e1 : (h - 2 * x) * (h - 2 * x) = h * h - 4 * (x * (h - x)) := by
    simp only [Int.mul_sub, Int.sub_mul]
    have c1 : h * (2 * x) = 2 * (x * h) := by rw [Int.mul_left_comm, Int.mul_comm h x]
    have c2 : 2 * x * h = 2 * (x * h) := Int.mul_assoc _ _ _
    have c3 : 2 * x * (2 * x) = 4 * (x * x) := by rw [Int.mul_assoc, Int.mul_left_comm x 2 x]; omega
    rw [c1, c2, c3]; omega
  have e2 : 40000 * x * (h - x) = 40000 * (x * (h - x)) := Int.mul_assoc _ _ _
  rw [e2]
  omega
theorem waveI_no {n p : Int} (h : perB p = false) : waveI n p = 0 := by unfold waveI; rw [h]; rfl
theorem waveI_up {n p : Int} (h : perB p = true) (hx : n % p < p / 2) : waveI n p = crest (n % p) (p / 2) := by unfold waveI; rw [if_pos h, if_pos hx]
theorem waveI_down {n p : Int} (h : perB p = true) (hx : ¬ n % p < p / 2) : waveI n p = -crest (n % p - p / 2) (p / 2) := by unfold waveI; rw [if_pos h, if_neg hx]
theorem waveI_le (n p : Int) : -10000 ≤ waveI n p ∧ waveI n p ≤ 10000 := by
  cases h : perB p with
  | false => rw [waveI_no h]; omega
  | true =>
    obtain ⟨a, b, c⟩ := perB_true h
    have m0 := Int.emod_nonneg n (b := p) (by omega)
    have m1 := Int.emod_lt_of_pos n (b := p) (by omega)
    by_cases hx : n % p < p / 2
    · rw [waveI_up h hx]
      have := crest_le (x := n % p) (h := p / 2) (by omega) m0 (by omega)
      omega
    · rw [waveI_down h hx]
      have := crest_le (x := n % p - p / 2) (h := p / 2) (by omega) (by omega) (by omega)
      omega
theorem tmod_neg {n p : Int} (hp : 0 < p) (h : n.tmod p < 0) : n.tmod p + p = n % p := by
  rcases Int.le_total 0 n with g | g
  · rw [Int.tmod_eq_emod_of_nonneg g] at h
    have := Int.emod_nonneg n (b := p) (by omega)
    omega
  · have m0 := Int.emod_nonneg n (b := p) (by omega)
    have m1 := Int.emod_lt_of_pos n (b := p) hp
    have t0 := Int.tmod_add_mul_tdiv n p
    have e0 := Int.emod_add_mul_ediv n p
    have tb : -p < n.tmod p := by
      have := Int.lt_tmod_of_pos n hp
      omega
    have hm : (n.tmod p + p) % p = n.tmod p + p := Int.emod_eq_of_lt (by omega) (by omega)
    rw [← hm, Int.add_emod_right]
    have : n % p = (n.tmod p + p * n.tdiv p) % p := by rw [t0]
    rw [this, Int.add_mul_emod_self_left]
theorem tmod_pos {n p : Int} (hp : 0 < p) (h : ¬ n.tmod p < 0) : n.tmod p = n % p := by
  have t0 := Int.tmod_add_mul_tdiv n p
  have tb := Int.tmod_lt_of_pos n hp
  have hm : (n.tmod p) % p = n.tmod p := Int.emod_eq_of_lt (by omega) (by omega)
  rw [← hm]
  have : n % p = (n.tmod p + p * n.tdiv p) % p := by rw [t0]
  rw [this, Int.add_mul_emod_self_left]
theorem isPeriod_any (p : Int) (w : World) : Calls Tryz.prog 134 #[.int .i64 p] w fun e w' => e = .returned (.bool (perB p)) ∧ w = w' := by
  by_cases h1 : 4 ≤ p
  · by_cases h2 : p ≤ 2880
    · by_cases h3 : p % 4 = 0
      · have H := Lib.hid (perB_mk ⟨h1, h2, h3⟩)
        have h4 : (p % 4 == 0) = true := by simpa using h3
        clear h3
        go_enter Tryz.func134, Tryz.ntmps134
        go_wp2
        go_ret
        exact ⟨ret_bool H.out.symm, rfl⟩
      · have H := Lib.hid (perB_no (p := p) (by omega))
        have h4 : (p % 4 == 0) = false := by simpa using h3
        clear h3
        go_enter Tryz.func134, Tryz.ntmps134
        go_wp2
        go_ret
        exact ⟨ret_bool H.out.symm, rfl⟩
    · have H := Lib.hid (perB_no (p := p) (by omega))
      have h4 : decide (p ≤ 2880) = false := decide_eq_false h2
      go_enter Tryz.func134, Tryz.ntmps134
      go_wp2
      go_ret
      exact ⟨ret_bool H.out.symm, rfl⟩
  · have H := Lib.hid (perB_no (p := p) (by omega))
    have h4 : decide (4 ≤ p) = false := decide_eq_false h1
    go_enter Tryz.func134, Tryz.ntmps134
    go_wp2
    go_ret
    exact ⟨ret_bool H.out.symm, rfl⟩
theorem remainder_any (n p : Int) (w : World) (h0 : 0 < p) (h1 : p ≤ 2880) : Calls Tryz.prog 138 #[.int .i64 n, .int .i64 p] w fun e w' => e = .returned (.int .i64 (n % p)) ∧ w = w' := by
  have b0 := Int.tmod_lt_of_pos n h0
  have b1 := Int.lt_tmod_of_pos n h0
  have hz : p ≠ 0 := by omega
  by_cases hs : n.tmod p < 0
  · have H := Lib.hid (tmod_neg h0 hs)
    go_enter Tryz.func138, Tryz.ntmps138
    go_wp2
    go_ret
    exact ⟨ret_int H.out, rfl⟩
  · have H := Lib.hid (tmod_pos h0 hs)
    go_enter Tryz.func138, Tryz.ntmps138
    go_wp2
    go_ret
    exact ⟨ret_int H.out, rfl⟩
theorem waveCrest_any (x h : Int) (w : World) (h0 : 1 ≤ h) (h1 : h ≤ 1440) (x0 : 0 ≤ x) (x1 : x ≤ h) : Calls Tryz.prog 139 #[.int .i64 x, .int .i64 h] w fun e w' => e = .returned (.int .i64 (crest x h)) ∧ w = w' := by
  obtain ⟨a0, a1⟩ := crest_num x0 x1 h1
  obtain ⟨d0, d1⟩ := crest_den h0 h1
  go_enter Tryz.func139, Tryz.ntmps139
  go_wp2
  go_ret
  exact ⟨rfl, rfl⟩
theorem implWave (n p : Int) (w : World) : Calls Tryz.prog 137 #[.int .i64 n, .int .i64 p] w fun e w' => e = .returned (.int .i64 (waveI n p)) ∧ w = w' := by
  cases hp : perB p with
  | false =>
    have H := Lib.hid (waveI_no (n := n) hp)
    have C := Lib.hid (isPeriod_any p w)
    rw [hp] at C
    clear hp
    go_enter Tryz.func137, Tryz.ntmps137
    go_wp2_with fail
    refine C.out.mono ?_
    rintro e w1 ⟨rfl, rfl⟩
    go_wp2
    go_ret
    exact ⟨ret_int H.out.symm, rfl⟩
  | true =>
    obtain ⟨p0, p1, p2⟩ := perB_true hp
    have C := Lib.hid (isPeriod_any p w)
    rw [hp] at C
    have HP := Lib.hid hp
    have HQ := Lib.hid p2
    have m0 := Int.emod_nonneg n (b := p) (by omega)
    have m1 := Int.emod_lt_of_pos n (b := p) (by omega)
    clear hp p2
    by_cases hx : n % p < p / 2
    · have H := Lib.hid (waveI_up HP.out hx)
      go_enter Tryz.func137, Tryz.ntmps137
      go_wp2_with fail
      refine C.out.mono ?_
      rintro e w1 ⟨rfl, rfl⟩
      go_wp2_with fail
      refine (remainder_any n p _ (by omega) p1).mono ?_
      rintro e w1 ⟨rfl, rfl⟩
      go_wp2_with fail
      refine (waveCrest_any _ _ _ (by omega) (by omega) m0 (by omega)).mono ?_
      rintro e w1 ⟨rfl, rfl⟩
      go_wp2
      go_ret
      exact ⟨ret_int H.out.symm, rfl⟩
    · have H := Lib.hid (waveI_down HP.out hx)
      have hb := crest_le (x := n % p - p / 2) (h := p / 2) (by omega) (by omega) (by omega)
      obtain ⟨hb0, hb1⟩ := hb
      go_enter Tryz.func137, Tryz.ntmps137
      go_wp2_with fail
      refine C.out.mono ?_
      rintro e w1 ⟨rfl, rfl⟩
      go_wp2_with fail
      refine (remainder_any n p _ (by omega) p1).mono ?_
      rintro e w1 ⟨rfl, rfl⟩
      go_wp2_with fail
      refine (waveCrest_any _ _ _ (by omega) (by omega) (by omega) (by omega)).mono ?_
      rintro e w1 ⟨rfl, rfl⟩
      go_wp2
      go_ret
      exact ⟨ret_int H.out.symm, rfl⟩
set_option maxHeartbeats 1000000 in
theorem specWave (n p : Int) (w : World) : Calls Tryz.prog 110 #[.int .i64 n, .int .i64 p] w fun e w' => e = .returned (.int .i64 (waveI n p)) ∧ w = w' := by
  cases hp : perB p with
  | false =>
    have H := Lib.hid (waveI_no (n := n) hp)
    have hq := perB_false hp
    clear hp
    by_cases h1 : p < 4
    · clear hq
      go_enter Tryz.func110, Tryz.ntmps110
      go_wp2
      go_ret
      exact ⟨ret_int H.out.symm, rfl⟩
    · by_cases h2 : 2880 < p
      · clear hq
        go_enter Tryz.func110, Tryz.ntmps110
        go_wp2
        go_ret
        exact ⟨ret_int H.out.symm, rfl⟩
      · have h3 : (p % 4 != 0) = true := by simp; omega
        clear hq
        go_enter Tryz.func110, Tryz.ntmps110
        go_wp2
        go_ret
        exact ⟨ret_int H.out.symm, rfl⟩
  | true =>
    obtain ⟨p0, p1, p2⟩ := perB_true hp
    have h1 : ¬ p < 4 := by omega
    have h2 : ¬ 2880 < p := by omega
    have h3 : (p % 4 != 0) = false := by simpa using p2
    have HP := Lib.hid hp
    have m0 := Int.emod_nonneg n (b := p) (by omega)
    have m1 := Int.emod_lt_of_pos n (b := p) (by omega)
    have hp0 : 0 < p := by omega
    have b0 := Int.tmod_lt_of_pos n hp0
    have b1 := Int.lt_tmod_of_pos n hp0
    have hz : p ≠ 0 := by omega
    have d := crest_den (h := p / 2) (by omega) (by omega)
    obtain ⟨d0, d1⟩ := d
    clear hp p2
    by_cases hs : n.tmod p < 0
    · have E := Lib.hid (tmod_neg hp0 hs)
      by_cases hx : n % p < p / 2
      · have H := Lib.hid (waveI_up HP.out hx)
        rw [← E.out] at hx m0 m1
        obtain ⟨a0, a1⟩ := crest_num (x := n.tmod p + p) (h := p / 2) m0 (by omega) (by omega)
        go_enter Tryz.func110, Tryz.ntmps110
        go_wp2
        go_ret
        refine ⟨ret_int ?_, rfl⟩
        rw [H.out, ← E.out]; rfl
      · have H := Lib.hid (waveI_down HP.out hx)
        rw [← E.out] at hx m0 m1
        obtain ⟨a0, a1⟩ := crest_num (x := n.tmod p + p - p / 2) (h := p / 2) (by omega) (by omega) (by omega)
        obtain ⟨hb0, hb1⟩ := crest_le (x := n.tmod p + p - p / 2) (h := p / 2) (by omega) (by omega) (by omega)
        unfold crest at hb0 hb1
        go_enter Tryz.func110, Tryz.ntmps110
        go_wp2
        go_ret
        refine ⟨ret_int ?_, rfl⟩
        rw [H.out, ← E.out]; rfl
    · have E := Lib.hid (tmod_pos hp0 hs)
      by_cases hx : n % p < p / 2
      · have H := Lib.hid (waveI_up HP.out hx)
        rw [← E.out] at hx m0 m1
        obtain ⟨a0, a1⟩ := crest_num (x := n.tmod p) (h := p / 2) m0 (by omega) (by omega)
        go_enter Tryz.func110, Tryz.ntmps110
        go_wp2
        go_ret
        refine ⟨ret_int ?_, rfl⟩
        rw [H.out, ← E.out]; rfl
      · have H := Lib.hid (waveI_down HP.out hx)
        rw [← E.out] at hx m0 m1
        obtain ⟨a0, a1⟩ := crest_num (x := n.tmod p - p / 2) (h := p / 2) (by omega) (by omega) (by omega)
        obtain ⟨hb0, hb1⟩ := crest_le (x := n.tmod p - p / 2) (h := p / 2) (by omega) (by omega) (by omega)
        unfold crest at hb0 hb1
        go_enter Tryz.func110, Tryz.ntmps110
        go_wp2
        go_ret
        refine ⟨ret_int ?_, rfl⟩
        rw [H.out, ← E.out]; rfl
end Go.Proofs.YtpimcbhjkednpaaGreat
