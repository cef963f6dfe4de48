
/- What ExactRivalDuties and Dilworth and CoversLaw rests on, part 4: contracts and mathematics. -/
import Derived.Test.YtfofbnpgjdagkaaCv0
import Derived.Test.YtfofbnpgjdagkaaCv1
import Derived.Test.YtfofbnpgjdagkaaCv3
import Derived.StillTailTactics
namespace Go.Proofs.Ytfofbnpgjdagkaa
open Go.ChangeShapes Go.WideShapes Go.ChangeAt Go.Deep Go.RowKit
set_option maxRecDepth 100000
structure DutyD where
  fr : Int
  tt : Int
  a : Int
  b : Int
@[reducible] def DutyD.val (d : DutyD) : Value := .agg #[.int .i64 d.fr, .int .i64 d.tt, .int .i64 d.a, .int .i64 d.b]
@[reducible] def DutyD.cells (d : DutyD) : List Value := [.int .i64 d.fr, .int .i64 d.tt, .int .i64 d.a, .int .i64 d.b]
theorem dutyLen (d : DutyD) : d.cells.length = 4 := rfl
def SlDuty : World → Value → List DutyD → Prop := SlOf 4 DutyD.cells
def OwnDuty : World → Nat → Value → List DutyD → Prop := OwnOf 4 DutyD.cells 35
def NewDuty : List DutyD → World → Ending → World → Prop := NewOf 4 DutyD.cells 35
theorem SlDuty.at {w : World} {v : Value} {l : List DutyD} (h : SlDuty w v l) : ∃ A c, v = .slice A l.length c := SlOf.form h
theorem SlDuty.below {w w' : World} {v : Value} {l : List DutyD} (h : SlDuty w v l) (hb : Below w.heap.size w w') : SlDuty w' v l := SlOf.below h hb
theorem OwnDuty.sl {w : World} {base : Nat} {v : Value} {l : List DutyD} (h : OwnDuty w base v l) (hl : l.length ≤ 1000000000) : SlDuty w v l := own_sl dutyLen h hl
theorem SlDuty.cells {w : World} {l : List DutyD} {g o : Nat} (hc : ∀ i x, l[i]? = some x → ∀ j u, (DutyD.cells x)[j]? = some u → w.cell? ⟨g, o + i * 4 + j, none⟩ = some u) (i : Nat) (x : DutyD) (hx : l[i]? = some x) :
    w.cell? ⟨g, o + i * 4, none⟩ = some (.int .i64 x.fr) ∧ w.cell? ⟨g, o + i * 4 + 1, none⟩ = some (.int .i64 x.tt) ∧ w.cell? ⟨g, o + i * 4 + 2, none⟩ = some (.int .i64 x.a) ∧ w.cell? ⟨g, o + i * 4 + 3, none⟩ = some (.int .i64 x.b) :=
  ⟨hc i x hx 0 _ rfl, hc i x hx 1 _ rfl, hc i x hx 2 _ rfl, hc i x hx 3 _ rfl⟩
def zeroDuty : List Value := [.int .i64 0, .int .i64 0, .int .i64 0, .int .i64 0]
theorem info_duty : (Try.prog.info? 35).map (fun i => (i.zero, i.size, i.bytes)) = some (some (.agg #[.int .i64 0, .int .i64 0, .int .i64 0, .int .i64 0]), 4, 32) := by kernel_rfl
theorem make_dutys (n : Nat) (hn : n ≤ 1000000000) (W : World) :
    (Instr.makeSlice 24 (.int .i64 (n : Int)) (.int .i64 (n : Int))).run Try.prog W = .ok (.slice (some ⟨W.heap.size, 0, none⟩) n n) (W.alloc (.cells (madeCells #[.int .i64 0, .int .i64 0, .int .i64 0, .int .i64 0] (n * 4)) 35)) := by
  obtain ⟨i0, hi, hz0, hz1, hz2⟩ := info_parts info_duty
  have hr := run_make (P := Try.prog) W 24 35 i0 _ Try.underlying24 hi hz0 .i64 .i64 n n (by omega) (Int.le_refl _) (by rw [hz2]; omega) (by omega)
  simp only [Int.toNat_natCast, hz1] at hr
  exact hr
theorem toDuty_any (fr : Int) (tt : Int) (a : Int) (b : Int) (w : World) : Calls Try.prog 27 #[.agg #[.int .i64 fr, .int .i64 tt, .int .i64 a, .int .i64 b]] w fun e w' => e = .returned (.agg #[.int .i64 fr, .int .i64 tt, .int .i64 a, .int .i64 b]) ∧ Below w.heap.size w w' := by
  go_enter Try.func27, Try.ntmps27
  go_wp2
  refine bodyPost_ret (v := .agg #[.int .i64 fr, .int .i64 tt, .int .i64 a, .int .i64 b]) (by simp [results, Try.results27, go_sem]) rfl ⟨rfl, ?_⟩
  repeat (first | exact Below.refl _ _ | refine Below.setCell ?_ (by simp <;> omega) _ | refine Below.alloc ?_ (by simp <;> omega) _)
theorem eqDuty_same (fr : Int) (tt : Int) (a : Int) (b : Int) (w : World) : Calls Try.prog 52 #[.agg #[.int .i64 fr, .int .i64 tt, .int .i64 a, .int .i64 b], .agg #[.int .i64 fr, .int .i64 tt, .int .i64 a, .int .i64 b]] w fun e w' => e = .returned (.bool true) ∧ Below w.heap.size w w' := by
  go_enter Try.func52, Try.ntmps52
  go_wp2
  go_ret
  exact ⟨rfl, Joins.below_alloc2 _ _ _⟩
set_option maxHeartbeats 1000000 in
theorem toDutyS_any (v : Value) (l : List DutyD) (w : World) (h : SlDuty w v l) :
    Calls Try.prog 23 #[v] w (NewDuty l w) := by
  obtain ⟨hl, h⟩ := h
  have hmk := make_dutys l.length hl
  rcases h with ⟨rfl, A, c, rfl⟩ | ⟨g, o, c, rfl, hp, hcap, hc⟩
  · have hmk0 : ∀ W : World, (Instr.makeSlice 24 (.int .i64 0) (.int .i64 0)).run Try.prog W = .ok (.slice (some ⟨W.heap.size, 0, none⟩) 0 0) (W.alloc (.cells (madeCells #[.int .i64 0, .int .i64 0, .int .i64 0, .int .i64 0] (0 * 4)) 35)) := make_dutys 0 (by omega)
    clear hmk
    go_enter Try.func23, Try.ntmps23
    go_wp2
    refine wp_loop_rounds 1 ?_
    rw [rounds_succ]
    go_wp2
    go_ret
    have h := World.ownsRow_lit (base := w.heap.size) (e := 35) (size := 4) w (madeCells #[.int .i64 0, .int .i64 0, .int .i64 0, .int .i64 0] (0 * 4)) 0 (Nat.le_refl _) (by decide) (by rw [size_madeCells])
    rw [show (madeCells #[Value.int .i64 0, .int .i64 0, .int .i64 0, .int .i64 0] (0 * 4)).toList = [] by simp [madeCells]] at h
    exact ⟨_, rfl, h, (Below.refl _ _).alloc (Nat.le_refl _) _⟩
  · have HC := Lib.hid hc
    clear hc
    go_enter Try.func23, Try.ntmps23
    go_wp2
    clear hmk
    go_loopw [4] (fun i wr => ∃ k : Nat, k ≤ l.length ∧ i = .int .i64 k ∧ Hid (wr.ownsRow w.heap.size 35 4 (.slice (some ⟨w.heap.size, 0, none⟩) l.length l.length) l.length (halfOf DutyD.cells zeroDuty l k)) ∧ Below w.heap.size w wr) (fun i _ => l.length - (intOf i).toNat)
    case atStart =>
      refine ⟨0, Nat.zero_le _, rfl, ?_, (Below.refl _ _).alloc (Nat.le_refl _) _⟩
      have h := World.ownsRow_lit (base := w.heap.size) (e := 35) (size := 4) w (madeCells #[.int .i64 0, .int .i64 0, .int .i64 0, .int .i64 0] (l.length * 4)) l.length (Nat.le_refl _) (by unfold maxLen; omega) (by rw [size_madeCells])
      have e := made_flat #[.int .i64 0, .int .i64 0, .int .i64 0, .int .i64 0] l.length
      rw [half_none]
      exact Lib.hid (e ▸ h)
    case round =>
      obtain ⟨k, hk, rfl, hown, hb⟩ := hrel
      by_cases hlt : k < l.length
      · obtain ⟨x, hx⟩ : ∃ x, l[k]? = some x := ⟨_, List.getElem?_eq_getElem hlt⟩
        obtain ⟨q0, q1, q2, q3⟩ := SlDuty.cells HC.out k x hx
        have hlt2 : g < w.heap.size := World.block_lt_of_cell? w ⟨g, o + k * 4, none⟩ q0
        have c0 := (hb.cell (p := ⟨g, o + k * 4, none⟩) hlt2).trans q0
        have c1 := (hb.cell (p := ⟨g, o + k * 4 + 1, none⟩) hlt2).trans q1
        have c2 := (hb.cell (p := ⟨g, o + k * 4 + 2, none⟩) hlt2).trans q2
        have c3 := (hb.cell (p := ⟨g, o + k * 4 + 3, none⟩) hlt2).trans q3
        have Hx := Lib.hid hx
        clear q0 q1 q2 q3 hx
        go_wp2_with fail
        refine (toDuty_any _ _ _ _ _).mono ?_
        rintro e w1 ⟨rfl, hb1⟩
        have own1 := ownsRow_below hown.out hb1
        have B1 : Below w.heap.size w w1 := hb.trans (hb1.mono hb.size)
        have s0 : w1.cell? ⟨w.heap.size, k * 4, none⟩ = some (.int .i64 0) := (World.ownsRow.cellAt own1 (k * 4) (by omega)).trans (half_at dutyLen l k hlt 0 _ rfl)
        have s1 : w1.cell? ⟨w.heap.size, k * 4 + 1, none⟩ = some (.int .i64 0) := (World.ownsRow.cellAt own1 (k * 4 + 1) (by omega)).trans (half_at dutyLen l k hlt 1 _ rfl)
        have s2 : w1.cell? ⟨w.heap.size, k * 4 + 2, none⟩ = some (.int .i64 0) := (World.ownsRow.cellAt own1 (k * 4 + 2) (by omega)).trans (half_at dutyLen l k hlt 2 _ rfl)
        have s3 : w1.cell? ⟨w.heap.size, k * 4 + 3, none⟩ = some (.int .i64 0) := (World.ownsRow.cellAt own1 (k * 4 + 3) (by omega)).trans (half_at dutyLen l k hlt 3 _ rfl)
        have z0 : w1.frozen? ⟨w.heap.size, k * 4, none⟩ = false := World.ownsRow.frozenAt own1 _
        have z1 : w1.frozen? ⟨w.heap.size, k * 4 + 1, none⟩ = false := World.ownsRow.frozenAt own1 _
        have z2 : w1.frozen? ⟨w.heap.size, k * 4 + 2, none⟩ = false := World.ownsRow.frozenAt own1 _
        have z3 : w1.frozen? ⟨w.heap.size, k * 4 + 3, none⟩ = false := World.ownsRow.frozenAt own1 _
        have hst := (World.ownsRow.stored (World.ownsRow.stored (World.ownsRow.stored (World.ownsRow.stored own1 (k * 4) (.int .i64 x.fr)).1 (k * 4 + 1) (.int .i64 x.tt)).1 (k * 4 + 2) (.int .i64 x.a)).1 (k * 4 + 3) (.int .i64 x.b)).1
        have e := half_set dutyLen (zc := zeroDuty) rfl l k x Hx.out
        have HO := Lib.hid ((show (((((halfOf DutyD.cells zeroDuty l k).set (k * 4) (.int .i64 x.fr)).set (k * 4 + 1) (.int .i64 x.tt)).set (k * 4 + 2) (.int .i64 x.a)).set (k * 4 + 3) (.int .i64 x.b)) = halfOf DutyD.cells zeroDuty l (k + 1) from e) ▸ hst)
        have HB := Lib.hid ((((B1.setCell (p := ⟨w.heap.size, k * 4, none⟩) (Nat.le_refl _) (.int .i64 x.fr)).setCell (p := ⟨w.heap.size, k * 4 + 1, none⟩) (Nat.le_refl _) (.int .i64 x.tt)).setCell (p := ⟨w.heap.size, k * 4 + 2, none⟩) (Nat.le_refl _) (.int .i64 x.a)).setCell (p := ⟨w.heap.size, k * 4 + 3, none⟩) (Nat.le_refl _) (.int .i64 x.b))
        clear own1 hst e hb1 B1
        go_wp2
        go_roundw
        case rel => exact ⟨k + 1, by omega, by go_num, HO, HB.out⟩
        case measure => simp [intOf]; omega
      · go_wp2
        go_ret
        obtain rfl : k = l.length := by omega
        have ho := hown.out
        rw [half_full] at ho
        exact ⟨_, rfl, ho, hb⟩
def bulkDuty (_ : List DutyD) : Int := 0
theorem szDutyS_any (A : Option Addr) (l : List DutyD) (c : Nat) (w : World) (hl : l.length ≤ 9223372036854775807) (_ : l.length ≤ 1000000000 → SlDuty w (.slice A l.length c) l) (lim : Int) (h0 : 0 ≤ lim) (h1 : lim ≤ 1048576) :
    Calls Try.prog 21 #[.slice A l.length c, .int .i64 lim] w fun e w' => e = .returned (.int .i64 (leftOf lim ((l.length : Int) + bulkDuty l))) ∧ Below w.heap.size w w' := by
  have e : (l.length : Int) + bulkDuty l = (l.length : Int) := by unfold bulkDuty; omega
  rw [e]
  generalize l.length = n at *
  by_cases hlt : lim < (n : Int)
  · rw [leftOf_no hlt]
    go_enter Try.func21, Try.ntmps21
    go_wp2
    go_ret
    exact ⟨rfl, Below.refl _ _⟩
  · rw [leftOf_yes hlt]
    go_enter Try.func21, Try.ntmps21
    go_wp2
    go_ret
    exact ⟨rfl, Below.refl _ _⟩
theorem bulkDuty_pos (l : List DutyD) : 0 ≤ bulkDuty l := Int.le_refl _
set_option maxHeartbeats 1000000 in
theorem eqDutyS_same (va vb : Value) (l : List DutyD) (w : World) (ha : SlDuty w va l) (hb : SlDuty w vb l) :
    Calls Try.prog 24 #[va, vb] w fun e w' => e = .returned (.bool true) ∧ Below w.heap.size w w' := by
  obtain ⟨hl, ha⟩ := ha
  obtain ⟨_, hb⟩ := hb
  rcases ha with ⟨rfl, A, c, rfl⟩ | ⟨g, o, c, rfl, hp, _, hca⟩
  · rcases hb with ⟨_, A', c', rfl⟩ | ⟨g', o', c', rfl, hp, _, _⟩
    · go_enter Try.func24, Try.ntmps24
      go_wp2
      refine wp_loop_rounds 1 ?_
      rw [rounds_succ]
      go_wp2
      go_ret
      exact ⟨rfl, Below.refl _ _⟩
    · exact absurd hp (by simp)
  · rcases hb with ⟨rfl, A', c', rfl⟩ | ⟨g', o', c', rfl, _, _, hcb⟩
    · exact absurd hp (by simp)
    · have HA := Lib.hid hca
      have HB := Lib.hid hcb
      clear hca hcb
      go_enter Try.func24, Try.ntmps24
      go_wp2
      go_loopw [5] (fun i wr => ∃ k : Nat, k ≤ l.length ∧ i = .int .i64 k ∧ Below w.heap.size w wr) (fun i _ => l.length - (intOf i).toNat)
      case atStart => exact ⟨0, Nat.zero_le _, rfl, Below.refl _ _⟩
      case round =>
        obtain ⟨k, hk, rfl, hb⟩ := hrel
        by_cases hlt : k < l.length
        · obtain ⟨x, hx⟩ : ∃ x, l[k]? = some x := ⟨_, List.getElem?_eq_getElem hlt⟩
          obtain ⟨p0, p1, p2, p3⟩ := SlDuty.cells HA.out k x hx
          obtain ⟨q0, q1, q2, q3⟩ := SlDuty.cells HB.out k x hx
          have hg : g < w.heap.size := World.block_lt_of_cell? w ⟨g, o + k * 4, none⟩ p0
          have hg' : g' < w.heap.size := World.block_lt_of_cell? w ⟨g', o' + k * 4, none⟩ q0
          have a0 := (hb.cell (p := ⟨g, o + k * 4, none⟩) hg).trans p0
          have a1 := (hb.cell (p := ⟨g, o + k * 4 + 1, none⟩) hg).trans p1
          have a2 := (hb.cell (p := ⟨g, o + k * 4 + 2, none⟩) hg).trans p2
          have a3 := (hb.cell (p := ⟨g, o + k * 4 + 3, none⟩) hg).trans p3
          have b0 := (hb.cell (p := ⟨g', o' + k * 4, none⟩) hg').trans q0
          have b1 := (hb.cell (p := ⟨g', o' + k * 4 + 1, none⟩) hg').trans q1
          have b2 := (hb.cell (p := ⟨g', o' + k * 4 + 2, none⟩) hg').trans q2
          have b3 := (hb.cell (p := ⟨g', o' + k * 4 + 3, none⟩) hg').trans q3
          have hbs := hb.size
          clear p0 q0 p1 q1 p2 q2 p3 q3 hx
          go_wp2
          go_still_tail 8, (by kernel_rfl)
          change wpList _ _ _ _ _ wr.drew
          have hd := hb.drew
          generalize wr.drew = w2 at hd ⊢
          have hds := hd.size
          clear a0 b0 a1 b1 a2 b2 a3 b3 hb hbs
          go_wp2_with fail
          refine (eqDuty_same _ _ _ _ _).mono ?_
          rintro e w3 ⟨rfl, hb3⟩
          have B3 := Lib.hid (hd.trans (hb3.mono hds))
          clear hb3 hd hds
          go_wp2
          go_roundw
          case rel => exact ⟨k + 1, by omega, by go_num, B3.out⟩
          case measure => simp [intOf]; omega
        · go_wp2
          go_ret
          exact ⟨rfl, hb⟩
/-- What the marking that begins with k writes into cell j. -/
def mvDuty (k : Int) (j : Nat) : Value := if j % 4 = 0 then .int .i64 (k + (j : Int)) else if j % 4 = 1 then .int .i64 (k + (j : Int)) else if j % 4 = 2 then .int .i64 (k + (j : Int)) else .int .i64 (k + (j : Int))
theorem mvDuty_0 (k : Int) (j : Nat) : mvDuty k (j * 4) = .int .i64 (k + (j : Int) * 4) := by
  unfold mvDuty
  rw [if_pos (by omega), show k + ((j * 4 : Nat) : Int) = k + (j : Int) * 4 by omega]
theorem mvDuty_1 (k : Int) (j : Nat) : mvDuty k (j * 4 + 1) = .int .i64 (k + (j : Int) * 4 + 1) := by
  unfold mvDuty
  rw [if_neg (by omega), if_pos (by omega), show k + ((j * 4 + 1 : Nat) : Int) = k + (j : Int) * 4 + 1 by omega]
theorem mvDuty_2 (k : Int) (j : Nat) : mvDuty k (j * 4 + 2) = .int .i64 (k + (j : Int) * 4 + 2) := by
  unfold mvDuty
  rw [if_neg (by omega), if_neg (by omega), if_pos (by omega), show k + ((j * 4 + 2 : Nat) : Int) = k + (j : Int) * 4 + 2 by omega]
theorem mvDuty_3 (k : Int) (j : Nat) : mvDuty k (j * 4 + 3) = .int .i64 (k + (j : Int) * 4 + 3) := by
  unfold mvDuty
  rw [if_neg (by omega), if_neg (by omega), if_neg (by omega), show k + ((j * 4 + 3 : Nat) : Int) = k + (j : Int) * 4 + 3 by omega]
set_option maxHeartbeats 4000000 in
theorem markDutyS_any (v : Value) (l : List DutyD) (k : Int) (w : World) (h : SlDuty w v l) (hfz : ∀ g, v.ownBlock = some g → ∀ j, w.frozen? ⟨g, j, none⟩ = false) (h0 : 0 ≤ k) (h1 : k ≤ 100000000) (h2 : l.length ≤ 10000000) :
    Calls Try.prog 33 #[v, .int .i64 k] w fun e w' => e = .returned (.int .i64 (k + (l.length : Int) * 4)) ∧ MarkedV w' v (l.length * 4) (mvDuty k) ∧ w.grownBy w' v.ownBlock := by
  obtain ⟨hl, h⟩ := h
  rcases h with ⟨rfl, A, c, rfl⟩ | ⟨g, o, c, rfl, hp, hcap, hc⟩
  · go_enter Try.func33, Try.ntmps33
    go_wp2
    refine wp_loop_rounds 1 ?_
    rw [rounds_succ]
    go_wp2
    go_ret
    exact ⟨ret_int (by simp), .inl (by simp), World.grownBy.refl _ _⟩
  · have hs : MarkRowV w g o (l.length * 4) (mvDuty k) (0 * 4) w := MarkRowV.start (vals_of (by omega) dutyLen hc) (by omega) (fun j => hfz g rfl j)
    have HS := Lib.hid hs
    clear hs hc hfz
    go_enter Try.func33, Try.ntmps33
    go_wp2
    go_loopw [1, 5] (fun q i wr => ∃ j : Nat, j ≤ l.length ∧ i = .int .i64 j ∧ q = .int .i64 (k + (j : Int) * 4) ∧ Hid (MarkRowV w g o (l.length * 4) (mvDuty k) (j * 4) wr)) (fun _ i _ => l.length - (intOf i).toNat)
    case atStart => exact ⟨0, Nat.zero_le _, rfl, by simp, HS⟩
    case round =>
      obtain ⟨j, hj, rfl, rfl, hM⟩ := hrel
      by_cases hlt : j < l.length
      · clear HS
        obtain ⟨x0, c0⟩ := hM.out.read (j * 4 + 0) (by omega) (by omega) (o + j * 4) (by omega)
        have f0 := hM.out.2.2.2.1 (o + j * 4)
        have M0 := Lib.hid (hM.out.next (by omega) (o + j * 4) (by omega) (.int .i64 (k + (j : Int) * 4)) (by rw [mvDuty_0]) (j * 4 + 1) rfl)
        obtain ⟨x1, c1⟩ := M0.out.read (j * 4 + 1) (by omega) (by omega) (o + j * 4 + 1) (by omega)
        have f1 := M0.out.2.2.2.1 (o + j * 4 + 1)
        have M1 := Lib.hid (M0.out.next (by omega) (o + j * 4 + 1) (by omega) (.int .i64 (k + (j : Int) * 4 + 1)) (by rw [mvDuty_1]) (j * 4 + 2) rfl)
        obtain ⟨x2, c2⟩ := M1.out.read (j * 4 + 2) (by omega) (by omega) (o + j * 4 + 2) (by omega)
        have f2 := M1.out.2.2.2.1 (o + j * 4 + 2)
        have M2 := Lib.hid (M1.out.next (by omega) (o + j * 4 + 2) (by omega) (.int .i64 (k + (j : Int) * 4 + 1 + 1)) (by rw [mvDuty_2]; congr 1; omega) (j * 4 + 3) rfl)
        obtain ⟨x3, c3⟩ := M2.out.read (j * 4 + 3) (by omega) (by omega) (o + j * 4 + 3) (by omega)
        have f3 := M2.out.2.2.2.1 (o + j * 4 + 3)
        have M3 := Lib.hid (M2.out.next (by omega) (o + j * 4 + 3) (by omega) (.int .i64 (k + (j : Int) * 4 + 1 + 1 + 1)) (by rw [mvDuty_3]; congr 1; omega) (j * 4 + 4) rfl)
        go_wp2
        go_roundw
        case rel =>
          refine ⟨j + 1, by omega, by go_num, ?_, ?_⟩
          · exact congrArg (Value.int .i64) (by omega)
          · rw [show (j + 1) * 4 = j * 4 + 4 by omega]; exact M3
        case measure => simp [intOf]; omega
      · go_wp2
        go_ret
        obtain rfl : j = l.length := by omega
        exact ⟨rfl, .inr ⟨g, o, l.length, c, rfl, hM.out.2.1⟩, hM.out.1⟩
section
variable {H : Type} {enc : TypeId × Value → H} {w : World} {base : Nat} {spare : Nat → Bool} {held : Bool}
def DutyD.wf (d : DutyD) : Prop := (Lit.int .i64 d.fr).wf = true ∧ (Lit.int .i64 d.tt).wf = true ∧ (Lit.int .i64 d.a).wf = true ∧ (Lit.int .i64 d.b).wf = true
theorem dec_duty (n : Nat) (cs : List Value) (y : DataW H × List MemPlace) (h : DataW.trod enc Try.prog w base spare held n 45 cs = some y) : ∃ d : DutyD, cs = d.cells ∧ d.wf := by
  obtain ⟨hl, hf⟩ := struct_cells Try.underlying45 (by kernel_rfl) (by kernel_rfl) h
  obtain ⟨v0, n0, y0, e0, h0⟩ := hf 0 _ rfl
  obtain ⟨v1, n1, y1, e1, h1⟩ := hf 1 _ rfl
  obtain ⟨v2, n2, y2, e2, h2⟩ := hf 2 _ rfl
  obtain ⟨v3, n3, y3, e3, h3⟩ := hf 3 _ rfl
  obtain ⟨a0, ha0, _, wa0⟩ := DataW.trod_int Try.underlying3 h0
  obtain ⟨a1, ha1, _, wa1⟩ := DataW.trod_int Try.underlying3 h1
  obtain ⟨a2, ha2, _, wa2⟩ := DataW.trod_int Try.underlying3 h2
  obtain ⟨a3, ha3, _, wa3⟩ := DataW.trod_int Try.underlying3 h3
  simp only [List.cons.injEq, and_true] at ha0 ha1 ha2 ha3
  subst ha0 ha1 ha2 ha3
  refine ⟨⟨a0, a1, a2, a3⟩, ?_, wa0, wa1, wa2, wa3⟩
  match cs, hl with
  | [c0, c1, c2, c3], _ =>
    simp at e0 e1 e2 e3
    subst e0 e1 e2 e3
    rfl
theorem open_dutys {fuel : Nat} {v : Value} {x : DataW H × List MemPlace} (h : DataW.trod enc Try.prog w base (fun _ => true) held fuel 40 [v] = some x) :
    ∃ A c l, v = .slice A l.length c ∧ l.length ≤ maxLen ∧ (l.length ≤ 1000000000 → SlDuty w (.slice A l.length c) l) ∧ ∀ d ∈ l, DutyD.wf d :=
  open_elems DutyD.cells 4 DutyD.wf Try.underlying40 (by kernel_rfl) dutyLen (by omega) dec_duty h
end
end Go.Proofs.Ytfofbnpgjdagkaa
