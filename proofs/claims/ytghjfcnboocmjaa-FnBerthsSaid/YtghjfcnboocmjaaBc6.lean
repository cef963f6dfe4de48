
/- What ExactFreeTimes and BerthsLaw rests on, part 6: contracts and mathematics. -/
import Derived.Test.YtghjfcnboocmjaaBc1
import Derived.Test.YtghjfcnboocmjaaBc3
import Derived.StillTailTactics
namespace Go.Proofs.Ytghjfcnboocmjaa
open Go.ChangeShapes Go.WideShapes Go.ChangeAt Go.Deep Go.RowKit
set_option maxRecDepth 100000
structure StayD where
  ship : Int
  berth : Int
  fr : Int
  tt : Int
@[reducible] def StayD.val (d : StayD) : Value := .agg #[.int .i64 d.ship, .int .i64 d.berth, .int .i64 d.fr, .int .i64 d.tt]
@[reducible] def StayD.cells (d : StayD) : List Value := [.int .i64 d.ship, .int .i64 d.berth, .int .i64 d.fr, .int .i64 d.tt]
theorem stayLen (d : StayD) : d.cells.length = 4 := rfl
theorem stay_one (x : StayD) : ∀ v ∈ x.cells, v.oneCell' = true := fun v hv => by simp at hv; rcases hv with rfl | rfl | rfl | rfl <;> rfl
def SlStay : World → Value → List StayD → Prop := SlOf 4 StayD.cells
def OwnStay : World → Nat → Value → List StayD → Prop := OwnOf 4 StayD.cells 33
def NewStay : List StayD → World → Ending → World → Prop := NewOf 4 StayD.cells 33
theorem SlStay.at {w : World} {v : Value} {l : List StayD} (h : SlStay w v l) : ∃ A c, v = .slice A l.length c := SlOf.form h
theorem SlStay.below {w w' : World} {v : Value} {l : List StayD} (h : SlStay w v l) (hb : Below w.heap.size w w') : SlStay w' v l := SlOf.below h hb
theorem OwnStay.sl {w : World} {base : Nat} {v : Value} {l : List StayD} (h : OwnStay w base v l) (hl : l.length ≤ 1000000000) : SlStay w v l := own_sl stayLen h hl
theorem SlStay.cells {w : World} {l : List StayD} {g o : Nat} (hc : ∀ i x, l[i]? = some x → ∀ j u, (StayD.cells x)[j]? = some u → w.cell? ⟨g, o + i * 4 + j, none⟩ = some u) (i : Nat) (x : StayD) (hx : l[i]? = some x) :
    w.cell? ⟨g, o + i * 4, none⟩ = some (.int .i64 x.ship) ∧ w.cell? ⟨g, o + i * 4 + 1, none⟩ = some (.int .i64 x.berth) ∧ w.cell? ⟨g, o + i * 4 + 2, none⟩ = some (.int .i64 x.fr) ∧ w.cell? ⟨g, o + i * 4 + 3, none⟩ = some (.int .i64 x.tt) :=
  ⟨hc i x hx 0 _ rfl, hc i x hx 1 _ rfl, hc i x hx 2 _ rfl, hc i x hx 3 _ rfl⟩
def zeroStay : List Value := [.int .i64 0, .int .i64 0, .int .i64 0, .int .i64 0]
theorem info_stay : (Try.prog.info? 33).map (fun i => (i.zero, i.size, i.bytes)) = some (some (.agg #[.int .i64 0, .int .i64 0, .int .i64 0, .int .i64 0]), 4, 32) := by kernel_rfl
theorem make_stays (n : Nat) (hn : n ≤ 1000000000) (W : World) :
    (Instr.makeSlice 25 (.int .i64 (n : Int)) (.int .i64 (n : Int))).run Try.prog W = .ok (.slice (some ⟨W.heap.size, 0, none⟩) n n) (W.alloc (.cells (madeCells #[.int .i64 0, .int .i64 0, .int .i64 0, .int .i64 0] (n * 4)) 33)) := by
  obtain ⟨i0, hi, hz0, hz1, hz2⟩ := info_parts info_stay
  have hr := run_make (P := Try.prog) W 25 33 i0 _ Try.underlying25 hi hz0 .i64 .i64 n n (by omega) (Int.le_refl _) (by rw [hz2]; omega) (by omega)
  simp only [Int.toNat_natCast, hz1] at hr
  exact hr
theorem toStay_any (ship : Int) (berth : Int) (fr : Int) (tt : Int) (w : World) : Calls Try.prog 70 #[.agg #[.int .i64 ship, .int .i64 berth, .int .i64 fr, .int .i64 tt]] w fun e w' => e = .returned (.agg #[.int .i64 ship, .int .i64 berth, .int .i64 fr, .int .i64 tt]) ∧ Below w.heap.size w w' := by
  go_enter Try.func70, Try.ntmps70
  go_wp2
  refine bodyPost_ret (v := .agg #[.int .i64 ship, .int .i64 berth, .int .i64 fr, .int .i64 tt]) (by simp [results, Try.results70, go_sem]) rfl ⟨rfl, ?_⟩
  repeat (first | exact Below.refl _ _ | refine Below.setCell ?_ (by simp <;> omega) _ | refine Below.alloc ?_ (by simp <;> omega) _)
theorem eqStay_same (ship : Int) (berth : Int) (fr : Int) (tt : Int) (w : World) : Calls Try.prog 72 #[.agg #[.int .i64 ship, .int .i64 berth, .int .i64 fr, .int .i64 tt], .agg #[.int .i64 ship, .int .i64 berth, .int .i64 fr, .int .i64 tt]] w fun e w' => e = .returned (.bool true) ∧ Below w.heap.size w w' := by
  go_enter Try.func72, Try.ntmps72
  go_wp2
  go_ret
  exact ⟨rfl, Joins.below_alloc2 _ _ _⟩
set_option maxHeartbeats 1000000 in
theorem toStayS_any (v : Value) (l : List StayD) (w : World) (h : SlStay w v l) :
    Calls Try.prog 33 #[v] w (NewStay l w) := by
  obtain ⟨hl, h⟩ := h
  have hmk := make_stays l.length hl
  rcases h with ⟨rfl, A, c, rfl⟩ | ⟨g, o, c, rfl, hp, hcap, hc⟩
  · have hmk0 : ∀ W : World, (Instr.makeSlice 25 (.int .i64 0) (.int .i64 0)).run Try.prog W = .ok (.slice (some ⟨W.heap.size, 0, none⟩) 0 0) (W.alloc (.cells (madeCells #[.int .i64 0, .int .i64 0, .int .i64 0, .int .i64 0] (0 * 4)) 33)) := make_stays 0 (by omega)
    clear hmk
    go_enter Try.func33, Try.ntmps33
    go_wp2
    refine wp_loop_rounds 1 ?_
    rw [rounds_succ]
    go_wp2
    go_ret
    have h := World.ownsRow_lit (base := w.heap.size) (e := 33) (size := 4) w (madeCells #[.int .i64 0, .int .i64 0, .int .i64 0, .int .i64 0] (0 * 4)) 0 (Nat.le_refl _) (by decide) (by rw [size_madeCells])
    rw [show (madeCells #[Value.int .i64 0, .int .i64 0, .int .i64 0, .int .i64 0] (0 * 4)).toList = [] by simp [madeCells]] at h
    exact ⟨_, rfl, h, (Below.refl _ _).alloc (Nat.le_refl _) _⟩
  · have HC := Lib.hid hc
    clear hc
    go_enter Try.func33, Try.ntmps33
    go_wp2
    clear hmk
    go_loopw [4] (fun i wr => ∃ k : Nat, k ≤ l.length ∧ i = .int .i64 k ∧ Hid (wr.ownsRow w.heap.size 33 4 (.slice (some ⟨w.heap.size, 0, none⟩) l.length l.length) l.length (halfOf StayD.cells zeroStay l k)) ∧ Below w.heap.size w wr) (fun i _ => l.length - (intOf i).toNat)
    case atStart =>
      refine ⟨0, Nat.zero_le _, rfl, ?_, (Below.refl _ _).alloc (Nat.le_refl _) _⟩
      have h := World.ownsRow_lit (base := w.heap.size) (e := 33) (size := 4) w (madeCells #[.int .i64 0, .int .i64 0, .int .i64 0, .int .i64 0] (l.length * 4)) l.length (Nat.le_refl _) (by unfold maxLen; omega) (by rw [size_madeCells])
      have e := made_flat #[.int .i64 0, .int .i64 0, .int .i64 0, .int .i64 0] l.length
      rw [half_none]
      exact Lib.hid (e ▸ h)
    case round =>
      obtain ⟨k, hk, rfl, hown, hb⟩ := hrel
      by_cases hlt : k < l.length
      · obtain ⟨x, hx⟩ : ∃ x, l[k]? = some x := ⟨_, List.getElem?_eq_getElem hlt⟩
        obtain ⟨q0, q1, q2, q3⟩ := SlStay.cells HC.out k x hx
        have hlt2 : g < w.heap.size := World.block_lt_of_cell? w ⟨g, o + k * 4, none⟩ q0
        have c0 := (hb.cell (p := ⟨g, o + k * 4, none⟩) hlt2).trans q0
        have c1 := (hb.cell (p := ⟨g, o + k * 4 + 1, none⟩) hlt2).trans q1
        have c2 := (hb.cell (p := ⟨g, o + k * 4 + 2, none⟩) hlt2).trans q2
        have c3 := (hb.cell (p := ⟨g, o + k * 4 + 3, none⟩) hlt2).trans q3
        have Hx := Lib.hid hx
        clear q0 q1 q2 q3 hx
        go_wp2_with fail
        refine (toStay_any _ _ _ _ _).mono ?_
        rintro e w1 ⟨rfl, hb1⟩
        have own1 := ownsRow_below hown.out hb1
        have B1 : Below w.heap.size w w1 := hb.trans (hb1.mono hb.size)
        have s0 : w1.cell? ⟨w.heap.size, k * 4, none⟩ = some (.int .i64 0) := (World.ownsRow.cellAt own1 (k * 4) (by omega)).trans (half_at stayLen l k hlt 0 _ rfl)
        have s1 : w1.cell? ⟨w.heap.size, k * 4 + 1, none⟩ = some (.int .i64 0) := (World.ownsRow.cellAt own1 (k * 4 + 1) (by omega)).trans (half_at stayLen l k hlt 1 _ rfl)
        have s2 : w1.cell? ⟨w.heap.size, k * 4 + 2, none⟩ = some (.int .i64 0) := (World.ownsRow.cellAt own1 (k * 4 + 2) (by omega)).trans (half_at stayLen l k hlt 2 _ rfl)
        have s3 : w1.cell? ⟨w.heap.size, k * 4 + 3, none⟩ = some (.int .i64 0) := (World.ownsRow.cellAt own1 (k * 4 + 3) (by omega)).trans (half_at stayLen l k hlt 3 _ rfl)
        have z0 : w1.frozen? ⟨w.heap.size, k * 4, none⟩ = false := World.ownsRow.frozenAt own1 _
        have z1 : w1.frozen? ⟨w.heap.size, k * 4 + 1, none⟩ = false := World.ownsRow.frozenAt own1 _
        have z2 : w1.frozen? ⟨w.heap.size, k * 4 + 2, none⟩ = false := World.ownsRow.frozenAt own1 _
        have z3 : w1.frozen? ⟨w.heap.size, k * 4 + 3, none⟩ = false := World.ownsRow.frozenAt own1 _
        have hst := (World.ownsRow.stored (World.ownsRow.stored (World.ownsRow.stored (World.ownsRow.stored own1 (k * 4) (.int .i64 x.ship)).1 (k * 4 + 1) (.int .i64 x.berth)).1 (k * 4 + 2) (.int .i64 x.fr)).1 (k * 4 + 3) (.int .i64 x.tt)).1
        have e := half_set stayLen (zc := zeroStay) rfl l k x Hx.out
        have HO := Lib.hid ((show (((((halfOf StayD.cells zeroStay l k).set (k * 4) (.int .i64 x.ship)).set (k * 4 + 1) (.int .i64 x.berth)).set (k * 4 + 2) (.int .i64 x.fr)).set (k * 4 + 3) (.int .i64 x.tt)) = halfOf StayD.cells zeroStay l (k + 1) from e) ▸ hst)
        have HB := Lib.hid ((((B1.setCell (p := ⟨w.heap.size, k * 4, none⟩) (Nat.le_refl _) (.int .i64 x.ship)).setCell (p := ⟨w.heap.size, k * 4 + 1, none⟩) (Nat.le_refl _) (.int .i64 x.berth)).setCell (p := ⟨w.heap.size, k * 4 + 2, none⟩) (Nat.le_refl _) (.int .i64 x.fr)).setCell (p := ⟨w.heap.size, k * 4 + 3, none⟩) (Nat.le_refl _) (.int .i64 x.tt))
        clear own1 hst e hb1 B1
        go_wp2
        go_roundw
        case rel => exact ⟨k + 1, by omega, by go_num, HO, HB.out⟩
        case measure => simp [intOf]; omega
      · go_wp2
        go_ret
        obtain rfl : k = l.length := by omega
        have ho := hown.out
        rw [half_full] at ho
        exact ⟨_, rfl, ho, hb⟩
def bulkStay (_ : List StayD) : Int := 0
theorem szStayS_any (A : Option Addr) (l : List StayD) (c : Nat) (w : World) (hl : l.length ≤ 9223372036854775807) (_ : l.length ≤ 1000000000 → SlStay w (.slice A l.length c) l) (lim : Int) (h0 : 0 ≤ lim) (h1 : lim ≤ 1048576) :
    Calls Try.prog 30 #[.slice A l.length c, .int .i64 lim] w fun e w' => e = .returned (.int .i64 (leftOf lim ((l.length : Int) + bulkStay l))) ∧ Below w.heap.size w w' := by
  have e : (l.length : Int) + bulkStay l = (l.length : Int) := by unfold bulkStay; omega
  rw [e]
  generalize l.length = n at *
  by_cases hlt : lim < (n : Int)
  · rw [leftOf_no hlt]
    go_enter Try.func30, Try.ntmps30
    go_wp2
    go_ret
    exact ⟨rfl, Below.refl _ _⟩
  · rw [leftOf_yes hlt]
    go_enter Try.func30, Try.ntmps30
    go_wp2
    go_ret
    exact ⟨rfl, Below.refl _ _⟩
theorem bulkStay_pos (l : List StayD) : 0 ≤ bulkStay l := Int.le_refl _
set_option maxHeartbeats 1000000 in
theorem eqStayS_same (va vb : Value) (l : List StayD) (w : World) (ha : SlStay w va l) (hb : SlStay w vb l) :
    Calls Try.prog 35 #[va, vb] w fun e w' => e = .returned (.bool true) ∧ Below w.heap.size w w' := by
  obtain ⟨hl, ha⟩ := ha
  obtain ⟨_, hb⟩ := hb
  rcases ha with ⟨rfl, A, c, rfl⟩ | ⟨g, o, c, rfl, hp, _, hca⟩
  · rcases hb with ⟨_, A', c', rfl⟩ | ⟨g', o', c', rfl, hp, _, _⟩
    · go_enter Try.func35, Try.ntmps35
      go_wp2
      refine wp_loop_rounds 1 ?_
      rw [rounds_succ]
      go_wp2
      go_ret
      exact ⟨rfl, Below.refl _ _⟩
    · exact absurd hp (by simp)
  · rcases hb with ⟨rfl, A', c', rfl⟩ | ⟨g', o', c', rfl, _, _, hcb⟩
    · exact absurd hp (by simp)
    · have HA := Lib.hid hca
      have HB := Lib.hid hcb
      clear hca hcb
      go_enter Try.func35, Try.ntmps35
      go_wp2
      go_loopw [5] (fun i wr => ∃ k : Nat, k ≤ l.length ∧ i = .int .i64 k ∧ Below w.heap.size w wr) (fun i _ => l.length - (intOf i).toNat)
      case atStart => exact ⟨0, Nat.zero_le _, rfl, Below.refl _ _⟩
      case round =>
        obtain ⟨k, hk, rfl, hb⟩ := hrel
        by_cases hlt : k < l.length
        · obtain ⟨x, hx⟩ : ∃ x, l[k]? = some x := ⟨_, List.getElem?_eq_getElem hlt⟩
          obtain ⟨p0, p1, p2, p3⟩ := SlStay.cells HA.out k x hx
          obtain ⟨q0, q1, q2, q3⟩ := SlStay.cells HB.out k x hx
          have hg : g < w.heap.size := World.block_lt_of_cell? w ⟨g, o + k * 4, none⟩ p0
          have hg' : g' < w.heap.size := World.block_lt_of_cell? w ⟨g', o' + k * 4, none⟩ q0
          have a0 := (hb.cell (p := ⟨g, o + k * 4, none⟩) hg).trans p0
          have a1 := (hb.cell (p := ⟨g, o + k * 4 + 1, none⟩) hg).trans p1
          have a2 := (hb.cell (p := ⟨g, o + k * 4 + 2, none⟩) hg).trans p2
          have a3 := (hb.cell (p := ⟨g, o + k * 4 + 3, none⟩) hg).trans p3
          have b0 := (hb.cell (p := ⟨g', o' + k * 4, none⟩) hg').trans q0
          have b1 := (hb.cell (p := ⟨g', o' + k * 4 + 1, none⟩) hg').trans q1
          have b2 := (hb.cell (p := ⟨g', o' + k * 4 + 2, none⟩) hg').trans q2
          have b3 := (hb.cell (p := ⟨g', o' + k * 4 + 3, none⟩) hg').trans q3
          have hbs := hb.size
          clear p0 q0 p1 q1 p2 q2 p3 q3 hx
          go_wp2
          go_still_tail 8, (by kernel_rfl)
          change wpList _ _ _ _ _ wr.drew
          have hd := hb.drew
          generalize wr.drew = w2 at hd ⊢
          have hds := hd.size
          clear a0 b0 a1 b1 a2 b2 a3 b3 hb hbs
          go_wp2_with fail
          refine (eqStay_same _ _ _ _ _).mono ?_
          rintro e w3 ⟨rfl, hb3⟩
          have B3 := Lib.hid (hd.trans (hb3.mono hds))
          clear hb3 hd hds
          go_wp2
          go_roundw
          case rel => exact ⟨k + 1, by omega, by go_num, B3.out⟩
          case measure => simp [intOf]; omega
        · go_wp2
          go_ret
          exact ⟨rfl, hb⟩
/-- What the marking that begins with k writes into cell j. -/
def mvStay (k : Int) (j : Nat) : Value := if j % 4 = 0 then .int .i64 (k + (j : Int)) else if j % 4 = 1 then .int .i64 (k + (j : Int)) else if j % 4 = 2 then .int .i64 (k + (j : Int)) else .int .i64 (k + (j : Int))
theorem mvStay_0 (k : Int) (j : Nat) : mvStay k (j * 4) = .int .i64 (k + (j : Int) * 4) := by
  unfold mvStay
  rw [if_pos (by omega), show k + ((j * 4 : Nat) : Int) = k + (j : Int) * 4 by omega]
theorem mvStay_1 (k : Int) (j : Nat) : mvStay k (j * 4 + 1) = .int .i64 (k + (j : Int) * 4 + 1) := by
  unfold mvStay
  rw [if_neg (by omega), if_pos (by omega), show k + ((j * 4 + 1 : Nat) : Int) = k + (j : Int) * 4 + 1 by omega]
theorem mvStay_2 (k : Int) (j : Nat) : mvStay k (j * 4 + 2) = .int .i64 (k + (j : Int) * 4 + 2) := by
  unfold mvStay
  rw [if_neg (by omega), if_neg (by omega), if_pos (by omega), show k + ((j * 4 + 2 : Nat) : Int) = k + (j : Int) * 4 + 2 by omega]
theorem mvStay_3 (k : Int) (j : Nat) : mvStay k (j * 4 + 3) = .int .i64 (k + (j : Int) * 4 + 3) := by
  unfold mvStay
  rw [if_neg (by omega), if_neg (by omega), if_neg (by omega), show k + ((j * 4 + 3 : Nat) : Int) = k + (j : Int) * 4 + 3 by omega]
set_option maxHeartbeats 4000000 in
theorem markStayS_any (v : Value) (l : List StayD) (k : Int) (w : World) (h : SlStay w v l) (hfz : ∀ g, v.ownBlock = some g → ∀ j, w.frozen? ⟨g, j, none⟩ = false) (h0 : 0 ≤ k) (h1 : k ≤ 100000000) (h2 : l.length ≤ 10000000) :
    Calls Try.prog 39 #[v, .int .i64 k] w fun e w' => e = .returned (.int .i64 (k + (l.length : Int) * 4)) ∧ MarkedV w' v (l.length * 4) (mvStay k) ∧ w.grownBy w' v.ownBlock := by
  obtain ⟨hl, h⟩ := h
  rcases h with ⟨rfl, A, c, rfl⟩ | ⟨g, o, c, rfl, hp, hcap, hc⟩
  · go_enter Try.func39, Try.ntmps39
    go_wp2
    refine wp_loop_rounds 1 ?_
    rw [rounds_succ]
    go_wp2
    go_ret
    exact ⟨ret_int (by simp), .inl (by simp), World.grownBy.refl _ _⟩
  · have hs : MarkRowV w g o (l.length * 4) (mvStay k) (0 * 4) w := MarkRowV.start (vals_of (by omega) stayLen hc) (by omega) (fun j => hfz g rfl j)
    have HS := Lib.hid hs
    clear hs hc hfz
    go_enter Try.func39, Try.ntmps39
    go_wp2
    go_loopw [1, 5] (fun q i wr => ∃ j : Nat, j ≤ l.length ∧ i = .int .i64 j ∧ q = .int .i64 (k + (j : Int) * 4) ∧ Hid (MarkRowV w g o (l.length * 4) (mvStay k) (j * 4) wr)) (fun _ i _ => l.length - (intOf i).toNat)
    case atStart => exact ⟨0, Nat.zero_le _, rfl, by simp, HS⟩
    case round =>
      obtain ⟨j, hj, rfl, rfl, hM⟩ := hrel
      by_cases hlt : j < l.length
      · clear HS
        obtain ⟨x0, c0⟩ := hM.out.read (j * 4 + 0) (by omega) (by omega) (o + j * 4) (by omega)
        have f0 := hM.out.2.2.2.1 (o + j * 4)
        have M0 := Lib.hid (hM.out.next (by omega) (o + j * 4) (by omega) (.int .i64 (k + (j : Int) * 4)) (by rw [mvStay_0]) (j * 4 + 1) rfl)
        obtain ⟨x1, c1⟩ := M0.out.read (j * 4 + 1) (by omega) (by omega) (o + j * 4 + 1) (by omega)
        have f1 := M0.out.2.2.2.1 (o + j * 4 + 1)
        have M1 := Lib.hid (M0.out.next (by omega) (o + j * 4 + 1) (by omega) (.int .i64 (k + (j : Int) * 4 + 1)) (by rw [mvStay_1]) (j * 4 + 2) rfl)
        obtain ⟨x2, c2⟩ := M1.out.read (j * 4 + 2) (by omega) (by omega) (o + j * 4 + 2) (by omega)
        have f2 := M1.out.2.2.2.1 (o + j * 4 + 2)
        have M2 := Lib.hid (M1.out.next (by omega) (o + j * 4 + 2) (by omega) (.int .i64 (k + (j : Int) * 4 + 1 + 1)) (by rw [mvStay_2]; congr 1; omega) (j * 4 + 3) rfl)
        obtain ⟨x3, c3⟩ := M2.out.read (j * 4 + 3) (by omega) (by omega) (o + j * 4 + 3) (by omega)
        have f3 := M2.out.2.2.2.1 (o + j * 4 + 3)
        have M3 := Lib.hid (M2.out.next (by omega) (o + j * 4 + 3) (by omega) (.int .i64 (k + (j : Int) * 4 + 1 + 1 + 1)) (by rw [mvStay_3]; congr 1; omega) (j * 4 + 4) rfl)
        go_wp2
        go_roundw
        case rel =>
          refine ⟨j + 1, by omega, by go_num, ?_, ?_⟩
          · exact congrArg (Value.int .i64) (by omega)
          · rw [show (j + 1) * 4 = j * 4 + 4 by omega]; exact M3
        case measure => simp [intOf]; omega
      · go_wp2
        go_ret
        obtain rfl : j = l.length := by omega
        exact ⟨rfl, .inr ⟨g, o, l.length, c, rfl, hM.out.2.1⟩, hM.out.1⟩
section
variable {H : Type} {enc : TypeId × Value → H} {w : World} {base : Nat} {spare : Nat → Bool} {held : Bool}
def StayD.wf (d : StayD) : Prop := (Lit.int .i64 d.ship).wf = true ∧ (Lit.int .i64 d.berth).wf = true ∧ (Lit.int .i64 d.fr).wf = true ∧ (Lit.int .i64 d.tt).wf = true
theorem dec_stay (n : Nat) (cs : List Value) (y : DataW H × List MemPlace) (h : DataW.trod enc Try.prog w base spare held n 96 cs = some y) : ∃ d : StayD, cs = d.cells ∧ d.wf := by
  obtain ⟨hl, hf⟩ := struct_cells Try.underlying96 (by kernel_rfl) (by kernel_rfl) h
  obtain ⟨v0, n0, y0, e0, h0⟩ := hf 0 _ rfl
  obtain ⟨v1, n1, y1, e1, h1⟩ := hf 1 _ rfl
  obtain ⟨v2, n2, y2, e2, h2⟩ := hf 2 _ rfl
  obtain ⟨v3, n3, y3, e3, h3⟩ := hf 3 _ rfl
  obtain ⟨a0, ha0, _, wa0⟩ := DataW.trod_int Try.underlying3 h0
  obtain ⟨a1, ha1, _, wa1⟩ := DataW.trod_int Try.underlying3 h1
  obtain ⟨a2, ha2, _, wa2⟩ := DataW.trod_int Try.underlying3 h2
  obtain ⟨a3, ha3, _, wa3⟩ := DataW.trod_int Try.underlying3 h3
  simp only [List.cons.injEq, and_true] at ha0 ha1 ha2 ha3
  subst ha0 ha1 ha2 ha3
  refine ⟨⟨a0, a1, a2, a3⟩, ?_, wa0, wa1, wa2, wa3⟩
  match cs, hl with
  | [c0, c1, c2, c3], _ =>
    simp at e0 e1 e2 e3
    subst e0 e1 e2 e3
    rfl
theorem open_stays {fuel : Nat} {v : Value} {x : DataW H × List MemPlace} (h : DataW.trod enc Try.prog w base (fun _ => true) held fuel 58 [v] = some x) :
    ∃ A c l, v = .slice A l.length c ∧ l.length ≤ maxLen ∧ (l.length ≤ 1000000000 → SlStay w (.slice A l.length c) l) ∧ ∀ d ∈ l, StayD.wf d :=
  open_elems StayD.cells 4 StayD.wf Try.underlying58 (by kernel_rfl) stayLen (by omega) dec_stay h
end
end Go.Proofs.Ytghjfcnboocmjaa
namespace Go.Proofs.Ytghjfcnboocmjaa
open Go.ChangeShapes Go.WideShapes Go.ChangeAt Go.Deep Go.RowKit
set_option maxRecDepth 100000
structure ShipD where
  name : ByteArray
  length : Int
  draught : Int
  line : Int
  tugs : Int
  slow : Bool
@[reducible] def ShipD.val (d : ShipD) : Value := .agg #[.string d.name, .int .i64 d.length, .int .i64 d.draught, .int .i64 d.line, .int .i64 d.tugs, .bool d.slow]
@[reducible] def ShipD.cells (d : ShipD) : List Value := [.string d.name, .int .i64 d.length, .int .i64 d.draught, .int .i64 d.line, .int .i64 d.tugs, .bool d.slow]
theorem shipLen (d : ShipD) : d.cells.length = 6 := rfl
theorem ship_one (x : ShipD) : ∀ v ∈ x.cells, v.oneCell' = true := fun v hv => by simp at hv; rcases hv with rfl | rfl | rfl | rfl | rfl | rfl <;> rfl
def SlShip : World → Value → List ShipD → Prop := SlOf 6 ShipD.cells
def OwnShip : World → Nat → Value → List ShipD → Prop := OwnOf 6 ShipD.cells 43
theorem SlShip.at {w : World} {v : Value} {l : List ShipD} (h : SlShip w v l) : ∃ A c, v = .slice A l.length c := SlOf.form h
theorem SlShip.below {w w' : World} {v : Value} {l : List ShipD} (h : SlShip w v l) (hb : Below w.heap.size w w') : SlShip w' v l := SlOf.below h hb
theorem OwnShip.sl {w : World} {base : Nat} {v : Value} {l : List ShipD} (h : OwnShip w base v l) (hl : l.length ≤ 1000000000) : SlShip w v l := own_sl shipLen h hl
theorem SlShip.cells {w : World} {l : List ShipD} {g o : Nat} (hc : ∀ i x, l[i]? = some x → ∀ j u, (ShipD.cells x)[j]? = some u → w.cell? ⟨g, o + i * 6 + j, none⟩ = some u) (i : Nat) (x : ShipD) (hx : l[i]? = some x) :
    w.cell? ⟨g, o + i * 6, none⟩ = some (.string x.name) ∧ w.cell? ⟨g, o + i * 6 + 1, none⟩ = some (.int .i64 x.length) ∧ w.cell? ⟨g, o + i * 6 + 2, none⟩ = some (.int .i64 x.draught) ∧ w.cell? ⟨g, o + i * 6 + 3, none⟩ = some (.int .i64 x.line) ∧ w.cell? ⟨g, o + i * 6 + 4, none⟩ = some (.int .i64 x.tugs) ∧ w.cell? ⟨g, o + i * 6 + 5, none⟩ = some (.bool x.slow) :=
  ⟨hc i x hx 0 _ rfl, hc i x hx 1 _ rfl, hc i x hx 2 _ rfl, hc i x hx 3 _ rfl, hc i x hx 4 _ rfl, hc i x hx 5 _ rfl⟩
theorem info_ship : (Try.prog.info? 43).map (fun i => (i.zero, i.size, i.bytes)) = some (some (.agg #[.string ⟨#[]⟩, .int .i64 0, .int .i64 0, .int .i64 0, .int .i64 0, .bool false]), 6, 56) := by kernel_rfl
section
variable {H : Type} {enc : TypeId × Value → H} {w : World} {base : Nat} {spare : Nat → Bool} {held : Bool}
def ShipD.wf (d : ShipD) : Prop := d.name.size ≤ maxLen ∧ (Lit.int .i64 d.length).wf = true ∧ (Lit.int .i64 d.draught).wf = true ∧ (Lit.int .i64 d.line).wf = true ∧ (Lit.int .i64 d.tugs).wf = true
end
end Go.Proofs.Ytghjfcnboocmjaa
namespace Go.Proofs.Ytghjfcnboocmjaa
open Go.RowKit
theorem l01In_nm (n lo hi : Int) (w : World) :
    Calls Try.prog 65 #[.int .i64 n, .int .i64 lo, .int .i64 hi] w fun e w' => e = .returned (.bool (nmIn n lo hi)) ∧ w = w' := by
  by_cases h1 : lo ≤ n
  · by_cases h2 : n ≤ hi
    · have hn := Lib.hid (show nmIn n lo hi = true from decide_eq_true ⟨h1, h2⟩)
      go_enter Try.func65, Try.ntmps65
      go_wp2
      go_ret
      exact ⟨ret_bool hn.out.symm, rfl⟩
    · have hn := Lib.hid (show nmIn n lo hi = false from decide_eq_false fun h => h2 h.2)
      go_enter Try.func65, Try.ntmps65
      go_wp2
      go_ret
      exact ⟨ret_bool hn.out.symm, rfl⟩
  · have hn := Lib.hid (show nmIn n lo hi = false from decide_eq_false fun h => h1 h.1)
    go_enter Try.func65, Try.ntmps65
    go_wp2
    go_ret
    exact ⟨ret_bool hn.out.symm, rfl⟩
set_option maxHeartbeats 1000000 in
theorem specIsName (s : ByteArray) (w : World) (hs : s.size ≤ maxLen) :
    Calls Try.prog 64 #[.string s] w fun e w' => e = .returned (.bool (nameB s)) ∧ w = w' := by
  unfold maxLen at hs
  go_enter Try.func64, Try.ntmps64
  go_wp2
  go_loop [3] (fun i => ∃ k : Nat, k ≤ s.size ∧ i = .int .i64 k ∧ Hid (preB (s.data.toList.take k) = true)) (fun i => s.size - (intOf i).toNat)
  case atStart => exact ⟨0, Nat.zero_le _, rfl, rfl⟩
  case round =>
    obtain ⟨k, hk, rfl, hd⟩ := hrel
    by_cases hlt : k < s.size
    · have hst := Lib.hid (nm_step s k hlt hd.out)
      by_cases h1 : 97 ≤ (s[k].toNat : Int) ∧ (s[k].toNat : Int) ≤ 122
      · obtain ⟨h1, h2⟩ := h1
        have hy := Lib.hid (hst.out.trans (nmAt_letter k h1 h2))
        clear hst
        go_wp2
        go_round
        case rel => exact ⟨k + 1, by omega, by go_num, hy⟩
        case measure => simp [intOf]; omega
      · have hl : (s[k].toNat : Int) < 97 ∨ 122 < (s[k].toNat : Int) := by omega
        by_cases hd2 : (48 ≤ (s[k].toNat : Int) ∧ (s[k].toNat : Int) ≤ 57) ∧ k ≠ 0
        · obtain ⟨⟨h3, h4⟩, h5⟩ := hd2
          have hy := Lib.hid (hst.out.trans (nmAt_digit h5 h3 h4))
          have h97 : ¬ 97 ≤ (s[k].toNat : Int) := by omega
          have hz : ((k : Int) == 0) = false := by simpa using h5
          clear hst hl h1 h5
          go_wp2
          go_round
          case rel => exact ⟨k + 1, by omega, by go_num, hy⟩
          case measure => simp [intOf]; omega
        · have hno : nmAt k (s[k].toNat : Int) = false := by
            by_cases hk0 : k = 0
            · subst hk0; exact nmAt_zero hl
            · exact nmAt_other k hl (by omega)
          have hn := Lib.hid (nm_not s k hlt hno)
          clear hst hno
          have hcase : (k = 0) ∨ (k ≠ 0 ∧ ((s[k].toNat : Int) < 48 ∨ 57 < (s[k].toNat : Int))) := by omega
          clear hd2 h1
          rcases hl with hl | hl
          · have h97 : ¬ 97 ≤ (s[k].toNat : Int) := by omega
            rcases hcase with h0 | ⟨h0, hq | hq⟩
            · have hz : ((k : Int) == 0) = true := by simpa using h0
              clear h0
              go_wp2
              go_ret
              exact ⟨ret_bool hn.out.symm, rfl⟩
            · have hz : ((k : Int) == 0) = false := by simpa using h0
              clear h0
              go_wp2
              go_ret
              exact ⟨ret_bool hn.out.symm, rfl⟩
            · have hz : ((k : Int) == 0) = false := by simpa using h0
              have hq' : ¬ (s[k].toNat : Int) < 48 := by omega
              clear h0
              go_wp2
              go_ret
              exact ⟨ret_bool hn.out.symm, rfl⟩
          · have h97 : 97 ≤ (s[k].toNat : Int) := by omega
            have h122 : ¬ (s[k].toNat : Int) ≤ 122 := by omega
            have h48 : ¬ (s[k].toNat : Int) < 48 := by omega
            have h57 : 57 < (s[k].toNat : Int) := by omega
            clear hcase
            by_cases h0 : k = 0
            · have hz : ((k : Int) == 0) = true := by simpa using h0
              clear h0
              go_wp2
              go_ret
              exact ⟨ret_bool hn.out.symm, rfl⟩
            · have hz : ((k : Int) == 0) = false := by simpa using h0
              clear h0
              go_wp2
              go_ret
              exact ⟨ret_bool hn.out.symm, rfl⟩
    · have hn := Lib.hid (nm_end s k (by omega) hd.out)
      go_wp2_with (go_at_call 65; refine (l01In_nm _ _ _ _).mono ?_; rintro e w' ⟨rfl, rfl⟩)
      go_ret
      exact ⟨ret_bool (Eq.trans (show nmIn (s.size : Int) 1 8 = decide (1 ≤ s.size ∧ s.size ≤ 8) from decide_eq_decide.2 (by omega)) hn.out.symm), rfl⟩
end Go.Proofs.Ytghjfcnboocmjaa
namespace Go.Proofs.Ytghjfcnboocmjaa
open Go.RowKit
/-- Two slices in different blocks. -/
def ApartV (v u : Value) : Prop := ∀ g, v.ownBlock = some g → u.ownBlock ≠ some g
theorem cell_onV {a b : World} {p : Addr} {v : Value} (h : a.cell? p = some v) (hb : Below a.heap.size a b) : b.cell? p = some v := (hb.cell (World.block_lt_of_cell? a _ h)).trans h
/-- A slice whose block nothing has frozen. -/
def FreeV (w : World) (v : Value) : Prop := ∀ g, v.ownBlock = some g → (∀ j, w.frozen? ⟨g, j, none⟩ = false) ∧ g < w.heap.size
theorem FreeV.below {w w' : World} {v : Value} (h : FreeV w v) (hb : Below w.heap.size w w') : FreeV w' v := fun g hg =>
  ⟨fun j => (hb.frozen (p := ⟨g, j, none⟩) (h g hg).2).trans ((h g hg).1 j), Nat.lt_of_lt_of_le (h g hg).2 hb.size⟩
theorem FreeV.grown {w w' : World} {v : Value} {row : Option Nat} (h : FreeV w v) (hg : w.grownBy w' row) (hne : v.ownBlock = none ∨ v.ownBlock ≠ row) : FreeV w' v := fun g hgv => by
  have e := hg.block g (h g hgv).2 (fun e => by
    rcases hne with hn | hn
    · rw [hgv] at hn; cases hn
    · exact hn (hgv.trans e))
  refine ⟨fun j => ?_, Nat.lt_of_lt_of_le (h g hgv).2 hg.size⟩
  have := (h g hgv).1 j
  simpa [World.frozen?, e] using this
theorem own_freeV {α : Type} {k : Nat} {cs : α → List Value} {t : TypeId} {w : World} {base : Nat} {v : Value} {l : List α} (h : OwnOf k cs t w base v l) : FreeV w v := by
  intro g hg
  rcases Joins.ownsRow_forms h with ⟨rfl, _⟩ | ⟨g', cap, rfl⟩
  · simp [Value.ownBlock] at hg
  · have e : g' = g := by simpa [Value.ownBlock] using hg
    subst e
    exact ⟨fun j => World.ownsRow.frozenAt h _, (World.ownsRow.lt h g' hg).2⟩
end Go.Proofs.Ytghjfcnboocmjaa
