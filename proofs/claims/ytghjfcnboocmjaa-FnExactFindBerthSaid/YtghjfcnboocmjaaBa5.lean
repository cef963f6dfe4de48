
/- What ExactStaysOk and ExactFindBerth and ExactAllotBerths and ExactBerthLoad rests on, part 5: contracts and mathematics. -/
import Derived.Test.YtghjfcnboocmjaaBa1
import Derived.Test.YtghjfcnboocmjaaBa2
import Derived.StillTailTactics
namespace Go.Proofs.Ytghjfcnboocmjaa
open Go.ChangeShapes Go.WideShapes Go.ChangeAt Go.Deep Go.RowKit
set_option maxRecDepth 100000
structure ShipD where
  name : ByteArray
  length : Int
  draught : Int
  line : Int
  tugs : Int
  slow : Bool
@[reducible] def ShipD.val (d : ShipD) : Value := .agg #[.string d.name, .int .i64 d.length, .int .i64 d.draught, .int .i64 d.line, .int .i64 d.tugs, .bool d.slow]
@[reducible] def ShipD.cells (d : ShipD) : List Value := [.string d.name, .int .i64 d.length, .int .i64 d.draught, .int .i64 d.line, .int .i64 d.tugs, .bool d.slow]
theorem shipLen (d : ShipD) : d.cells.length = 6 := rfl
def SlShip : World → Value → List ShipD → Prop := SlOf 6 ShipD.cells
def OwnShip : World → Nat → Value → List ShipD → Prop := OwnOf 6 ShipD.cells 43
def NewShip : List ShipD → World → Ending → World → Prop := NewOf 6 ShipD.cells 43
theorem SlShip.at {w : World} {v : Value} {l : List ShipD} (h : SlShip w v l) : ∃ A c, v = .slice A l.length c := SlOf.form h
theorem SlShip.below {w w' : World} {v : Value} {l : List ShipD} (h : SlShip w v l) (hb : Below w.heap.size w w') : SlShip w' v l := SlOf.below h hb
theorem OwnShip.sl {w : World} {base : Nat} {v : Value} {l : List ShipD} (h : OwnShip w base v l) (hl : l.length ≤ 1000000000) : SlShip w v l := own_sl shipLen h hl
theorem SlShip.cells {w : World} {l : List ShipD} {g o : Nat} (hc : ∀ i x, l[i]? = some x → ∀ j u, (ShipD.cells x)[j]? = some u → w.cell? ⟨g, o + i * 6 + j, none⟩ = some u) (i : Nat) (x : ShipD) (hx : l[i]? = some x) :
    w.cell? ⟨g, o + i * 6, none⟩ = some (.string x.name) ∧ w.cell? ⟨g, o + i * 6 + 1, none⟩ = some (.int .i64 x.length) ∧ w.cell? ⟨g, o + i * 6 + 2, none⟩ = some (.int .i64 x.draught) ∧ w.cell? ⟨g, o + i * 6 + 3, none⟩ = some (.int .i64 x.line) ∧ w.cell? ⟨g, o + i * 6 + 4, none⟩ = some (.int .i64 x.tugs) ∧ w.cell? ⟨g, o + i * 6 + 5, none⟩ = some (.bool x.slow) :=
  ⟨hc i x hx 0 _ rfl, hc i x hx 1 _ rfl, hc i x hx 2 _ rfl, hc i x hx 3 _ rfl, hc i x hx 4 _ rfl, hc i x hx 5 _ rfl⟩
def zeroShip : List Value := [.string ⟨#[]⟩, .int .i64 0, .int .i64 0, .int .i64 0, .int .i64 0, .bool false]
theorem info_ship : (Try.prog.info? 43).map (fun i => (i.zero, i.size, i.bytes)) = some (some (.agg #[.string ⟨#[]⟩, .int .i64 0, .int .i64 0, .int .i64 0, .int .i64 0, .bool false]), 6, 56) := by kernel_rfl
theorem make_ships (n : Nat) (hn : n ≤ 1000000000) (W : World) :
    (Instr.makeSlice 24 (.int .i64 (n : Int)) (.int .i64 (n : Int))).run Try.prog W = .ok (.slice (some ⟨W.heap.size, 0, none⟩) n n) (W.alloc (.cells (madeCells #[.string ⟨#[]⟩, .int .i64 0, .int .i64 0, .int .i64 0, .int .i64 0, .bool false] (n * 6)) 43)) := by
  obtain ⟨i0, hi, hz0, hz1, hz2⟩ := info_parts info_ship
  have hr := run_make (P := Try.prog) W 24 43 i0 _ Try.underlying24 hi hz0 .i64 .i64 n n (by omega) (Int.le_refl _) (by rw [hz2]; omega) (by omega)
  simp only [Int.toNat_natCast, hz1] at hr
  exact hr
theorem toShip_any (name : ByteArray) (length : Int) (draught : Int) (line : Int) (tugs : Int) (slow : Bool) (w : World) : Calls Try.prog 28 #[.agg #[.string name, .int .i64 length, .int .i64 draught, .int .i64 line, .int .i64 tugs, .bool slow]] w fun e w' => e = .returned (.agg #[.string name, .int .i64 length, .int .i64 draught, .int .i64 line, .int .i64 tugs, .bool slow]) ∧ Below w.heap.size w w' := by
  go_enter Try.func28, Try.ntmps28
  go_wp2
  refine bodyPost_ret (v := .agg #[.string name, .int .i64 length, .int .i64 draught, .int .i64 line, .int .i64 tugs, .bool slow]) (by simp [results, Try.results28, go_sem]) rfl ⟨rfl, ?_⟩
  repeat (first | exact Below.refl _ _ | refine Below.setCell ?_ (by simp <;> omega) _ | refine Below.alloc ?_ (by simp <;> omega) _)
theorem eqShip_same (name : ByteArray) (length : Int) (draught : Int) (line : Int) (tugs : Int) (slow : Bool) (w : World) : Calls Try.prog 71 #[.agg #[.string name, .int .i64 length, .int .i64 draught, .int .i64 line, .int .i64 tugs, .bool slow], .agg #[.string name, .int .i64 length, .int .i64 draught, .int .i64 line, .int .i64 tugs, .bool slow]] w fun e w' => e = .returned (.bool true) ∧ Below w.heap.size w w' := by
  go_enter Try.func71, Try.ntmps71
  go_wp2
  go_ret
  exact ⟨rfl, Joins.below_alloc2 _ _ _⟩
set_option maxHeartbeats 1000000 in
theorem toShipS_any (v : Value) (l : List ShipD) (w : World) (h : SlShip w v l) :
    Calls Try.prog 32 #[v] w (NewShip l w) := by
  obtain ⟨hl, h⟩ := h
  have hmk := make_ships l.length hl
  rcases h with ⟨rfl, A, c, rfl⟩ | ⟨g, o, c, rfl, hp, hcap, hc⟩
  · have hmk0 : ∀ W : World, (Instr.makeSlice 24 (.int .i64 0) (.int .i64 0)).run Try.prog W = .ok (.slice (some ⟨W.heap.size, 0, none⟩) 0 0) (W.alloc (.cells (madeCells #[.string ⟨#[]⟩, .int .i64 0, .int .i64 0, .int .i64 0, .int .i64 0, .bool false] (0 * 6)) 43)) := make_ships 0 (by omega)
    clear hmk
    go_enter Try.func32, Try.ntmps32
    go_wp2
    refine wp_loop_rounds 1 ?_
    rw [rounds_succ]
    go_wp2
    go_ret
    have h := World.ownsRow_lit (base := w.heap.size) (e := 43) (size := 6) w (madeCells #[.string ⟨#[]⟩, .int .i64 0, .int .i64 0, .int .i64 0, .int .i64 0, .bool false] (0 * 6)) 0 (Nat.le_refl _) (by decide) (by rw [size_madeCells])
    rw [show (madeCells #[Value.string ⟨#[]⟩, .int .i64 0, .int .i64 0, .int .i64 0, .int .i64 0, .bool false] (0 * 6)).toList = [] by simp [madeCells]] at h
    exact ⟨_, rfl, h, (Below.refl _ _).alloc (Nat.le_refl _) _⟩
  · have HC := Lib.hid hc
    clear hc
    go_enter Try.func32, Try.ntmps32
    go_wp2
    clear hmk
    go_loopw [4] (fun i wr => ∃ k : Nat, k ≤ l.length ∧ i = .int .i64 k ∧ Hid (wr.ownsRow w.heap.size 43 6 (.slice (some ⟨w.heap.size, 0, none⟩) l.length l.length) l.length (halfOf ShipD.cells zeroShip l k)) ∧ Below w.heap.size w wr) (fun i _ => l.length - (intOf i).toNat)
    case atStart =>
      refine ⟨0, Nat.zero_le _, rfl, ?_, (Below.refl _ _).alloc (Nat.le_refl _) _⟩
      have h := World.ownsRow_lit (base := w.heap.size) (e := 43) (size := 6) w (madeCells #[.string ⟨#[]⟩, .int .i64 0, .int .i64 0, .int .i64 0, .int .i64 0, .bool false] (l.length * 6)) l.length (Nat.le_refl _) (by unfold maxLen; omega) (by rw [size_madeCells])
      have e := made_flat #[.string ⟨#[]⟩, .int .i64 0, .int .i64 0, .int .i64 0, .int .i64 0, .bool false] l.length
      rw [half_none]
      exact Lib.hid (e ▸ h)
    case round =>
      obtain ⟨k, hk, rfl, hown, hb⟩ := hrel
      by_cases hlt : k < l.length
      · obtain ⟨x, hx⟩ : ∃ x, l[k]? = some x := ⟨_, List.getElem?_eq_getElem hlt⟩
        obtain ⟨q0, q1, q2, q3, q4, q5⟩ := SlShip.cells HC.out k x hx
        have hlt2 : g < w.heap.size := World.block_lt_of_cell? w ⟨g, o + k * 6, none⟩ q0
        have c0 := (hb.cell (p := ⟨g, o + k * 6, none⟩) hlt2).trans q0
        have c1 := (hb.cell (p := ⟨g, o + k * 6 + 1, none⟩) hlt2).trans q1
        have c2 := (hb.cell (p := ⟨g, o + k * 6 + 2, none⟩) hlt2).trans q2
        have c3 := (hb.cell (p := ⟨g, o + k * 6 + 3, none⟩) hlt2).trans q3
        have c4 := (hb.cell (p := ⟨g, o + k * 6 + 4, none⟩) hlt2).trans q4
        have c5 := (hb.cell (p := ⟨g, o + k * 6 + 5, none⟩) hlt2).trans q5
        have Hx := Lib.hid hx
        clear q0 q1 q2 q3 q4 q5 hx
        go_wp2_with fail
        refine (toShip_any _ _ _ _ _ _ _).mono ?_
        rintro e w1 ⟨rfl, hb1⟩
        have own1 := ownsRow_below hown.out hb1
        have B1 : Below w.heap.size w w1 := hb.trans (hb1.mono hb.size)
        have s0 : w1.cell? ⟨w.heap.size, k * 6, none⟩ = some (.string ⟨#[]⟩) := (World.ownsRow.cellAt own1 (k * 6) (by omega)).trans (half_at shipLen l k hlt 0 _ rfl)
        have s1 : w1.cell? ⟨w.heap.size, k * 6 + 1, none⟩ = some (.int .i64 0) := (World.ownsRow.cellAt own1 (k * 6 + 1) (by omega)).trans (half_at shipLen l k hlt 1 _ rfl)
        have s2 : w1.cell? ⟨w.heap.size, k * 6 + 2, none⟩ = some (.int .i64 0) := (World.ownsRow.cellAt own1 (k * 6 + 2) (by omega)).trans (half_at shipLen l k hlt 2 _ rfl)
        have s3 : w1.cell? ⟨w.heap.size, k * 6 + 3, none⟩ = some (.int .i64 0) := (World.ownsRow.cellAt own1 (k * 6 + 3) (by omega)).trans (half_at shipLen l k hlt 3 _ rfl)
        have s4 : w1.cell? ⟨w.heap.size, k * 6 + 4, none⟩ = some (.int .i64 0) := (World.ownsRow.cellAt own1 (k * 6 + 4) (by omega)).trans (half_at shipLen l k hlt 4 _ rfl)
        have s5 : w1.cell? ⟨w.heap.size, k * 6 + 5, none⟩ = some (.bool false) := (World.ownsRow.cellAt own1 (k * 6 + 5) (by omega)).trans (half_at shipLen l k hlt 5 _ rfl)
        have z0 : w1.frozen? ⟨w.heap.size, k * 6, none⟩ = false := World.ownsRow.frozenAt own1 _
        have z1 : w1.frozen? ⟨w.heap.size, k * 6 + 1, none⟩ = false := World.ownsRow.frozenAt own1 _
        have z2 : w1.frozen? ⟨w.heap.size, k * 6 + 2, none⟩ = false := World.ownsRow.frozenAt own1 _
        have z3 : w1.frozen? ⟨w.heap.size, k * 6 + 3, none⟩ = false := World.ownsRow.frozenAt own1 _
        have z4 : w1.frozen? ⟨w.heap.size, k * 6 + 4, none⟩ = false := World.ownsRow.frozenAt own1 _
        have z5 : w1.frozen? ⟨w.heap.size, k * 6 + 5, none⟩ = false := World.ownsRow.frozenAt own1 _
        have hst := (World.ownsRow.stored (World.ownsRow.stored (World.ownsRow.stored (World.ownsRow.stored (World.ownsRow.stored (World.ownsRow.stored own1 (k * 6) (.string x.name)).1 (k * 6 + 1) (.int .i64 x.length)).1 (k * 6 + 2) (.int .i64 x.draught)).1 (k * 6 + 3) (.int .i64 x.line)).1 (k * 6 + 4) (.int .i64 x.tugs)).1 (k * 6 + 5) (.bool x.slow)).1
        have e := half_set shipLen (zc := zeroShip) rfl l k x Hx.out
        have HO := Lib.hid ((show (((((((halfOf ShipD.cells zeroShip l k).set (k * 6) (.string x.name)).set (k * 6 + 1) (.int .i64 x.length)).set (k * 6 + 2) (.int .i64 x.draught)).set (k * 6 + 3) (.int .i64 x.line)).set (k * 6 + 4) (.int .i64 x.tugs)).set (k * 6 + 5) (.bool x.slow)) = halfOf ShipD.cells zeroShip l (k + 1) from e) ▸ hst)
        have HB := Lib.hid ((((((B1.setCell (p := ⟨w.heap.size, k * 6, none⟩) (Nat.le_refl _) (.string x.name)).setCell (p := ⟨w.heap.size, k * 6 + 1, none⟩) (Nat.le_refl _) (.int .i64 x.length)).setCell (p := ⟨w.heap.size, k * 6 + 2, none⟩) (Nat.le_refl _) (.int .i64 x.draught)).setCell (p := ⟨w.heap.size, k * 6 + 3, none⟩) (Nat.le_refl _) (.int .i64 x.line)).setCell (p := ⟨w.heap.size, k * 6 + 4, none⟩) (Nat.le_refl _) (.int .i64 x.tugs)).setCell (p := ⟨w.heap.size, k * 6 + 5, none⟩) (Nat.le_refl _) (.bool x.slow))
        clear own1 hst e hb1 B1
        go_wp2
        go_roundw
        case rel => exact ⟨k + 1, by omega, by go_num, HO, HB.out⟩
        case measure => simp [intOf]; omega
      · go_wp2
        go_ret
        obtain rfl : k = l.length := by omega
        have ho := hown.out
        rw [half_full] at ho
        exact ⟨_, rfl, ho, hb⟩
def oneShip (x : ShipD) : Int := (x.name.size : Int)
def bulkShip : List ShipD → Int
  | [] => 0
  | x :: l => oneShip x + bulkShip l
theorem bulkShip_append (a b : List ShipD) : bulkShip (a ++ b) = bulkShip a + bulkShip b := by
  induction a with
  | nil => simp [bulkShip]
  | cons x a ih => simp only [List.cons_append, bulkShip, ih]; omega
theorem oneShip_pos (x : ShipD) : 0 ≤ oneShip x := by unfold oneShip; omega
theorem bulkShip_pos (l : List ShipD) : 0 ≤ bulkShip l := by
  induction l with
  | nil => exact Int.le_refl _
  | cons x l ih => have := oneShip_pos x; simp only [bulkShip]; omega
theorem bulkShip_next {l : List ShipD} {k : Nat} {x : ShipD} (h : l[k]? = some x) : bulkShip (l.take (k + 1)) = bulkShip (l.take k) + oneShip x := by
  rw [take_snoc' l k x h, bulkShip_append]; simp [bulkShip]
theorem bulkShip_le (l : List ShipD) (k : Nat) : bulkShip (l.take k) ≤ bulkShip l := by
  have e := bulkShip_append (l.take k) (l.drop k)
  rw [List.take_append_drop] at e
  have := bulkShip_pos (l.drop k)
  omega
set_option maxHeartbeats 1000000 in
theorem szShip_any (name : ByteArray) (length : Int) (draught : Int) (line : Int) (tugs : Int) (slow : Bool) (lim : Int) (w : World) (h0 : 0 ≤ lim) (h1 : lim ≤ 1048576) (hname : name.size ≤ 9223372036854775807) :
    Calls Try.prog 25 #[.agg #[.string name, .int .i64 length, .int .i64 draught, .int .i64 line, .int .i64 tugs, .bool slow], .int .i64 lim] w fun e w' => e = .returned (.int .i64 (leftOf lim (oneShip ⟨name, length, draught, line, tugs, slow⟩))) ∧ Below w.heap.size w w' := by
  obtain ⟨r, hr⟩ : ∃ r, leftOf lim (oneShip ⟨name, length, draught, line, tugs, slow⟩) = r := ⟨_, rfl⟩
  rw [hr]
  unfold leftOf oneShip at hr
  simp only at hr
  have HR := Lib.hid hr
  clear hr
  have w0 : IntKind.i64.wrap (lim - (name.size : Int)) = lim - (name.size : Int) := by rw [IntKind.wrap_i64]; omega
  by_cases t0 : lim - (name.size : Int) < 0
  · have E := HR.out
    rw [if_pos (by omega)] at E
    clear HR
    subst E
    go_enter Try.func25, Try.ntmps25
    go_wp2
    go_ret
    exact ⟨rfl, Joins.below_alloc1 _ _⟩
  have E := HR.out
  rw [if_neg (by omega)] at E
  have E2 : r = lim - (name.size : Int) := by omega
  clear HR E
  subst E2
  go_enter Try.func25, Try.ntmps25
  go_wp2
  go_ret
  exact ⟨rfl, Joins.below_alloc1 _ _⟩
set_option maxHeartbeats 1000000 in
theorem szShipS_any (A : Option Addr) (l : List ShipD) (c : Nat) (w : World) (hl : l.length ≤ 9223372036854775807) (hsl : l.length ≤ 1000000000 → SlShip w (.slice A l.length c) l) (hsz : ∀ x ∈ l, x.name.size ≤ 9223372036854775807) (lim : Int) (h0 : 0 ≤ lim) (h1 : lim ≤ 1048576) :
    Calls Try.prog 29 #[.slice A l.length c, .int .i64 lim] w fun e w' => e = .returned (.int .i64 (leftOf lim ((l.length : Int) + bulkShip l))) ∧ Below w.heap.size w w' := by
  have hp := bulkShip_pos l
  by_cases hlt : lim < (l.length : Int)
  · have E := Lib.hid (leftOf_no (lim := lim) (t := (l.length : Int) + bulkShip l) (by omega))
    clear hsl hsz hp
    go_enter Try.func29, Try.ntmps29
    go_wp2
    go_ret
    exact ⟨ret_int E.out.symm, Below.refl _ _⟩
  · obtain ⟨_, hs⟩ := hsl (by omega)
    have HZ := Lib.hid hsz
    clear hsl hsz
    have w0 : IntKind.i64.wrap (lim - (l.length : Int)) = lim - (l.length : Int) := by rw [IntKind.wrap_i64]; omega
    rcases hs with ⟨rfl, A', c', he⟩ | ⟨g, o, c', he, hpos, hcap, hc⟩
    · clear he
      go_enter Try.func29, Try.ntmps29
      go_wp2
      refine wp_loop_rounds 1 ?_
      rw [rounds_succ]
      go_wp2
      go_ret
      exact ⟨ret_int (by rw [leftOf_yes (by simp [bulkShip]; omega)]; simp [bulkShip]), Below.refl _ _⟩
    · injection he with hA _ hcp
      subst hA hcp
      have HC := Lib.hid hc
      clear hc
      go_enter Try.func29, Try.ntmps29
      go_wp2
      go_loopw [1, 5] (fun q i wr => ∃ k : Nat, k ≤ l.length ∧ i = .int .i64 k ∧ q = .int .i64 (lim - (l.length : Int) - bulkShip (l.take k)) ∧ 0 ≤ lim - (l.length : Int) - bulkShip (l.take k) ∧ Below w.heap.size w wr) (fun _ i _ => l.length - (intOf i).toNat)
      case atStart => exact ⟨0, Nat.zero_le _, rfl, by simp [bulkShip], by simp [bulkShip]; omega, Below.refl _ _⟩
      case round =>
        obtain ⟨k, hk, rfl, rfl, hle, hb⟩ := hrel
        have hpk := bulkShip_pos (l.take k)
        by_cases hkl : k < l.length
        · obtain ⟨x, hx⟩ : ∃ x, l[k]? = some x := ⟨_, List.getElem?_eq_getElem hkl⟩
          obtain ⟨q0, q1, q2, q3, q4, q5⟩ := SlShip.cells HC.out k x hx
          have hlt2 : g < w.heap.size := World.block_lt_of_cell? w ⟨g, o + k * 6, none⟩ q0
          have c0 := (hb.cell (p := ⟨g, o + k * 6, none⟩) hlt2).trans q0
          have c1 := (hb.cell (p := ⟨g, o + k * 6 + 1, none⟩) hlt2).trans q1
          have c2 := (hb.cell (p := ⟨g, o + k * 6 + 2, none⟩) hlt2).trans q2
          have c3 := (hb.cell (p := ⟨g, o + k * 6 + 3, none⟩) hlt2).trans q3
          have c4 := (hb.cell (p := ⟨g, o + k * 6 + 4, none⟩) hlt2).trans q4
          have c5 := (hb.cell (p := ⟨g, o + k * 6 + 5, none⟩) hlt2).trans q5
          have hn := bulkShip_next hx
          have hzx := HZ.out x (List.mem_of_getElem? hx)
          have hl2 := bulkShip_le l (k + 1)
          obtain ⟨z, hz⟩ : ∃ z, lim - (l.length : Int) - bulkShip (l.take k) = z := ⟨_, rfl⟩
          rw [hz] at hle
          have C := fun W => Lib.hid (szShip_any x.name x.length x.draught x.line x.tugs x.slow z W hle (by omega) hzx)
          have hzs := hb.size
          clear q0 q1 q2 q3 q4 q5 hx
          by_cases hneg : z < oneShip x
          · have EN := Lib.hid (leftOf_no (lim := lim) (t := (l.length : Int) + bulkShip l) (by omega))
            rw [show (⟨x.name, x.length, x.draught, x.line, x.tugs, x.slow⟩ : ShipD) = x from rfl] at C
            rw [leftOf_no hneg] at C
            rw [hz]
            clear hn hl2 hneg
            go_wp2_with fail
            refine (C _).out.mono ?_
            rintro e w1 ⟨rfl, hb1⟩
            go_wp2
            go_ret
            exact ⟨ret_int EN.out.symm, hb.trans (hb1.mono hzs)⟩
          · rw [show (⟨x.name, x.length, x.draught, x.line, x.tugs, x.slow⟩ : ShipD) = x from rfl] at C
            rw [leftOf_yes hneg] at C
            rw [hz]
            have hz2 : ¬ z - oneShip x < 0 := by omega
            go_wp2_with fail
            refine (C _).out.mono ?_
            rintro e w1 ⟨rfl, hb1⟩
            have B1 := Lib.hid (hb.trans (hb1.mono hzs))
            clear C hb1
            go_wp2
            go_roundw
            case rel => exact ⟨k + 1, by omega, by go_num, by rw [hn]; congr 1; omega, by rw [hn]; omega, B1.out⟩
            case measure => simp [intOf]; omega
        · obtain rfl : k = l.length := by omega
          rw [List.take_length] at hle ⊢
          go_wp2
          go_ret
          exact ⟨ret_int (by rw [leftOf_yes (by omega)]; omega), hb⟩
set_option maxHeartbeats 1000000 in
theorem eqShipS_same (va vb : Value) (l : List ShipD) (w : World) (ha : SlShip w va l) (hb : SlShip w vb l) :
    Calls Try.prog 34 #[va, vb] w fun e w' => e = .returned (.bool true) ∧ Below w.heap.size w w' := by
  obtain ⟨hl, ha⟩ := ha
  obtain ⟨_, hb⟩ := hb
  rcases ha with ⟨rfl, A, c, rfl⟩ | ⟨g, o, c, rfl, hp, _, hca⟩
  · rcases hb with ⟨_, A', c', rfl⟩ | ⟨g', o', c', rfl, hp, _, _⟩
    · go_enter Try.func34, Try.ntmps34
      go_wp2
      refine wp_loop_rounds 1 ?_
      rw [rounds_succ]
      go_wp2
      go_ret
      exact ⟨rfl, Below.refl _ _⟩
    · exact absurd hp (by simp)
  · rcases hb with ⟨rfl, A', c', rfl⟩ | ⟨g', o', c', rfl, _, _, hcb⟩
    · exact absurd hp (by simp)
    · have HA := Lib.hid hca
      have HB := Lib.hid hcb
      clear hca hcb
      go_enter Try.func34, Try.ntmps34
      go_wp2
      go_loopw [5] (fun i wr => ∃ k : Nat, k ≤ l.length ∧ i = .int .i64 k ∧ Below w.heap.size w wr) (fun i _ => l.length - (intOf i).toNat)
      case atStart => exact ⟨0, Nat.zero_le _, rfl, Below.refl _ _⟩
      case round =>
        obtain ⟨k, hk, rfl, hb⟩ := hrel
        by_cases hlt : k < l.length
        · obtain ⟨x, hx⟩ : ∃ x, l[k]? = some x := ⟨_, List.getElem?_eq_getElem hlt⟩
          obtain ⟨p0, p1, p2, p3, p4, p5⟩ := SlShip.cells HA.out k x hx
          obtain ⟨q0, q1, q2, q3, q4, q5⟩ := SlShip.cells HB.out k x hx
          have hg : g < w.heap.size := World.block_lt_of_cell? w ⟨g, o + k * 6, none⟩ p0
          have hg' : g' < w.heap.size := World.block_lt_of_cell? w ⟨g', o' + k * 6, none⟩ q0
          have a0 := (hb.cell (p := ⟨g, o + k * 6, none⟩) hg).trans p0
          have a1 := (hb.cell (p := ⟨g, o + k * 6 + 1, none⟩) hg).trans p1
          have a2 := (hb.cell (p := ⟨g, o + k * 6 + 2, none⟩) hg).trans p2
          have a3 := (hb.cell (p := ⟨g, o + k * 6 + 3, none⟩) hg).trans p3
          have a4 := (hb.cell (p := ⟨g, o + k * 6 + 4, none⟩) hg).trans p4
          have a5 := (hb.cell (p := ⟨g, o + k * 6 + 5, none⟩) hg).trans p5
          have b0 := (hb.cell (p := ⟨g', o' + k * 6, none⟩) hg').trans q0
          have b1 := (hb.cell (p := ⟨g', o' + k * 6 + 1, none⟩) hg').trans q1
          have b2 := (hb.cell (p := ⟨g', o' + k * 6 + 2, none⟩) hg').trans q2
          have b3 := (hb.cell (p := ⟨g', o' + k * 6 + 3, none⟩) hg').trans q3
          have b4 := (hb.cell (p := ⟨g', o' + k * 6 + 4, none⟩) hg').trans q4
          have b5 := (hb.cell (p := ⟨g', o' + k * 6 + 5, none⟩) hg').trans q5
          have hbs := hb.size
          clear p0 q0 p1 q1 p2 q2 p3 q3 p4 q4 p5 q5 hx
          go_wp2
          go_still_tail 8, (by kernel_rfl)
          change wpList _ _ _ _ _ wr.drew
          have hd := hb.drew
          generalize wr.drew = w2 at hd ⊢
          have hds := hd.size
          clear a0 b0 a1 b1 a2 b2 a3 b3 a4 b4 a5 b5 hb hbs
          go_wp2_with fail
          refine (eqShip_same _ _ _ _ _ _ _).mono ?_
          rintro e w3 ⟨rfl, hb3⟩
          have B3 := Lib.hid (hd.trans (hb3.mono hds))
          clear hb3 hd hds
          go_wp2
          go_roundw
          case rel => exact ⟨k + 1, by omega, by go_num, B3.out⟩
          case measure => simp [intOf]; omega
        · go_wp2
          go_ret
          exact ⟨rfl, hb⟩
/-- What the marking that begins with k writes into cell j. -/
def mvShip (k : Int) (j : Nat) : Value := if j % 6 = 0 then .string (markT (k + (j : Int))) else if j % 6 = 1 then .int .i64 (k + (j : Int)) else if j % 6 = 2 then .int .i64 (k + (j : Int)) else if j % 6 = 3 then .int .i64 (k + (j : Int)) else if j % 6 = 4 then .int .i64 (k + (j : Int)) else .bool ((k + (j : Int)) % 3 == 0)
theorem mvShip_0 (k : Int) (j : Nat) : mvShip k (j * 6) = .string (markT (k + (j : Int) * 6)) := by
  unfold mvShip
  rw [if_pos (by omega), show k + ((j * 6 : Nat) : Int) = k + (j : Int) * 6 by omega]
theorem mvShip_1 (k : Int) (j : Nat) : mvShip k (j * 6 + 1) = .int .i64 (k + (j : Int) * 6 + 1) := by
  unfold mvShip
  rw [if_neg (by omega), if_pos (by omega), show k + ((j * 6 + 1 : Nat) : Int) = k + (j : Int) * 6 + 1 by omega]
theorem mvShip_2 (k : Int) (j : Nat) : mvShip k (j * 6 + 2) = .int .i64 (k + (j : Int) * 6 + 2) := by
  unfold mvShip
  rw [if_neg (by omega), if_neg (by omega), if_pos (by omega), show k + ((j * 6 + 2 : Nat) : Int) = k + (j : Int) * 6 + 2 by omega]
theorem mvShip_3 (k : Int) (j : Nat) : mvShip k (j * 6 + 3) = .int .i64 (k + (j : Int) * 6 + 3) := by
  unfold mvShip
  rw [if_neg (by omega), if_neg (by omega), if_neg (by omega), if_pos (by omega), show k + ((j * 6 + 3 : Nat) : Int) = k + (j : Int) * 6 + 3 by omega]
theorem mvShip_4 (k : Int) (j : Nat) : mvShip k (j * 6 + 4) = .int .i64 (k + (j : Int) * 6 + 4) := by
  unfold mvShip
  rw [if_neg (by omega), if_neg (by omega), if_neg (by omega), if_neg (by omega), if_pos (by omega), show k + ((j * 6 + 4 : Nat) : Int) = k + (j : Int) * 6 + 4 by omega]
theorem mvShip_5 (k : Int) (j : Nat) : mvShip k (j * 6 + 5) = .bool ((k + (j : Int) * 6 + 5) % 3 == 0) := by
  unfold mvShip
  rw [if_neg (by omega), if_neg (by omega), if_neg (by omega), if_neg (by omega), if_neg (by omega), show k + ((j * 6 + 5 : Nat) : Int) = k + (j : Int) * 6 + 5 by omega]
set_option maxHeartbeats 4000000 in
theorem markShipS_any (v : Value) (l : List ShipD) (k : Int) (w : World) (h : SlShip w v l) (hfz : ∀ g, v.ownBlock = some g → ∀ j, w.frozen? ⟨g, j, none⟩ = false) (h0 : 0 ≤ k) (h1 : k ≤ 100000000) (h2 : l.length ≤ 10000000) :
    Calls Try.prog 44 #[v, .int .i64 k] w fun e w' => e = .returned (.int .i64 (k + (l.length : Int) * 6)) ∧ MarkedV w' v (l.length * 6) (mvShip k) ∧ w.grownBy w' v.ownBlock := by
  obtain ⟨hl, h⟩ := h
  rcases h with ⟨rfl, A, c, rfl⟩ | ⟨g, o, c, rfl, hp, hcap, hc⟩
  · go_enter Try.func44, Try.ntmps44
    go_wp2
    refine wp_loop_rounds 1 ?_
    rw [rounds_succ]
    go_wp2
    go_ret
    exact ⟨ret_int (by simp), .inl (by simp), World.grownBy.refl _ _⟩
  · have hs : MarkRowV w g o (l.length * 6) (mvShip k) (0 * 6) w := MarkRowV.start (vals_of (by omega) shipLen hc) (by omega) (fun j => hfz g rfl j)
    have HS := Lib.hid hs
    clear hs hc hfz
    go_enter Try.func44, Try.ntmps44
    go_wp2
    go_loopw [1, 5] (fun q i wr => ∃ j : Nat, j ≤ l.length ∧ i = .int .i64 j ∧ q = .int .i64 (k + (j : Int) * 6) ∧ Hid (MarkRowV w g o (l.length * 6) (mvShip k) (j * 6) wr)) (fun _ i _ => l.length - (intOf i).toNat)
    case atStart => exact ⟨0, Nat.zero_le _, rfl, by simp, HS⟩
    case round =>
      obtain ⟨j, hj, rfl, rfl, hM⟩ := hrel
      by_cases hlt : j < l.length
      · clear HS
        go_wp2_with fail
        refine (markText_any (k + (j : Int) * 6) _ (by omega)).mono ?_
        rintro e w0 ⟨rfl, hb0⟩
        have M0c := Lib.hid (hM.out.below hb0)
        clear hb0
        obtain ⟨x0, c0⟩ := M0c.out.read (j * 6 + 0) (by omega) (by omega) (o + j * 6) (by omega)
        have f0 := M0c.out.2.2.2.1 (o + j * 6)
        have M0 := Lib.hid (M0c.out.next (by omega) (o + j * 6) (by omega) (.string (markT (k + (j : Int) * 6))) (by rw [mvShip_0]) (j * 6 + 1) rfl)
        obtain ⟨x1, c1⟩ := M0.out.read (j * 6 + 1) (by omega) (by omega) (o + j * 6 + 1) (by omega)
        have f1 := M0.out.2.2.2.1 (o + j * 6 + 1)
        have M1 := Lib.hid (M0.out.next (by omega) (o + j * 6 + 1) (by omega) (.int .i64 (k + (j : Int) * 6 + 1)) (by rw [mvShip_1]) (j * 6 + 2) rfl)
        obtain ⟨x2, c2⟩ := M1.out.read (j * 6 + 2) (by omega) (by omega) (o + j * 6 + 2) (by omega)
        have f2 := M1.out.2.2.2.1 (o + j * 6 + 2)
        have M2 := Lib.hid (M1.out.next (by omega) (o + j * 6 + 2) (by omega) (.int .i64 (k + (j : Int) * 6 + 1 + 1)) (by rw [mvShip_2, show k + (j : Int) * 6 + 2 = k + (j : Int) * 6 + 1 + 1 by omega]) (j * 6 + 3) rfl)
        obtain ⟨x3, c3⟩ := M2.out.read (j * 6 + 3) (by omega) (by omega) (o + j * 6 + 3) (by omega)
        have f3 := M2.out.2.2.2.1 (o + j * 6 + 3)
        have M3 := Lib.hid (M2.out.next (by omega) (o + j * 6 + 3) (by omega) (.int .i64 (k + (j : Int) * 6 + 1 + 1 + 1)) (by rw [mvShip_3, show k + (j : Int) * 6 + 3 = k + (j : Int) * 6 + 1 + 1 + 1 by omega]) (j * 6 + 4) rfl)
        obtain ⟨x4, c4⟩ := M3.out.read (j * 6 + 4) (by omega) (by omega) (o + j * 6 + 4) (by omega)
        have f4 := M3.out.2.2.2.1 (o + j * 6 + 4)
        have M4 := Lib.hid (M3.out.next (by omega) (o + j * 6 + 4) (by omega) (.int .i64 (k + (j : Int) * 6 + 1 + 1 + 1 + 1)) (by rw [mvShip_4, show k + (j : Int) * 6 + 4 = k + (j : Int) * 6 + 1 + 1 + 1 + 1 by omega]) (j * 6 + 5) rfl)
        obtain ⟨x5, c5⟩ := M4.out.read (j * 6 + 5) (by omega) (by omega) (o + j * 6 + 5) (by omega)
        have f5 := M4.out.2.2.2.1 (o + j * 6 + 5)
        have M5 := Lib.hid (M4.out.next (by omega) (o + j * 6 + 5) (by omega) (.bool ((k + (j : Int) * 6 + 1 + 1 + 1 + 1 + 1) % 3 == 0)) (by rw [mvShip_5, show k + (j : Int) * 6 + 5 = k + (j : Int) * 6 + 1 + 1 + 1 + 1 + 1 by omega]) (j * 6 + 6) rfl)
        go_wp2
        go_roundw
        case rel =>
          refine ⟨j + 1, by omega, by go_num, ?_, ?_⟩
          · exact congrArg (Value.int .i64) (by omega)
          · rw [show (j + 1) * 6 = j * 6 + 6 by omega]; exact M5
        case measure => simp [intOf]; omega
      · go_wp2
        go_ret
        obtain rfl : j = l.length := by omega
        exact ⟨rfl, .inr ⟨g, o, l.length, c, rfl, hM.out.2.1⟩, hM.out.1⟩
section
variable {H : Type} {enc : TypeId × Value → H} {w : World} {base : Nat} {spare : Nat → Bool} {held : Bool}
def ShipD.wf (d : ShipD) : Prop := d.name.size ≤ maxLen ∧ (Lit.int .i64 d.length).wf = true ∧ (Lit.int .i64 d.draught).wf = true ∧ (Lit.int .i64 d.line).wf = true ∧ (Lit.int .i64 d.tugs).wf = true
theorem dec_ship (n : Nat) (cs : List Value) (y : DataW H × List MemPlace) (h : DataW.trod enc Try.prog w base spare held n 51 cs = some y) : ∃ d : ShipD, cs = d.cells ∧ d.wf := by
  obtain ⟨hl, hf⟩ := struct_cells Try.underlying51 (by kernel_rfl) (by kernel_rfl) h
  obtain ⟨v0, n0, y0, e0, h0⟩ := hf 0 _ rfl
  obtain ⟨v1, n1, y1, e1, h1⟩ := hf 1 _ rfl
  obtain ⟨v2, n2, y2, e2, h2⟩ := hf 2 _ rfl
  obtain ⟨v3, n3, y3, e3, h3⟩ := hf 3 _ rfl
  obtain ⟨v4, n4, y4, e4, h4⟩ := hf 4 _ rfl
  obtain ⟨v5, n5, y5, e5, h5⟩ := hf 5 _ rfl
  obtain ⟨a0, ha0, _, wa0⟩ := DataW.trod_string Try.underlying9 h0
  obtain ⟨a1, ha1, _, wa1⟩ := DataW.trod_int Try.underlying3 h1
  obtain ⟨a2, ha2, _, wa2⟩ := DataW.trod_int Try.underlying3 h2
  obtain ⟨a3, ha3, _, wa3⟩ := DataW.trod_int Try.underlying3 h3
  obtain ⟨a4, ha4, _, wa4⟩ := DataW.trod_int Try.underlying3 h4
  obtain ⟨a5, ha5, _⟩ := DataW.trod_bool Try.underlying4 h5
  simp only [List.cons.injEq, and_true] at ha0 ha1 ha2 ha3 ha4 ha5
  subst ha0 ha1 ha2 ha3 ha4 ha5
  refine ⟨⟨a0, a1, a2, a3, a4, a5⟩, ?_, wa0, wa1, wa2, wa3, wa4⟩
  match cs, hl with
  | [c0, c1, c2, c3, c4, c5], _ =>
    simp at e0 e1 e2 e3 e4 e5
    subst e0 e1 e2 e3 e4 e5
    rfl
theorem wfszShip {x : ShipD} (h : x.wf) : x.name.size ≤ 9223372036854775807 := by have h' := (show _ from h).1; unfold maxLen at h'; omega
theorem open_ships {fuel : Nat} {v : Value} {x : DataW H × List MemPlace} (h : DataW.trod enc Try.prog w base (fun _ => true) held fuel 57 [v] = some x) :
    ∃ A c l, v = .slice A l.length c ∧ l.length ≤ maxLen ∧ (l.length ≤ 1000000000 → SlShip w (.slice A l.length c) l) ∧ ∀ d ∈ l, ShipD.wf d :=
  open_elems ShipD.cells 6 ShipD.wf Try.underlying57 (by kernel_rfl) shipLen (by omega) dec_ship h
end
end Go.Proofs.Ytghjfcnboocmjaa
