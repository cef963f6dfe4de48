
/- What ExactIsSafePassage and ExactSailRoute and ExactFirstSail rests on, part 3: contracts and mathematics. -/
import Derived.Test.YtooeikimoheecaaGreatGr0
import Derived.Test.YtooeikimoheecaaGreatGr1
import Derived.StillTailTactics
namespace Go.Proofs.YtooeikimoheecaaGreat
open Go.ChangeShapes Go.WideShapes Go.ChangeAt Go.Deep Go.RowKit
set_option maxRecDepth 100000
structure ShipD where
  name : ByteArray
  length : Int
  draught : Int
  line : Int
  tugs : Int
  slow : Bool
@[reducible] def ShipD.val (d : ShipD) : Value := .agg #[.string d.name, .int .i64 d.length, .int .i64 d.draught, .int .i64 d.line, .int .i64 d.tugs, .bool d.slow]
@[reducible] def ShipD.cells (d : ShipD) : List Value := [.string d.name, .int .i64 d.length, .int .i64 d.draught, .int .i64 d.line, .int .i64 d.tugs, .bool d.slow]
theorem shipLen (d : ShipD) : d.cells.length = 6 := rfl
def SlShip : World → Value → List ShipD → Prop := SlOf 6 ShipD.cells
def OwnShip : World → Nat → Value → List ShipD → Prop := OwnOf 6 ShipD.cells 65
def NewShip : List ShipD → World → Ending → World → Prop := NewOf 6 ShipD.cells 65
theorem SlShip.at {w : World} {v : Value} {l : List ShipD} (h : SlShip w v l) : ∃ A c, v = .slice A l.length c := SlOf.form h
theorem SlShip.below {w w' : World} {v : Value} {l : List ShipD} (h : SlShip w v l) (hb : Below w.heap.size w w') : SlShip w' v l := SlOf.below h hb
theorem OwnShip.sl {w : World} {base : Nat} {v : Value} {l : List ShipD} (h : OwnShip w base v l) (hl : l.length ≤ 1000000000) : SlShip w v l := own_sl shipLen h hl
theorem SlShip.cells {w : World} {l : List ShipD} {g o : Nat} (hc : ∀ i x, l[i]? = some x → ∀ j u, (ShipD.cells x)[j]? = some u → w.cell? ⟨g, o + i * 6 + j, none⟩ = some u) (i : Nat) (x : ShipD) (hx : l[i]? = some x) :
    w.cell? ⟨g, o + i * 6, none⟩ = some (.string x.name) ∧ w.cell? ⟨g, o + i * 6 + 1, none⟩ = some (.int .i64 x.length) ∧ w.cell? ⟨g, o + i * 6 + 2, none⟩ = some (.int .i64 x.draught) ∧ w.cell? ⟨g, o + i * 6 + 3, none⟩ = some (.int .i64 x.line) ∧ w.cell? ⟨g, o + i * 6 + 4, none⟩ = some (.int .i64 x.tugs) ∧ w.cell? ⟨g, o + i * 6 + 5, none⟩ = some (.bool x.slow) :=
  ⟨hc i x hx 0 _ rfl, hc i x hx 1 _ rfl, hc i x hx 2 _ rfl, hc i x hx 3 _ rfl, hc i x hx 4 _ rfl, hc i x hx 5 _ rfl⟩
def zeroShip : List Value := [.string ⟨#[]⟩, .int .i64 0, .int .i64 0, .int .i64 0, .int .i64 0, .bool false]
theorem info_ship : (Tryz.prog.info? 65).map (fun i => (i.zero, i.size, i.bytes)) = some (some (.agg #[.string ⟨#[]⟩, .int .i64 0, .int .i64 0, .int .i64 0, .int .i64 0, .bool false]), 6, 56) := by kernel_rfl
theorem make_ships (n : Nat) (hn : n ≤ 1000000000) (W : World) :
    (Instr.makeSlice 51 (.int .i64 (n : Int)) (.int .i64 (n : Int))).run Tryz.prog W = .ok (.slice (some ⟨W.heap.size, 0, none⟩) n n) (W.alloc (.cells (madeCells #[.string ⟨#[]⟩, .int .i64 0, .int .i64 0, .int .i64 0, .int .i64 0, .bool false] (n * 6)) 65)) := by
  obtain ⟨i0, hi, hz0, hz1, hz2⟩ := info_parts info_ship
  have hr := run_make (P := Tryz.prog) W 51 65 i0 _ Tryz.underlying51 hi hz0 .i64 .i64 n n (by omega) (Int.le_refl _) (by rw [hz2]; omega) (by omega)
  simp only [Int.toNat_natCast, hz1] at hr
  exact hr
theorem toShip_any (name : ByteArray) (length : Int) (draught : Int) (line : Int) (tugs : Int) (slow : Bool) (w : World) : Calls Tryz.prog 20 #[.agg #[.string name, .int .i64 length, .int .i64 draught, .int .i64 line, .int .i64 tugs, .bool slow]] w fun e w' => e = .returned (.agg #[.string name, .int .i64 length, .int .i64 draught, .int .i64 line, .int .i64 tugs, .bool slow]) ∧ Below w.heap.size w w' := by
  go_enter Tryz.func20, Tryz.ntmps20
  go_wp2
  refine bodyPost_ret (v := .agg #[.string name, .int .i64 length, .int .i64 draught, .int .i64 line, .int .i64 tugs, .bool slow]) (by simp [results, Tryz.results20, go_sem]) rfl ⟨rfl, ?_⟩
  repeat (first | exact Below.refl _ _ | refine Below.setCell ?_ (by simp <;> omega) _ | refine Below.alloc ?_ (by simp <;> omega) _)
theorem eqShip_same (name : ByteArray) (length : Int) (draught : Int) (line : Int) (tugs : Int) (slow : Bool) (w : World) : Calls Tryz.prog 46 #[.agg #[.string name, .int .i64 length, .int .i64 draught, .int .i64 line, .int .i64 tugs, .bool slow], .agg #[.string name, .int .i64 length, .int .i64 draught, .int .i64 line, .int .i64 tugs, .bool slow]] w fun e w' => e = .returned (.bool true) ∧ Below w.heap.size w w' := by
  go_enter Tryz.func46, Tryz.ntmps46
  go_wp2
  go_ret
  exact ⟨rfl, Joins.below_alloc2 _ _ _⟩
set_option maxHeartbeats 1000000 in
theorem toShipS_any (v : Value) (l : List ShipD) (w : World) (h : SlShip w v l) :
    Calls Tryz.prog 12 #[v] w (NewShip l w) := by
  obtain ⟨hl, h⟩ := h
  have hmk := make_ships l.length hl
  rcases h with ⟨rfl, A, c, rfl⟩ | ⟨g, o, c, rfl, hp, hcap, hc⟩
  · have hmk0 : ∀ W : World, (Instr.makeSlice 51 (.int .i64 0) (.int .i64 0)).run Tryz.prog W = .ok (.slice (some ⟨W.heap.size, 0, none⟩) 0 0) (W.alloc (.cells (madeCells #[.string ⟨#[]⟩, .int .i64 0, .int .i64 0, .int .i64 0, .int .i64 0, .bool false] (0 * 6)) 65)) := make_ships 0 (by omega)
    clear hmk
    go_enter Tryz.func12, Tryz.ntmps12
    go_wp2
    refine wp_loop_rounds 1 ?_
    rw [rounds_succ]
    go_wp2
    go_ret
    have h := World.ownsRow_lit (base := w.heap.size) (e := 65) (size := 6) w (madeCells #[.string ⟨#[]⟩, .int .i64 0, .int .i64 0, .int .i64 0, .int .i64 0, .bool false] (0 * 6)) 0 (Nat.le_refl _) (by decide) (by rw [size_madeCells])
    rw [show (madeCells #[Value.string ⟨#[]⟩, .int .i64 0, .int .i64 0, .int .i64 0, .int .i64 0, .bool false] (0 * 6)).toList = [] by simp [madeCells]] at h
    exact ⟨_, rfl, h, (Below.refl _ _).alloc (Nat.le_refl _) _⟩
  · have HC := Lib.hid hc
    clear hc
    go_enter Tryz.func12, Tryz.ntmps12
    go_wp2
    clear hmk
    go_loopw [4] (fun i wr => ∃ k : Nat, k ≤ l.length ∧ i = .int .i64 k ∧ Hid (wr.ownsRow w.heap.size 65 6 (.slice (some ⟨w.heap.size, 0, none⟩) l.length l.length) l.length (halfOf ShipD.cells zeroShip l k)) ∧ Below w.heap.size w wr) (fun i _ => l.length - (intOf i).toNat)
    case atStart =>
      refine ⟨0, Nat.zero_le _, rfl, ?_, (Below.refl _ _).alloc (Nat.le_refl _) _⟩
      have h := World.ownsRow_lit (base := w.heap.size) (e := 65) (size := 6) w (madeCells #[.string ⟨#[]⟩, .int .i64 0, .int .i64 0, .int .i64 0, .int .i64 0, .bool false] (l.length * 6)) l.length (Nat.le_refl _) (by unfold maxLen; omega) (by rw [size_madeCells])
      have e := made_flat #[.string ⟨#[]⟩, .int .i64 0, .int .i64 0, .int .i64 0, .int .i64 0, .bool false] l.length
      rw [half_none]
      exact Lib.hid (e ▸ h)
    case round =>
      obtain ⟨k, hk, rfl, hown, hb⟩ := hrel
      by_cases hlt : k < l.length
      · obtain ⟨x, hx⟩ : ∃ x, l[k]? = some x := ⟨_, List.getElem?_eq_getElem hlt⟩
        obtain ⟨q0, q1, q2, q3, q4, q5⟩ := SlShip.cells HC.out k x hx
        have hlt2 : g < w.heap.size := World.block_lt_of_cell? w ⟨g, o + k * 6, none⟩ q0
        have c0 := (hb.cell (p := ⟨g, o + k * 6, none⟩) hlt2).trans q0
        have c1 := (hb.cell (p := ⟨g, o + k * 6 + 1, none⟩) hlt2).trans q1
        have c2 := (hb.cell (p := ⟨g, o + k * 6 + 2, none⟩) hlt2).trans q2
        have c3 := (hb.cell (p := ⟨g, o + k * 6 + 3, none⟩) hlt2).trans q3
        have c4 := (hb.cell (p := ⟨g, o + k * 6 + 4, none⟩) hlt2).trans q4
        have c5 := (hb.cell (p := ⟨g, o + k * 6 + 5, none⟩) hlt2).trans q5
        have Hx := Lib.hid hx
        clear q0 q1 q2 q3 q4 q5 hx
        go_wp2_with fail
        refine (toShip_any _ _ _ _ _ _ _).mono ?_
        rintro e w1 ⟨rfl, hb1⟩
        have own1 := ownsRow_below hown.out hb1
        have B1 : Below w.heap.size w w1 := hb.trans (hb1.mono hb.size)
        have s0 : w1.cell? ⟨w.heap.size, k * 6, none⟩ = some (.string ⟨#[]⟩) := (World.ownsRow.cellAt own1 (k * 6) (by omega)).trans (half_at shipLen l k hlt 0 _ rfl)
        have s1 : w1.cell? ⟨w.heap.size, k * 6 + 1, none⟩ = some (.int .i64 0) := (World.ownsRow.cellAt own1 (k * 6 + 1) (by omega)).trans (half_at shipLen l k hlt 1 _ rfl)
        have s2 : w1.cell? ⟨w.heap.size, k * 6 + 2, none⟩ = some (.int .i64 0) := (World.ownsRow.cellAt own1 (k * 6 + 2) (by omega)).trans (half_at shipLen l k hlt 2 _ rfl)
        have s3 : w1.cell? ⟨w.heap.size, k * 6 + 3, none⟩ = some (.int .i64 0) := (World.ownsRow.cellAt own1 (k * 6 + 3) (by omega)).trans (half_at shipLen l k hlt 3 _ rfl)
        have s4 : w1.cell? ⟨w.heap.size, k * 6 + 4, none⟩ = some (.int .i64 0) := (World.ownsRow.cellAt own1 (k * 6 + 4) (by omega)).trans (half_at shipLen l k hlt 4 _ rfl)
        have s5 : w1.cell? ⟨w.heap.size, k * 6 + 5, none⟩ = some (.bool false) := (World.ownsRow.cellAt own1 (k * 6 + 5) (by omega)).trans (half_at shipLen l k hlt 5 _ rfl)
        have z0 : w1.frozen? ⟨w.heap.size, k * 6, none⟩ = false := World.ownsRow.frozenAt own1 _
        have z1 : w1.frozen? ⟨w.heap.size, k * 6 + 1, none⟩ = false := World.ownsRow.frozenAt own1 _
        have z2 : w1.frozen? ⟨w.heap.size, k * 6 + 2, none⟩ = false := World.ownsRow.frozenAt own1 _
        have z3 : w1.frozen? ⟨w.heap.size, k * 6 + 3, none⟩ = false := World.ownsRow.frozenAt own1 _
        have z4 : w1.frozen? ⟨w.heap.size, k * 6 + 4, none⟩ = false := World.ownsRow.frozenAt own1 _
        have z5 : w1.frozen? ⟨w.heap.size, k * 6 + 5, none⟩ = false := World.ownsRow.frozenAt own1 _
        have hst := (World.ownsRow.stored (World.ownsRow.stored (World.ownsRow.stored (World.ownsRow.stored (World.ownsRow.stored (World.ownsRow.stored own1 (k * 6) (.string x.name)).1 (k * 6 + 1) (.int .i64 x.length)).1 (k * 6 + 2) (.int .i64 x.draught)).1 (k * 6 + 3) (.int .i64 x.line)).1 (k * 6 + 4) (.int .i64 x.tugs)).1 (k * 6 + 5) (.bool x.slow)).1
        have e := half_set shipLen (zc := zeroShip) rfl l k x Hx.out
        have HO := Lib.hid ((show (((((((halfOf ShipD.cells zeroShip l k).set (k * 6) (.string x.name)).set (k * 6 + 1) (.int .i64 x.length)).set (k * 6 + 2) (.int .i64 x.draught)).set (k * 6 + 3) (.int .i64 x.line)).set (k * 6 + 4) (.int .i64 x.tugs)).set (k * 6 + 5) (.bool x.slow)) = halfOf ShipD.cells zeroShip l (k + 1) from e) ▸ hst)
        have HB := Lib.hid ((((((B1.setCell (p := ⟨w.heap.size, k * 6, none⟩) (Nat.le_refl _) (.string x.name)).setCell (p := ⟨w.heap.size, k * 6 + 1, none⟩) (Nat.le_refl _) (.int .i64 x.length)).setCell (p := ⟨w.heap.size, k * 6 + 2, none⟩) (Nat.le_refl _) (.int .i64 x.draught)).setCell (p := ⟨w.heap.size, k * 6 + 3, none⟩) (Nat.le_refl _) (.int .i64 x.line)).setCell (p := ⟨w.heap.size, k * 6 + 4, none⟩) (Nat.le_refl _) (.int .i64 x.tugs)).setCell (p := ⟨w.heap.size, k * 6 + 5, none⟩) (Nat.le_refl _) (.bool x.slow))
        clear own1 hst e hb1 B1
        go_wp2
        go_roundw
        case rel => exact ⟨k + 1, by omega, by go_num, HO, HB.out⟩
        case measure => simp [intOf]; omega
      · go_wp2
        go_ret
        obtain rfl : k = l.length := by omega
        have ho := hown.out
        rw [half_full] at ho
        exact ⟨_, rfl, ho, hb⟩
def oneShip (x : ShipD) : Int := (x.name.size : Int)
def bulkShip : List ShipD → Int
  | [] => 0
  | x :: l => oneShip x + bulkShip l
theorem bulkShip_append (a b : List ShipD) : bulkShip (a ++ b) = bulkShip a + bulkShip b := by
  induction a with
  | nil => simp [bulkShip]
  | cons x a ih => simp only [List.cons_append, bulkShip, ih]; omega
theorem oneShip_pos (x : ShipD) : 0 ≤ oneShip x := by unfold oneShip; omega
theorem bulkShip_pos (l : List ShipD) : 0 ≤ bulkShip l := by
  induction l with
  | nil => exact Int.le_refl _
  | cons x l ih => have := oneShip_pos x; simp only [bulkShip]; omega
theorem bulkShip_next {l : List ShipD} {k : Nat} {x : ShipD} (h : l[k]? = some x) : bulkShip (l.take (k + 1)) = bulkShip (l.take k) + oneShip x := by
  rw [take_snoc' l k x h, bulkShip_append]; simp [bulkShip]
theorem bulkShip_le (l : List ShipD) (k : Nat) : bulkShip (l.take k) ≤ bulkShip l := by
  have e := bulkShip_append (l.take k) (l.drop k)
  rw [List.take_append_drop] at e
  have := bulkShip_pos (l.drop k)
  omega
set_option maxHeartbeats 1000000 in
theorem szShip_any (name : ByteArray) (length : Int) (draught : Int) (line : Int) (tugs : Int) (slow : Bool) (lim : Int) (w : World) (h0 : 0 ≤ lim) (h1 : lim ≤ 1048576) (hname : name.size ≤ 9223372036854775807) :
    Calls Tryz.prog 18 #[.agg #[.string name, .int .i64 length, .int .i64 draught, .int .i64 line, .int .i64 tugs, .bool slow], .int .i64 lim] w fun e w' => e = .returned (.int .i64 (leftOf lim (oneShip ⟨name, length, draught, line, tugs, slow⟩))) ∧ Below w.heap.size w w' := by
  obtain ⟨r, hr⟩ : ∃ r, leftOf lim (oneShip ⟨name, length, draught, line, tugs, slow⟩) = r := ⟨_, rfl⟩
  rw [hr]
  unfold leftOf oneShip at hr
  simp only at hr
  have HR := Lib.hid hr
  clear hr
  have w0 : IntKind.i64.wrap (lim - (name.size : Int)) = lim - (name.size : Int) := by rw [IntKind.wrap_i64]; omega
  by_cases t0 : lim - (name.size : Int) < 0
  · have E := HR.out
    rw [if_pos (by omega)] at E
    clear HR
    subst E
    go_enter Tryz.func18, Tryz.ntmps18
    go_wp2
    go_ret
    exact ⟨rfl, Joins.below_alloc1 _ _⟩
  have E := HR.out
  rw [if_neg (by omega)] at E
  have E2 : r = lim - (name.size : Int) := by omega
  clear HR E
  subst E2
  go_enter Tryz.func18, Tryz.ntmps18
  go_wp2
  go_ret
  exact ⟨rfl, Joins.below_alloc1 _ _⟩
set_option maxHeartbeats 1000000 in
theorem szShipS_any (A : Option Addr) (l : List ShipD) (c : Nat) (w : World) (hl : l.length ≤ 9223372036854775807) (hsl : l.length ≤ 1000000000 → SlShip w (.slice A l.length c) l) (hsz : ∀ x ∈ l, x.name.size ≤ 9223372036854775807) (lim : Int) (h0 : 0 ≤ lim) (h1 : lim ≤ 1048576) :
    Calls Tryz.prog 8 #[.slice A l.length c, .int .i64 lim] w fun e w' => e = .returned (.int .i64 (leftOf lim ((l.length : Int) + bulkShip l))) ∧ Below w.heap.size w w' := by
  have hp := bulkShip_pos l
  by_cases hlt : lim < (l.length : Int)
  · have E := Lib.hid (leftOf_no (lim := lim) (t := (l.length : Int) + bulkShip l) (by omega))
    clear hsl hsz hp
    go_enter Tryz.func8, Tryz.ntmps8
    go_wp2
    go_ret
    exact ⟨ret_int E.out.symm, Below.refl _ _⟩
  · obtain ⟨_, hs⟩ := hsl (by omega)
    have HZ := Lib.hid hsz
    clear hsl hsz
    have w0 : IntKind.i64.wrap (lim - (l.length : Int)) = lim - (l.length : Int) := by rw [IntKind.wrap_i64]; omega
    rcases hs with ⟨rfl, A', c', he⟩ | ⟨g, o, c', he, hpos, hcap, hc⟩
    · clear he
      go_enter Tryz.func8, Tryz.ntmps8
      go_wp2
      refine wp_loop_rounds 1 ?_
      rw [rounds_succ]
      go_wp2
      go_ret
      exact ⟨ret_int (by rw [leftOf_yes (by simp [bulkShip]; omega)]; simp [bulkShip]), Below.refl _ _⟩
    · injection he with hA _ hcp
      subst hA hcp
      have HC := Lib.hid hc
      clear hc
      go_enter Tryz.func8, Tryz.ntmps8
      go_wp2
      go_loopw [1, 5] (fun q i wr => ∃ k : Nat, k ≤ l.length ∧ i = .int .i64 k ∧ q = .int .i64 (lim - (l.length : Int) - bulkShip (l.take k)) ∧ 0 ≤ lim - (l.length : Int) - bulkShip (l.take k) ∧ Below w.heap.size w wr) (fun _ i _ => l.length - (intOf i).toNat)
      case atStart => exact ⟨0, Nat.zero_le _, rfl, by simp [bulkShip], by simp [bulkShip]; omega, Below.refl _ _⟩
      case round =>
        obtain ⟨k, hk, rfl, rfl, hle, hb⟩ := hrel
        have hpk := bulkShip_pos (l.take k)
        by_cases hkl : k < l.length
        · obtain ⟨x, hx⟩ : ∃ x, l[k]? = some x := ⟨_, List.getElem?_eq_getElem hkl⟩
          obtain ⟨q0, q1, q2, q3, q4, q5⟩ := SlShip.cells HC.out k x hx
          have hlt2 : g < w.heap.size := World.block_lt_of_cell? w ⟨g, o + k * 6, none⟩ q0
          have c0 := (hb.cell (p := ⟨g, o + k * 6, none⟩) hlt2).trans q0
          have c1 := (hb.cell (p := ⟨g, o + k * 6 + 1, none⟩) hlt2).trans q1
          have c2 := (hb.cell (p := ⟨g, o + k * 6 + 2, none⟩) hlt2).trans q2
          have c3 := (hb.cell (p := ⟨g, o + k * 6 + 3, none⟩) hlt2).trans q3
          have c4 := (hb.cell (p := ⟨g, o + k * 6 + 4, none⟩) hlt2).trans q4
          have c5 := (hb.cell (p := ⟨g, o + k * 6 + 5, none⟩) hlt2).trans q5
          have hn := bulkShip_next hx
          have hzx := HZ.out x (List.mem_of_getElem? hx)
          have hl2 := bulkShip_le l (k + 1)
          obtain ⟨z, hz⟩ : ∃ z, lim - (l.length : Int) - bulkShip (l.take k) = z := ⟨_, rfl⟩
          rw [hz] at hle
          have C := fun W => Lib.hid (szShip_any x.name x.length x.draught x.line x.tugs x.slow z W hle (by omega) hzx)
          have hzs := hb.size
          clear q0 q1 q2 q3 q4 q5 hx
          by_cases hneg : z < oneShip x
          · have EN := Lib.hid (leftOf_no (lim := lim) (t := (l.length : Int) + bulkShip l) (by omega))
            rw [show (⟨x.name, x.length, x.draught, x.line, x.tugs, x.slow⟩ : ShipD) = x from rfl] at C
            rw [leftOf_no hneg] at C
            rw [hz]
            clear hn hl2 hneg
            go_wp2_with fail
            refine (C _).out.mono ?_
            rintro e w1 ⟨rfl, hb1⟩
            go_wp2
            go_ret
            exact ⟨ret_int EN.out.symm, hb.trans (hb1.mono hzs)⟩
          · rw [show (⟨x.name, x.length, x.draught, x.line, x.tugs, x.slow⟩ : ShipD) = x from rfl] at C
            rw [leftOf_yes hneg] at C
            rw [hz]
            have hz2 : ¬ z - oneShip x < 0 := by omega
            go_wp2_with fail
            refine (C _).out.mono ?_
            rintro e w1 ⟨rfl, hb1⟩
            have B1 := Lib.hid (hb.trans (hb1.mono hzs))
            clear C hb1
            go_wp2
            go_roundw
            case rel => exact ⟨k + 1, by omega, by go_num, by rw [hn]; congr 1; omega, by rw [hn]; omega, B1.out⟩
            case measure => simp [intOf]; omega
        · obtain rfl : k = l.length := by omega
          rw [List.take_length] at hle ⊢
          go_wp2
          go_ret
          exact ⟨ret_int (by rw [leftOf_yes (by omega)]; omega), hb⟩
set_option maxHeartbeats 1000000 in
theorem eqShipS_same (va vb : Value) (l : List ShipD) (w : World) (ha : SlShip w va l) (hb : SlShip w vb l) :
    Calls Tryz.prog 17 #[va, vb] w fun e w' => e = .returned (.bool true) ∧ Below w.heap.size w w' := by
  obtain ⟨hl, ha⟩ := ha
  obtain ⟨_, hb⟩ := hb
  rcases ha with ⟨rfl, A, c, rfl⟩ | ⟨g, o, c, rfl, hp, _, hca⟩
  · rcases hb with ⟨_, A', c', rfl⟩ | ⟨g', o', c', rfl, hp, _, _⟩
    · go_enter Tryz.func17, Tryz.ntmps17
      go_wp2
      refine wp_loop_rounds 1 ?_
      rw [rounds_succ]
      go_wp2
      go_ret
      exact ⟨rfl, Below.refl _ _⟩
    · exact absurd hp (by simp)
  · rcases hb with ⟨rfl, A', c', rfl⟩ | ⟨g', o', c', rfl, _, _, hcb⟩
    · exact absurd hp (by simp)
    · have HA := Lib.hid hca
      have HB := Lib.hid hcb
      clear hca hcb
      go_enter Tryz.func17, Tryz.ntmps17
      go_wp2
      go_loopw [5] (fun i wr => ∃ k : Nat, k ≤ l.length ∧ i = .int .i64 k ∧ Below w.heap.size w wr) (fun i _ => l.length - (intOf i).toNat)
      case atStart => exact ⟨0, Nat.zero_le _, rfl, Below.refl _ _⟩
      case round =>
        obtain ⟨k, hk, rfl, hb⟩ := hrel
        by_cases hlt : k < l.length
        · obtain ⟨x, hx⟩ : ∃ x, l[k]? = some x := ⟨_, List.getElem?_eq_getElem hlt⟩
          obtain ⟨p0, p1, p2, p3, p4, p5⟩ := SlShip.cells HA.out k x hx
          obtain ⟨q0, q1, q2, q3, q4, q5⟩ := SlShip.cells HB.out k x hx
          have hg : g < w.heap.size := World.block_lt_of_cell? w ⟨g, o + k * 6, none⟩ p0
          have hg' : g' < w.heap.size := World.block_lt_of_cell? w ⟨g', o' + k * 6, none⟩ q0
          have a0 := (hb.cell (p := ⟨g, o + k * 6, none⟩) hg).trans p0
          have a1 := (hb.cell (p := ⟨g, o + k * 6 + 1, none⟩) hg).trans p1
          have a2 := (hb.cell (p := ⟨g, o + k * 6 + 2, none⟩) hg).trans p2
          have a3 := (hb.cell (p := ⟨g, o + k * 6 + 3, none⟩) hg).trans p3
          have a4 := (hb.cell (p := ⟨g, o + k * 6 + 4, none⟩) hg).trans p4
          have a5 := (hb.cell (p := ⟨g, o + k * 6 + 5, none⟩) hg).trans p5
          have b0 := (hb.cell (p := ⟨g', o' + k * 6, none⟩) hg').trans q0
          have b1 := (hb.cell (p := ⟨g', o' + k * 6 + 1, none⟩) hg').trans q1
          have b2 := (hb.cell (p := ⟨g', o' + k * 6 + 2, none⟩) hg').trans q2
          have b3 := (hb.cell (p := ⟨g', o' + k * 6 + 3, none⟩) hg').trans q3
          have b4 := (hb.cell (p := ⟨g', o' + k * 6 + 4, none⟩) hg').trans q4
          have b5 := (hb.cell (p := ⟨g', o' + k * 6 + 5, none⟩) hg').trans q5
          have hbs := hb.size
          clear p0 q0 p1 q1 p2 q2 p3 q3 p4 q4 p5 q5 hx
          go_wp2
          go_still_tail 8, (by kernel_rfl)
          change wpList _ _ _ _ _ wr.drew
          have hd := hb.drew
          generalize wr.drew = w2 at hd ⊢
          have hds := hd.size
          clear a0 b0 a1 b1 a2 b2 a3 b3 a4 b4 a5 b5 hb hbs
          go_wp2_with fail
          refine (eqShip_same _ _ _ _ _ _ _).mono ?_
          rintro e w3 ⟨rfl, hb3⟩
          have B3 := Lib.hid (hd.trans (hb3.mono hds))
          clear hb3 hd hds
          go_wp2
          go_roundw
          case rel => exact ⟨k + 1, by omega, by go_num, B3.out⟩
          case measure => simp [intOf]; omega
        · go_wp2
          go_ret
          exact ⟨rfl, hb⟩
section
variable {H : Type} {enc : TypeId × Value → H} {w : World} {base : Nat} {spare : Nat → Bool} {held : Bool}
def ShipD.wf (d : ShipD) : Prop := d.name.size ≤ maxLen ∧ (Lit.int .i64 d.length).wf = true ∧ (Lit.int .i64 d.draught).wf = true ∧ (Lit.int .i64 d.line).wf = true ∧ (Lit.int .i64 d.tugs).wf = true
theorem dec_ship (n : Nat) (cs : List Value) (y : DataW H × List MemPlace) (h : DataW.trod enc Tryz.prog w base spare held n 60 cs = some y) : ∃ d : ShipD, cs = d.cells ∧ d.wf := by
  obtain ⟨hl, hf⟩ := struct_cells Tryz.underlying60 (by kernel_rfl) (by kernel_rfl) h
  obtain ⟨v0, n0, y0, e0, h0⟩ := hf 0 _ rfl
  obtain ⟨v1, n1, y1, e1, h1⟩ := hf 1 _ rfl
  obtain ⟨v2, n2, y2, e2, h2⟩ := hf 2 _ rfl
  obtain ⟨v3, n3, y3, e3, h3⟩ := hf 3 _ rfl
  obtain ⟨v4, n4, y4, e4, h4⟩ := hf 4 _ rfl
  obtain ⟨v5, n5, y5, e5, h5⟩ := hf 5 _ rfl
  obtain ⟨a0, ha0, _, wa0⟩ := DataW.trod_string Tryz.underlying9 h0
  obtain ⟨a1, ha1, _, wa1⟩ := DataW.trod_int Tryz.underlying3 h1
  obtain ⟨a2, ha2, _, wa2⟩ := DataW.trod_int Tryz.underlying3 h2
  obtain ⟨a3, ha3, _, wa3⟩ := DataW.trod_int Tryz.underlying3 h3
  obtain ⟨a4, ha4, _, wa4⟩ := DataW.trod_int Tryz.underlying3 h4
  obtain ⟨a5, ha5, _⟩ := DataW.trod_bool Tryz.underlying4 h5
  simp only [List.cons.injEq, and_true] at ha0 ha1 ha2 ha3 ha4 ha5
  subst ha0 ha1 ha2 ha3 ha4 ha5
  refine ⟨⟨a0, a1, a2, a3, a4, a5⟩, ?_, wa0, wa1, wa2, wa3, wa4⟩
  match cs, hl with
  | [c0, c1, c2, c3, c4, c5], _ =>
    simp at e0 e1 e2 e3 e4 e5
    subst e0 e1 e2 e3 e4 e5
    rfl
theorem wfszShip {x : ShipD} (h : x.wf) : x.name.size ≤ 9223372036854775807 := by have h' := (show _ from h).1; unfold maxLen at h'; omega
theorem open_ships {fuel : Nat} {v : Value} {x : DataW H × List MemPlace} (h : DataW.trod enc Tryz.prog w base (fun _ => true) held fuel 32 [v] = some x) :
    ∃ A c l, v = .slice A l.length c ∧ l.length ≤ maxLen ∧ (l.length ≤ 1000000000 → SlShip w (.slice A l.length c) l) ∧ ∀ d ∈ l, ShipD.wf d :=
  open_elems ShipD.cells 6 ShipD.wf Tryz.underlying32 (by kernel_rfl) shipLen (by omega) dec_ship h
theorem open_ship_arg {r : Reach} {b0 : Nat} {v : Value} {d : DataW H} {ps : List MemPlace} (hval : Value.okWide Tryz.prog w r b0 60 v) (hd : DataW.Trod enc Tryz.prog w 0 (fun _ => true) true 60 v d ps) :
    ∃ p : ShipD, v = p.val ∧ p.wf := by
  obtain ⟨cs, rfl, hsz⟩ := okWide_struct Tryz.underlying60 hval
  obtain ⟨fuel, hf⟩ := hd
  obtain ⟨p, hp, hw⟩ := dec_ship _ _ _ hf
  refine ⟨p, ?_, hw⟩
  obtain ⟨l⟩ := cs
  simp [Value.cells] at hp
  rw [hp]
end
end Go.Proofs.YtooeikimoheecaaGreat
namespace Go.Proofs.YtooeikimoheecaaGreat
open Go.RowKit
theorem l01In_nm (n lo hi : Int) (w : World) :
    Calls Tryz.prog 63 #[.int .i64 n, .int .i64 lo, .int .i64 hi] w fun e w' => e = .returned (.bool (nmIn n lo hi)) ∧ w = w' := by
  by_cases h1 : lo ≤ n
  · by_cases h2 : n ≤ hi
    · have hn := Lib.hid (show nmIn n lo hi = true from decide_eq_true ⟨h1, h2⟩)
      go_enter Tryz.func63, Tryz.ntmps63
      go_wp2
      go_ret
      exact ⟨ret_bool hn.out.symm, rfl⟩
    · have hn := Lib.hid (show nmIn n lo hi = false from decide_eq_false fun h => h2 h.2)
      go_enter Tryz.func63, Tryz.ntmps63
      go_wp2
      go_ret
      exact ⟨ret_bool hn.out.symm, rfl⟩
  · have hn := Lib.hid (show nmIn n lo hi = false from decide_eq_false fun h => h1 h.1)
    go_enter Tryz.func63, Tryz.ntmps63
    go_wp2
    go_ret
    exact ⟨ret_bool hn.out.symm, rfl⟩
set_option maxHeartbeats 1000000 in
theorem specIsName (s : ByteArray) (w : World) (hs : s.size ≤ maxLen) :
    Calls Tryz.prog 84 #[.string s] w fun e w' => e = .returned (.bool (nameB s)) ∧ w = w' := by
  unfold maxLen at hs
  go_enter Tryz.func84, Tryz.ntmps84
  go_wp2
  go_loop [3] (fun i => ∃ k : Nat, k ≤ s.size ∧ i = .int .i64 k ∧ Hid (preB (s.data.toList.take k) = true)) (fun i => s.size - (intOf i).toNat)
  case atStart => exact ⟨0, Nat.zero_le _, rfl, rfl⟩
  case round =>
    obtain ⟨k, hk, rfl, hd⟩ := hrel
    by_cases hlt : k < s.size
    · have hst := Lib.hid (nm_step s k hlt hd.out)
      by_cases h1 : 97 ≤ (s[k].toNat : Int) ∧ (s[k].toNat : Int) ≤ 122
      · obtain ⟨h1, h2⟩ := h1
        have hy := Lib.hid (hst.out.trans (nmAt_letter k h1 h2))
        clear hst
        go_wp2
        go_round
        case rel => exact ⟨k + 1, by omega, by go_num, hy⟩
        case measure => simp [intOf]; omega
      · have hl : (s[k].toNat : Int) < 97 ∨ 122 < (s[k].toNat : Int) := by omega
        by_cases hd2 : (48 ≤ (s[k].toNat : Int) ∧ (s[k].toNat : Int) ≤ 57) ∧ k ≠ 0
        · obtain ⟨⟨h3, h4⟩, h5⟩ := hd2
          have hy := Lib.hid (hst.out.trans (nmAt_digit h5 h3 h4))
          have h97 : ¬ 97 ≤ (s[k].toNat : Int) := by omega
          have hz : ((k : Int) == 0) = false := by simpa using h5
          clear hst hl h1 h5
          go_wp2
          go_round
          case rel => exact ⟨k + 1, by omega, by go_num, hy⟩
          case measure => simp [intOf]; omega
        · have hno : nmAt k (s[k].toNat : Int) = false := by
            by_cases hk0 : k = 0
            · subst hk0; exact nmAt_zero hl
            · exact nmAt_other k hl (by omega)
          have hn := Lib.hid (nm_not s k hlt hno)
          clear hst hno
          have hcase : (k = 0) ∨ (k ≠ 0 ∧ ((s[k].toNat : Int) < 48 ∨ 57 < (s[k].toNat : Int))) := by omega
          clear hd2 h1
          rcases hl with hl | hl
          · have h97 : ¬ 97 ≤ (s[k].toNat : Int) := by omega
            rcases hcase with h0 | ⟨h0, hq | hq⟩
            · have hz : ((k : Int) == 0) = true := by simpa using h0
              clear h0
              go_wp2
              go_ret
              exact ⟨ret_bool hn.out.symm, rfl⟩
            · have hz : ((k : Int) == 0) = false := by simpa using h0
              clear h0
              go_wp2
              go_ret
              exact ⟨ret_bool hn.out.symm, rfl⟩
            · have hz : ((k : Int) == 0) = false := by simpa using h0
              have hq' : ¬ (s[k].toNat : Int) < 48 := by omega
              clear h0
              go_wp2
              go_ret
              exact ⟨ret_bool hn.out.symm, rfl⟩
          · have h97 : 97 ≤ (s[k].toNat : Int) := by omega
            have h122 : ¬ (s[k].toNat : Int) ≤ 122 := by omega
            have h48 : ¬ (s[k].toNat : Int) < 48 := by omega
            have h57 : 57 < (s[k].toNat : Int) := by omega
            clear hcase
            by_cases h0 : k = 0
            · have hz : ((k : Int) == 0) = true := by simpa using h0
              clear h0
              go_wp2
              go_ret
              exact ⟨ret_bool hn.out.symm, rfl⟩
            · have hz : ((k : Int) == 0) = false := by simpa using h0
              clear h0
              go_wp2
              go_ret
              exact ⟨ret_bool hn.out.symm, rfl⟩
    · have hn := Lib.hid (nm_end s k (by omega) hd.out)
      go_wp2_with (go_at_call 63; refine (l01In_nm _ _ _ _).mono ?_; rintro e w' ⟨rfl, rfl⟩)
      go_ret
      exact ⟨ret_bool (Eq.trans (show nmIn (s.size : Int) 1 8 = decide (1 ≤ s.size ∧ s.size ≤ 8) from decide_eq_decide.2 (by omega)) hn.out.symm), rfl⟩
end Go.Proofs.YtooeikimoheecaaGreat
namespace Go.Proofs.YtooeikimoheecaaGreat
open Go.RowKit
/-- Two slices in different blocks. -/
def ApartV (v u : Value) : Prop := ∀ g, v.ownBlock = some g → u.ownBlock ≠ some g
theorem ApartV.ne {v u : Value} (h : ApartV v u) : (u.ownBlock = none ∨ u.ownBlock ≠ v.ownBlock) ∧ (v.ownBlock = none ∨ v.ownBlock ≠ u.ownBlock) := by
  cases hv : v.ownBlock with
  | none => exact ⟨by cases hu : u.ownBlock with | none => exact .inl rfl | some g => exact .inr (by simp), .inl rfl⟩
  | some g => exact ⟨.inr (h g hv), .inr (fun e => h g hv e.symm)⟩
theorem bcellV {W w1 : World} (hb : Below W.heap.size W w1) : (∀ b o, b < W.heap.size → w1.cell? ⟨b, o, none⟩ = W.cell? ⟨b, o, none⟩) ∧ (∀ b o, b < W.heap.size → w1.frozen? ⟨b, o, none⟩ = W.frozen? ⟨b, o, none⟩) :=
  ⟨fun b o h => hb.cell (p := ⟨b, o, none⟩) h, fun b o h => hb.frozen (p := ⟨b, o, none⟩) h⟩
theorem cell_onV {a b : World} {p : Addr} {v : Value} (h : a.cell? p = some v) (hb : Below a.heap.size a b) : b.cell? p = some v := (hb.cell (World.block_lt_of_cell? a _ h)).trans h
/-- A slice whose block nothing has frozen. -/
def FreeV (w : World) (v : Value) : Prop := ∀ g, v.ownBlock = some g → (∀ j, w.frozen? ⟨g, j, none⟩ = false) ∧ g < w.heap.size
theorem FreeV.below {w w' : World} {v : Value} (h : FreeV w v) (hb : Below w.heap.size w w') : FreeV w' v := fun g hg =>
  ⟨fun j => (hb.frozen (p := ⟨g, j, none⟩) (h g hg).2).trans ((h g hg).1 j), Nat.lt_of_lt_of_le (h g hg).2 hb.size⟩
theorem FreeV.grown {w w' : World} {v : Value} {row : Option Nat} (h : FreeV w v) (hg : w.grownBy w' row) (hne : v.ownBlock = none ∨ v.ownBlock ≠ row) : FreeV w' v := fun g hgv => by
  have e := hg.block g (h g hgv).2 (fun e => by
    rcases hne with hn | hn
    · rw [hgv] at hn; cases hn
    · exact hn (hgv.trans e))
  refine ⟨fun j => ?_, Nat.lt_of_lt_of_le (h g hgv).2 hg.size⟩
  have := (h g hgv).1 j
  simpa [World.frozen?, e] using this
theorem own_freeV {α : Type} {k : Nat} {cs : α → List Value} {t : TypeId} {w : World} {base : Nat} {v : Value} {l : List α} (h : OwnOf k cs t w base v l) : FreeV w v := by
  intro g hg
  rcases Joins.ownsRow_forms h with ⟨rfl, _⟩ | ⟨g', cap, rfl⟩
  · simp [Value.ownBlock] at hg
  · have e : g' = g := by simpa [Value.ownBlock] using hg
    subst e
    exact ⟨fun j => World.ownsRow.frozenAt h _, (World.ownsRow.lt h g' hg).2⟩
end Go.Proofs.YtooeikimoheecaaGreat
