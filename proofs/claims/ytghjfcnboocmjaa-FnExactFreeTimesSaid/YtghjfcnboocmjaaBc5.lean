
/- What ExactFreeTimes and BerthsLaw rests on, part 5: contracts and mathematics. -/
import Derived.Test.YtghjfcnboocmjaaBc1
import Derived.Test.YtghjfcnboocmjaaBc3
import Derived.StillTailTactics
namespace Go.Proofs.Ytghjfcnboocmjaa
open Go.ChangeShapes Go.WideShapes Go.ChangeAt Go.Deep Go.RowKit
set_option maxRecDepth 100000
structure BerthD where
  name : ByteArray
  length : Int
  depth : Int
@[reducible] def BerthD.val (d : BerthD) : Value := .agg #[.string d.name, .int .i64 d.length, .int .i64 d.depth]
@[reducible] def BerthD.cells (d : BerthD) : List Value := [.string d.name, .int .i64 d.length, .int .i64 d.depth]
theorem berthLen (d : BerthD) : d.cells.length = 3 := rfl
def SlBerth : World → Value → List BerthD → Prop := SlOf 3 BerthD.cells
def OwnBerth : World → Nat → Value → List BerthD → Prop := OwnOf 3 BerthD.cells 41
def NewBerth : List BerthD → World → Ending → World → Prop := NewOf 3 BerthD.cells 41
theorem SlBerth.at {w : World} {v : Value} {l : List BerthD} (h : SlBerth w v l) : ∃ A c, v = .slice A l.length c := SlOf.form h
theorem SlBerth.below {w w' : World} {v : Value} {l : List BerthD} (h : SlBerth w v l) (hb : Below w.heap.size w w') : SlBerth w' v l := SlOf.below h hb
theorem OwnBerth.sl {w : World} {base : Nat} {v : Value} {l : List BerthD} (h : OwnBerth w base v l) (hl : l.length ≤ 1000000000) : SlBerth w v l := own_sl berthLen h hl
theorem SlBerth.cells {w : World} {l : List BerthD} {g o : Nat} (hc : ∀ i x, l[i]? = some x → ∀ j u, (BerthD.cells x)[j]? = some u → w.cell? ⟨g, o + i * 3 + j, none⟩ = some u) (i : Nat) (x : BerthD) (hx : l[i]? = some x) :
    w.cell? ⟨g, o + i * 3, none⟩ = some (.string x.name) ∧ w.cell? ⟨g, o + i * 3 + 1, none⟩ = some (.int .i64 x.length) ∧ w.cell? ⟨g, o + i * 3 + 2, none⟩ = some (.int .i64 x.depth) :=
  ⟨hc i x hx 0 _ rfl, hc i x hx 1 _ rfl, hc i x hx 2 _ rfl⟩
def zeroBerth : List Value := [.string ⟨#[]⟩, .int .i64 0, .int .i64 0]
theorem info_berth : (Try.prog.info? 41).map (fun i => (i.zero, i.size, i.bytes)) = some (some (.agg #[.string ⟨#[]⟩, .int .i64 0, .int .i64 0]), 3, 32) := by kernel_rfl
theorem make_berths (n : Nat) (hn : n ≤ 1000000000) (W : World) :
    (Instr.makeSlice 23 (.int .i64 (n : Int)) (.int .i64 (n : Int))).run Try.prog W = .ok (.slice (some ⟨W.heap.size, 0, none⟩) n n) (W.alloc (.cells (madeCells #[.string ⟨#[]⟩, .int .i64 0, .int .i64 0] (n * 3)) 41)) := by
  obtain ⟨i0, hi, hz0, hz1, hz2⟩ := info_parts info_berth
  have hr := run_make (P := Try.prog) W 23 41 i0 _ Try.underlying23 hi hz0 .i64 .i64 n n (by omega) (Int.le_refl _) (by rw [hz2]; omega) (by omega)
  simp only [Int.toNat_natCast, hz1] at hr
  exact hr
theorem toBerth_any (name : ByteArray) (length : Int) (depth : Int) (w : World) : Calls Try.prog 27 #[.agg #[.string name, .int .i64 length, .int .i64 depth]] w fun e w' => e = .returned (.agg #[.string name, .int .i64 length, .int .i64 depth]) ∧ Below w.heap.size w w' := by
  go_enter Try.func27, Try.ntmps27
  go_wp2
  refine bodyPost_ret (v := .agg #[.string name, .int .i64 length, .int .i64 depth]) (by simp [results, Try.results27, go_sem]) rfl ⟨rfl, ?_⟩
  repeat (first | exact Below.refl _ _ | refine Below.setCell ?_ (by simp <;> omega) _ | refine Below.alloc ?_ (by simp <;> omega) _)
theorem eqBerth_same (name : ByteArray) (length : Int) (depth : Int) (w : World) : Calls Try.prog 66 #[.agg #[.string name, .int .i64 length, .int .i64 depth], .agg #[.string name, .int .i64 length, .int .i64 depth]] w fun e w' => e = .returned (.bool true) ∧ Below w.heap.size w w' := by
  go_enter Try.func66, Try.ntmps66
  go_wp2
  go_ret
  exact ⟨rfl, Joins.below_alloc2 _ _ _⟩
set_option maxHeartbeats 1000000 in
theorem toBerthS_any (v : Value) (l : List BerthD) (w : World) (h : SlBerth w v l) :
    Calls Try.prog 22 #[v] w (NewBerth l w) := by
  obtain ⟨hl, h⟩ := h
  have hmk := make_berths l.length hl
  rcases h with ⟨rfl, A, c, rfl⟩ | ⟨g, o, c, rfl, hp, hcap, hc⟩
  · have hmk0 : ∀ W : World, (Instr.makeSlice 23 (.int .i64 0) (.int .i64 0)).run Try.prog W = .ok (.slice (some ⟨W.heap.size, 0, none⟩) 0 0) (W.alloc (.cells (madeCells #[.string ⟨#[]⟩, .int .i64 0, .int .i64 0] (0 * 3)) 41)) := make_berths 0 (by omega)
    clear hmk
    go_enter Try.func22, Try.ntmps22
    go_wp2
    refine wp_loop_rounds 1 ?_
    rw [rounds_succ]
    go_wp2
    go_ret
    have h := World.ownsRow_lit (base := w.heap.size) (e := 41) (size := 3) w (madeCells #[.string ⟨#[]⟩, .int .i64 0, .int .i64 0] (0 * 3)) 0 (Nat.le_refl _) (by decide) (by rw [size_madeCells])
    rw [show (madeCells #[Value.string ⟨#[]⟩, .int .i64 0, .int .i64 0] (0 * 3)).toList = [] by simp [madeCells]] at h
    exact ⟨_, rfl, h, (Below.refl _ _).alloc (Nat.le_refl _) _⟩
  · have HC := Lib.hid hc
    clear hc
    go_enter Try.func22, Try.ntmps22
    go_wp2
    clear hmk
    go_loopw [4] (fun i wr => ∃ k : Nat, k ≤ l.length ∧ i = .int .i64 k ∧ Hid (wr.ownsRow w.heap.size 41 3 (.slice (some ⟨w.heap.size, 0, none⟩) l.length l.length) l.length (halfOf BerthD.cells zeroBerth l k)) ∧ Below w.heap.size w wr) (fun i _ => l.length - (intOf i).toNat)
    case atStart =>
      refine ⟨0, Nat.zero_le _, rfl, ?_, (Below.refl _ _).alloc (Nat.le_refl _) _⟩
      have h := World.ownsRow_lit (base := w.heap.size) (e := 41) (size := 3) w (madeCells #[.string ⟨#[]⟩, .int .i64 0, .int .i64 0] (l.length * 3)) l.length (Nat.le_refl _) (by unfold maxLen; omega) (by rw [size_madeCells])
      have e := made_flat #[.string ⟨#[]⟩, .int .i64 0, .int .i64 0] l.length
      rw [half_none]
      exact Lib.hid (e ▸ h)
    case round =>
      obtain ⟨k, hk, rfl, hown, hb⟩ := hrel
      by_cases hlt : k < l.length
      · obtain ⟨x, hx⟩ : ∃ x, l[k]? = some x := ⟨_, List.getElem?_eq_getElem hlt⟩
        obtain ⟨q0, q1, q2⟩ := SlBerth.cells HC.out k x hx
        have hlt2 : g < w.heap.size := World.block_lt_of_cell? w ⟨g, o + k * 3, none⟩ q0
        have c0 := (hb.cell (p := ⟨g, o + k * 3, none⟩) hlt2).trans q0
        have c1 := (hb.cell (p := ⟨g, o + k * 3 + 1, none⟩) hlt2).trans q1
        have c2 := (hb.cell (p := ⟨g, o + k * 3 + 2, none⟩) hlt2).trans q2
        have Hx := Lib.hid hx
        clear q0 q1 q2 hx
        go_wp2_with fail
        refine (toBerth_any _ _ _ _).mono ?_
        rintro e w1 ⟨rfl, hb1⟩
        have own1 := ownsRow_below hown.out hb1
        have B1 : Below w.heap.size w w1 := hb.trans (hb1.mono hb.size)
        have s0 : w1.cell? ⟨w.heap.size, k * 3, none⟩ = some (.string ⟨#[]⟩) := (World.ownsRow.cellAt own1 (k * 3) (by omega)).trans (half_at berthLen l k hlt 0 _ rfl)
        have s1 : w1.cell? ⟨w.heap.size, k * 3 + 1, none⟩ = some (.int .i64 0) := (World.ownsRow.cellAt own1 (k * 3 + 1) (by omega)).trans (half_at berthLen l k hlt 1 _ rfl)
        have s2 : w1.cell? ⟨w.heap.size, k * 3 + 2, none⟩ = some (.int .i64 0) := (World.ownsRow.cellAt own1 (k * 3 + 2) (by omega)).trans (half_at berthLen l k hlt 2 _ rfl)
        have z0 : w1.frozen? ⟨w.heap.size, k * 3, none⟩ = false := World.ownsRow.frozenAt own1 _
        have z1 : w1.frozen? ⟨w.heap.size, k * 3 + 1, none⟩ = false := World.ownsRow.frozenAt own1 _
        have z2 : w1.frozen? ⟨w.heap.size, k * 3 + 2, none⟩ = false := World.ownsRow.frozenAt own1 _
        have hst := (World.ownsRow.stored (World.ownsRow.stored (World.ownsRow.stored own1 (k * 3) (.string x.name)).1 (k * 3 + 1) (.int .i64 x.length)).1 (k * 3 + 2) (.int .i64 x.depth)).1
        have e := half_set berthLen (zc := zeroBerth) rfl l k x Hx.out
        have HO := Lib.hid ((show ((((halfOf BerthD.cells zeroBerth l k).set (k * 3) (.string x.name)).set (k * 3 + 1) (.int .i64 x.length)).set (k * 3 + 2) (.int .i64 x.depth)) = halfOf BerthD.cells zeroBerth l (k + 1) from e) ▸ hst)
        have HB := Lib.hid (((B1.setCell (p := ⟨w.heap.size, k * 3, none⟩) (Nat.le_refl _) (.string x.name)).setCell (p := ⟨w.heap.size, k * 3 + 1, none⟩) (Nat.le_refl _) (.int .i64 x.length)).setCell (p := ⟨w.heap.size, k * 3 + 2, none⟩) (Nat.le_refl _) (.int .i64 x.depth))
        clear own1 hst e hb1 B1
        go_wp2
        go_roundw
        case rel => exact ⟨k + 1, by omega, by go_num, HO, HB.out⟩
        case measure => simp [intOf]; omega
      · go_wp2
        go_ret
        obtain rfl : k = l.length := by omega
        have ho := hown.out
        rw [half_full] at ho
        exact ⟨_, rfl, ho, hb⟩
def oneBerth (x : BerthD) : Int := (x.name.size : Int)
def bulkBerth : List BerthD → Int
  | [] => 0
  | x :: l => oneBerth x + bulkBerth l
theorem bulkBerth_append (a b : List BerthD) : bulkBerth (a ++ b) = bulkBerth a + bulkBerth b := by
  induction a with
  | nil => simp [bulkBerth]
  | cons x a ih => simp only [List.cons_append, bulkBerth, ih]; omega
theorem oneBerth_pos (x : BerthD) : 0 ≤ oneBerth x := by unfold oneBerth; omega
theorem bulkBerth_pos (l : List BerthD) : 0 ≤ bulkBerth l := by
  induction l with
  | nil => exact Int.le_refl _
  | cons x l ih => have := oneBerth_pos x; simp only [bulkBerth]; omega
theorem bulkBerth_next {l : List BerthD} {k : Nat} {x : BerthD} (h : l[k]? = some x) : bulkBerth (l.take (k + 1)) = bulkBerth (l.take k) + oneBerth x := by
  rw [take_snoc' l k x h, bulkBerth_append]; simp [bulkBerth]
theorem bulkBerth_le (l : List BerthD) (k : Nat) : bulkBerth (l.take k) ≤ bulkBerth l := by
  have e := bulkBerth_append (l.take k) (l.drop k)
  rw [List.take_append_drop] at e
  have := bulkBerth_pos (l.drop k)
  omega
set_option maxHeartbeats 1000000 in
theorem szBerth_any (name : ByteArray) (length : Int) (depth : Int) (lim : Int) (w : World) (h0 : 0 ≤ lim) (h1 : lim ≤ 1048576) (hname : name.size ≤ 9223372036854775807) :
    Calls Try.prog 24 #[.agg #[.string name, .int .i64 length, .int .i64 depth], .int .i64 lim] w fun e w' => e = .returned (.int .i64 (leftOf lim (oneBerth ⟨name, length, depth⟩))) ∧ Below w.heap.size w w' := by
  obtain ⟨r, hr⟩ : ∃ r, leftOf lim (oneBerth ⟨name, length, depth⟩) = r := ⟨_, rfl⟩
  rw [hr]
  unfold leftOf oneBerth at hr
  simp only at hr
  have HR := Lib.hid hr
  clear hr
  have w0 : IntKind.i64.wrap (lim - (name.size : Int)) = lim - (name.size : Int) := by rw [IntKind.wrap_i64]; omega
  by_cases t0 : lim - (name.size : Int) < 0
  · have E := HR.out
    rw [if_pos (by omega)] at E
    clear HR
    subst E
    go_enter Try.func24, Try.ntmps24
    go_wp2
    go_ret
    exact ⟨rfl, Joins.below_alloc1 _ _⟩
  have E := HR.out
  rw [if_neg (by omega)] at E
  have E2 : r = lim - (name.size : Int) := by omega
  clear HR E
  subst E2
  go_enter Try.func24, Try.ntmps24
  go_wp2
  go_ret
  exact ⟨rfl, Joins.below_alloc1 _ _⟩
set_option maxHeartbeats 1000000 in
theorem szBerthS_any (A : Option Addr) (l : List BerthD) (c : Nat) (w : World) (hl : l.length ≤ 9223372036854775807) (hsl : l.length ≤ 1000000000 → SlBerth w (.slice A l.length c) l) (hsz : ∀ x ∈ l, x.name.size ≤ 9223372036854775807) (lim : Int) (h0 : 0 ≤ lim) (h1 : lim ≤ 1048576) :
    Calls Try.prog 20 #[.slice A l.length c, .int .i64 lim] w fun e w' => e = .returned (.int .i64 (leftOf lim ((l.length : Int) + bulkBerth l))) ∧ Below w.heap.size w w' := by
  have hp := bulkBerth_pos l
  by_cases hlt : lim < (l.length : Int)
  · have E := Lib.hid (leftOf_no (lim := lim) (t := (l.length : Int) + bulkBerth l) (by omega))
    clear hsl hsz hp
    go_enter Try.func20, Try.ntmps20
    go_wp2
    go_ret
    exact ⟨ret_int E.out.symm, Below.refl _ _⟩
  · obtain ⟨_, hs⟩ := hsl (by omega)
    have HZ := Lib.hid hsz
    clear hsl hsz
    have w0 : IntKind.i64.wrap (lim - (l.length : Int)) = lim - (l.length : Int) := by rw [IntKind.wrap_i64]; omega
    rcases hs with ⟨rfl, A', c', he⟩ | ⟨g, o, c', he, hpos, hcap, hc⟩
    · clear he
      go_enter Try.func20, Try.ntmps20
      go_wp2
      refine wp_loop_rounds 1 ?_
      rw [rounds_succ]
      go_wp2
      go_ret
      exact ⟨ret_int (by rw [leftOf_yes (by simp [bulkBerth]; omega)]; simp [bulkBerth]), Below.refl _ _⟩
    · injection he with hA _ hcp
      subst hA hcp
      have HC := Lib.hid hc
      clear hc
      go_enter Try.func20, Try.ntmps20
      go_wp2
      go_loopw [1, 5] (fun q i wr => ∃ k : Nat, k ≤ l.length ∧ i = .int .i64 k ∧ q = .int .i64 (lim - (l.length : Int) - bulkBerth (l.take k)) ∧ 0 ≤ lim - (l.length : Int) - bulkBerth (l.take k) ∧ Below w.heap.size w wr) (fun _ i _ => l.length - (intOf i).toNat)
      case atStart => exact ⟨0, Nat.zero_le _, rfl, by simp [bulkBerth], by simp [bulkBerth]; omega, Below.refl _ _⟩
      case round =>
        obtain ⟨k, hk, rfl, rfl, hle, hb⟩ := hrel
        have hpk := bulkBerth_pos (l.take k)
        by_cases hkl : k < l.length
        · obtain ⟨x, hx⟩ : ∃ x, l[k]? = some x := ⟨_, List.getElem?_eq_getElem hkl⟩
          obtain ⟨q0, q1, q2⟩ := SlBerth.cells HC.out k x hx
          have hlt2 : g < w.heap.size := World.block_lt_of_cell? w ⟨g, o + k * 3, none⟩ q0
          have c0 := (hb.cell (p := ⟨g, o + k * 3, none⟩) hlt2).trans q0
          have c1 := (hb.cell (p := ⟨g, o + k * 3 + 1, none⟩) hlt2).trans q1
          have c2 := (hb.cell (p := ⟨g, o + k * 3 + 2, none⟩) hlt2).trans q2
          have hn := bulkBerth_next hx
          have hzx := HZ.out x (List.mem_of_getElem? hx)
          have hl2 := bulkBerth_le l (k + 1)
          obtain ⟨z, hz⟩ : ∃ z, lim - (l.length : Int) - bulkBerth (l.take k) = z := ⟨_, rfl⟩
          rw [hz] at hle
          have C := fun W => Lib.hid (szBerth_any x.name x.length x.depth z W hle (by omega) hzx)
          have hzs := hb.size
          clear q0 q1 q2 hx
          by_cases hneg : z < oneBerth x
          · have EN := Lib.hid (leftOf_no (lim := lim) (t := (l.length : Int) + bulkBerth l) (by omega))
            rw [show (⟨x.name, x.length, x.depth⟩ : BerthD) = x from rfl] at C
            rw [leftOf_no hneg] at C
            rw [hz]
            clear hn hl2 hneg
            go_wp2_with fail
            refine (C _).out.mono ?_
            rintro e w1 ⟨rfl, hb1⟩
            go_wp2
            go_ret
            exact ⟨ret_int EN.out.symm, hb.trans (hb1.mono hzs)⟩
          · rw [show (⟨x.name, x.length, x.depth⟩ : BerthD) = x from rfl] at C
            rw [leftOf_yes hneg] at C
            rw [hz]
            have hz2 : ¬ z - oneBerth x < 0 := by omega
            go_wp2_with fail
            refine (C _).out.mono ?_
            rintro e w1 ⟨rfl, hb1⟩
            have B1 := Lib.hid (hb.trans (hb1.mono hzs))
            clear C hb1
            go_wp2
            go_roundw
            case rel => exact ⟨k + 1, by omega, by go_num, by rw [hn]; congr 1; omega, by rw [hn]; omega, B1.out⟩
            case measure => simp [intOf]; omega
        · obtain rfl : k = l.length := by omega
          rw [List.take_length] at hle ⊢
          go_wp2
          go_ret
          exact ⟨ret_int (by rw [leftOf_yes (by omega)]; omega), hb⟩
set_option maxHeartbeats 1000000 in
theorem eqBerthS_same (va vb : Value) (l : List BerthD) (w : World) (ha : SlBerth w va l) (hb : SlBerth w vb l) :
    Calls Try.prog 23 #[va, vb] w fun e w' => e = .returned (.bool true) ∧ Below w.heap.size w w' := by
  obtain ⟨hl, ha⟩ := ha
  obtain ⟨_, hb⟩ := hb
  rcases ha with ⟨rfl, A, c, rfl⟩ | ⟨g, o, c, rfl, hp, _, hca⟩
  · rcases hb with ⟨_, A', c', rfl⟩ | ⟨g', o', c', rfl, hp, _, _⟩
    · go_enter Try.func23, Try.ntmps23
      go_wp2
      refine wp_loop_rounds 1 ?_
      rw [rounds_succ]
      go_wp2
      go_ret
      exact ⟨rfl, Below.refl _ _⟩
    · exact absurd hp (by simp)
  · rcases hb with ⟨rfl, A', c', rfl⟩ | ⟨g', o', c', rfl, _, _, hcb⟩
    · exact absurd hp (by simp)
    · have HA := Lib.hid hca
      have HB := Lib.hid hcb
      clear hca hcb
      go_enter Try.func23, Try.ntmps23
      go_wp2
      go_loopw [5] (fun i wr => ∃ k : Nat, k ≤ l.length ∧ i = .int .i64 k ∧ Below w.heap.size w wr) (fun i _ => l.length - (intOf i).toNat)
      case atStart => exact ⟨0, Nat.zero_le _, rfl, Below.refl _ _⟩
      case round =>
        obtain ⟨k, hk, rfl, hb⟩ := hrel
        by_cases hlt : k < l.length
        · obtain ⟨x, hx⟩ : ∃ x, l[k]? = some x := ⟨_, List.getElem?_eq_getElem hlt⟩
          obtain ⟨p0, p1, p2⟩ := SlBerth.cells HA.out k x hx
          obtain ⟨q0, q1, q2⟩ := SlBerth.cells HB.out k x hx
          have hg : g < w.heap.size := World.block_lt_of_cell? w ⟨g, o + k * 3, none⟩ p0
          have hg' : g' < w.heap.size := World.block_lt_of_cell? w ⟨g', o' + k * 3, none⟩ q0
          have a0 := (hb.cell (p := ⟨g, o + k * 3, none⟩) hg).trans p0
          have a1 := (hb.cell (p := ⟨g, o + k * 3 + 1, none⟩) hg).trans p1
          have a2 := (hb.cell (p := ⟨g, o + k * 3 + 2, none⟩) hg).trans p2
          have b0 := (hb.cell (p := ⟨g', o' + k * 3, none⟩) hg').trans q0
          have b1 := (hb.cell (p := ⟨g', o' + k * 3 + 1, none⟩) hg').trans q1
          have b2 := (hb.cell (p := ⟨g', o' + k * 3 + 2, none⟩) hg').trans q2
          have hbs := hb.size
          clear p0 q0 p1 q1 p2 q2 hx
          go_wp2
          go_still_tail 8, (by kernel_rfl)
          change wpList _ _ _ _ _ wr.drew
          have hd := hb.drew
          generalize wr.drew = w2 at hd ⊢
          have hds := hd.size
          clear a0 b0 a1 b1 a2 b2 hb hbs
          go_wp2_with fail
          refine (eqBerth_same _ _ _ _).mono ?_
          rintro e w3 ⟨rfl, hb3⟩
          have B3 := Lib.hid (hd.trans (hb3.mono hds))
          clear hb3 hd hds
          go_wp2
          go_roundw
          case rel => exact ⟨k + 1, by omega, by go_num, B3.out⟩
          case measure => simp [intOf]; omega
        · go_wp2
          go_ret
          exact ⟨rfl, hb⟩
/-- What the marking that begins with k writes into cell j. -/
def mvBerth (k : Int) (j : Nat) : Value := if j % 3 = 0 then .string (markT (k + (j : Int))) else if j % 3 = 1 then .int .i64 (k + (j : Int)) else .int .i64 (k + (j : Int))
theorem mvBerth_0 (k : Int) (j : Nat) : mvBerth k (j * 3) = .string (markT (k + (j : Int) * 3)) := by
  unfold mvBerth
  rw [if_pos (by omega), show k + ((j * 3 : Nat) : Int) = k + (j : Int) * 3 by omega]
theorem mvBerth_1 (k : Int) (j : Nat) : mvBerth k (j * 3 + 1) = .int .i64 (k + (j : Int) * 3 + 1) := by
  unfold mvBerth
  rw [if_neg (by omega), if_pos (by omega), show k + ((j * 3 + 1 : Nat) : Int) = k + (j : Int) * 3 + 1 by omega]
theorem mvBerth_2 (k : Int) (j : Nat) : mvBerth k (j * 3 + 2) = .int .i64 (k + (j : Int) * 3 + 2) := by
  unfold mvBerth
  rw [if_neg (by omega), if_neg (by omega), show k + ((j * 3 + 2 : Nat) : Int) = k + (j : Int) * 3 + 2 by omega]
set_option maxHeartbeats 4000000 in
theorem markBerthS_any (v : Value) (l : List BerthD) (k : Int) (w : World) (h : SlBerth w v l) (hfz : ∀ g, v.ownBlock = some g → ∀ j, w.frozen? ⟨g, j, none⟩ = false) (h0 : 0 ≤ k) (h1 : k ≤ 100000000) (h2 : l.length ≤ 10000000) :
    Calls Try.prog 38 #[v, .int .i64 k] w fun e w' => e = .returned (.int .i64 (k + (l.length : Int) * 3)) ∧ MarkedV w' v (l.length * 3) (mvBerth k) ∧ w.grownBy w' v.ownBlock := by
  obtain ⟨hl, h⟩ := h
  rcases h with ⟨rfl, A, c, rfl⟩ | ⟨g, o, c, rfl, hp, hcap, hc⟩
  · go_enter Try.func38, Try.ntmps38
    go_wp2
    refine wp_loop_rounds 1 ?_
    rw [rounds_succ]
    go_wp2
    go_ret
    exact ⟨ret_int (by simp), .inl (by simp), World.grownBy.refl _ _⟩
  · have hs : MarkRowV w g o (l.length * 3) (mvBerth k) (0 * 3) w := MarkRowV.start (vals_of (by omega) berthLen hc) (by omega) (fun j => hfz g rfl j)
    have HS := Lib.hid hs
    clear hs hc hfz
    go_enter Try.func38, Try.ntmps38
    go_wp2
    go_loopw [1, 5] (fun q i wr => ∃ j : Nat, j ≤ l.length ∧ i = .int .i64 j ∧ q = .int .i64 (k + (j : Int) * 3) ∧ Hid (MarkRowV w g o (l.length * 3) (mvBerth k) (j * 3) wr)) (fun _ i _ => l.length - (intOf i).toNat)
    case atStart => exact ⟨0, Nat.zero_le _, rfl, by simp, HS⟩
    case round =>
      obtain ⟨j, hj, rfl, rfl, hM⟩ := hrel
      by_cases hlt : j < l.length
      · clear HS
        go_wp2_with fail
        refine (markText_any (k + (j : Int) * 3) _ (by omega)).mono ?_
        rintro e w0 ⟨rfl, hb0⟩
        have M0c := Lib.hid (hM.out.below hb0)
        clear hb0
        obtain ⟨x0, c0⟩ := M0c.out.read (j * 3 + 0) (by omega) (by omega) (o + j * 3) (by omega)
        have f0 := M0c.out.2.2.2.1 (o + j * 3)
        have M0 := Lib.hid (M0c.out.next (by omega) (o + j * 3) (by omega) (.string (markT (k + (j : Int) * 3))) (by rw [mvBerth_0]) (j * 3 + 1) rfl)
        obtain ⟨x1, c1⟩ := M0.out.read (j * 3 + 1) (by omega) (by omega) (o + j * 3 + 1) (by omega)
        have f1 := M0.out.2.2.2.1 (o + j * 3 + 1)
        have M1 := Lib.hid (M0.out.next (by omega) (o + j * 3 + 1) (by omega) (.int .i64 (k + (j : Int) * 3 + 1)) (by rw [mvBerth_1]) (j * 3 + 2) rfl)
        obtain ⟨x2, c2⟩ := M1.out.read (j * 3 + 2) (by omega) (by omega) (o + j * 3 + 2) (by omega)
        have f2 := M1.out.2.2.2.1 (o + j * 3 + 2)
        have M2 := Lib.hid (M1.out.next (by omega) (o + j * 3 + 2) (by omega) (.int .i64 (k + (j : Int) * 3 + 1 + 1)) (by rw [mvBerth_2]; congr 1; omega) (j * 3 + 3) rfl)
        go_wp2
        go_roundw
        case rel =>
          refine ⟨j + 1, by omega, by go_num, ?_, ?_⟩
          · exact congrArg (Value.int .i64) (by omega)
          · rw [show (j + 1) * 3 = j * 3 + 3 by omega]; exact M2
        case measure => simp [intOf]; omega
      · go_wp2
        go_ret
        obtain rfl : j = l.length := by omega
        exact ⟨rfl, .inr ⟨g, o, l.length, c, rfl, hM.out.2.1⟩, hM.out.1⟩
section
variable {H : Type} {enc : TypeId × Value → H} {w : World} {base : Nat} {spare : Nat → Bool} {held : Bool}
def BerthD.wf (d : BerthD) : Prop := d.name.size ≤ maxLen ∧ (Lit.int .i64 d.length).wf = true ∧ (Lit.int .i64 d.depth).wf = true
theorem dec_berth (n : Nat) (cs : List Value) (y : DataW H × List MemPlace) (h : DataW.trod enc Try.prog w base spare held n 50 cs = some y) : ∃ d : BerthD, cs = d.cells ∧ d.wf := by
  obtain ⟨hl, hf⟩ := struct_cells Try.underlying50 (by kernel_rfl) (by kernel_rfl) h
  obtain ⟨v0, n0, y0, e0, h0⟩ := hf 0 _ rfl
  obtain ⟨v1, n1, y1, e1, h1⟩ := hf 1 _ rfl
  obtain ⟨v2, n2, y2, e2, h2⟩ := hf 2 _ rfl
  obtain ⟨a0, ha0, _, wa0⟩ := DataW.trod_string Try.underlying9 h0
  obtain ⟨a1, ha1, _, wa1⟩ := DataW.trod_int Try.underlying3 h1
  obtain ⟨a2, ha2, _, wa2⟩ := DataW.trod_int Try.underlying3 h2
  simp only [List.cons.injEq, and_true] at ha0 ha1 ha2
  subst ha0 ha1 ha2
  refine ⟨⟨a0, a1, a2⟩, ?_, wa0, wa1, wa2⟩
  match cs, hl with
  | [c0, c1, c2], _ =>
    simp at e0 e1 e2
    subst e0 e1 e2
    rfl
theorem wfszBerth {x : BerthD} (h : x.wf) : x.name.size ≤ 9223372036854775807 := by have h' := (show _ from h).1; unfold maxLen at h'; omega
theorem open_berths {fuel : Nat} {v : Value} {x : DataW H × List MemPlace} (h : DataW.trod enc Try.prog w base (fun _ => true) held fuel 45 [v] = some x) :
    ∃ A c l, v = .slice A l.length c ∧ l.length ≤ maxLen ∧ (l.length ≤ 1000000000 → SlBerth w (.slice A l.length c) l) ∧ ∀ d ∈ l, BerthD.wf d :=
  open_elems BerthD.cells 3 BerthD.wf Try.underlying45 (by kernel_rfl) berthLen (by omega) dec_berth h
end
end Go.Proofs.Ytghjfcnboocmjaa
