
/- Point by value and in lists: the laws' helpers over it: contracts; how an argument is opened. -/
import Derived.Test.YtpglaffmmddcdaaMarks
import Derived.Test.YtpglaffmmddcdaaOpen
import Derived.Test.YtpglaffmmddcdaaFlatV
import Derived.StillTailTactics
namespace Go.Proofs.Ytpglaffmmddcdaa
open Go.ChangeShapes Go.WideShapes Go.ChangeAt Go.Deep Go.RowKit
set_option maxRecDepth 100000

structure PointD where
  name : ByteArray
  wait : Bool
@[reducible] def PointD.val (d : PointD) : Value := .agg #[.string d.name, .bool d.wait]
@[reducible] def PointD.cells (d : PointD) : List Value := [.string d.name, .bool d.wait]
theorem pointLen (d : PointD) : d.cells.length = 2 := rfl
theorem point_one (x : PointD) : ∀ v ∈ x.cells, v.oneCell' = true := fun v hv => by simp at hv; rcases hv with rfl | rfl <;> rfl
def SlPoint : World → Value → List PointD → Prop := SlOf 2 PointD.cells
def OwnPoint : World → Nat → Value → List PointD → Prop := OwnOf 2 PointD.cells 99
def NewPoint : List PointD → World → Ending → World → Prop := NewOf 2 PointD.cells 99
theorem SlPoint.at {w : World} {v : Value} {l : List PointD} (h : SlPoint w v l) : ∃ A c, v = .slice A l.length c := SlOf.form h
theorem SlPoint.below {w w' : World} {v : Value} {l : List PointD} (h : SlPoint w v l) (hb : Below w.heap.size w w') : SlPoint w' v l := SlOf.below h hb
theorem OwnPoint.sl {w : World} {base : Nat} {v : Value} {l : List PointD} (h : OwnPoint w base v l) (hl : l.length ≤ 1000000000) : SlPoint w v l := own_sl pointLen h hl
theorem SlPoint.cells {w : World} {l : List PointD} {g o : Nat} (hc : ∀ i x, l[i]? = some x → ∀ j u, (PointD.cells x)[j]? = some u → w.cell? ⟨g, o + i * 2 + j, none⟩ = some u) (i : Nat) (x : PointD) (hx : l[i]? = some x) :
    w.cell? ⟨g, o + i * 2, none⟩ = some (.string x.name) ∧ w.cell? ⟨g, o + i * 2 + 1, none⟩ = some (.bool x.wait) :=
  ⟨hc i x hx 0 _ rfl, hc i x hx 1 _ rfl⟩
def zeroPoint : List Value := [.string ⟨#[]⟩, .bool false]
theorem info_point : (Try.prog.info? 99).map (fun i => (i.zero, i.size, i.bytes)) = some (some (.agg #[.string ⟨#[]⟩, .bool false]), 2, 24) := by kernel_rfl
theorem make_points (n : Nat) (hn : n ≤ 1000000000) (W : World) :
    (Instr.makeSlice 23 (.int .i64 (n : Int)) (.int .i64 (n : Int))).run Try.prog W = .ok (.slice (some ⟨W.heap.size, 0, none⟩) n n) (W.alloc (.cells (madeCells #[.string ⟨#[]⟩, .bool false] (n * 2)) 99)) := by
  obtain ⟨i0, hi, hz0, hz1, hz2⟩ := info_parts info_point
  have hr := run_make (P := Try.prog) W 23 99 i0 _ Try.underlying23 hi hz0 .i64 .i64 n n (by omega) (Int.le_refl _) (by rw [hz2]; omega) (by omega)
  simp only [Int.toNat_natCast, hz1] at hr
  exact hr

theorem toPoint_any (name : ByteArray) (wait : Bool) (w : World) : Calls Try.prog 72 #[.agg #[.string name, .bool wait]] w fun e w' => e = .returned (.agg #[.string name, .bool wait]) ∧ Below w.heap.size w w' := by
  go_enter Try.func72, Try.ntmps72
  go_wp2
  refine bodyPost_ret (v := .agg #[.string name, .bool wait]) (by simp [results, Try.results72, go_sem]) rfl ⟨rfl, ?_⟩
  repeat (first | exact Below.refl _ _ | refine Below.setCell ?_ (by simp <;> omega) _ | refine Below.alloc ?_ (by simp <;> omega) _)

theorem eqPoint_same (name : ByteArray) (wait : Bool) (w : World) : Calls Try.prog 74 #[.agg #[.string name, .bool wait], .agg #[.string name, .bool wait]] w fun e w' => e = .returned (.bool true) ∧ Below w.heap.size w w' := by
  go_enter Try.func74, Try.ntmps74
  go_wp2
  go_ret
  exact ⟨rfl, Joins.below_alloc2 _ _ _⟩

set_option maxHeartbeats 1000000 in
theorem toPointS_any (v : Value) (l : List PointD) (w : World) (h : SlPoint w v l) :
    Calls Try.prog 58 #[v] w (NewPoint l w) := by
  obtain ⟨hl, h⟩ := h
  have hmk := make_points l.length hl
  rcases h with ⟨rfl, A, c, rfl⟩ | ⟨g, o, c, rfl, hp, hcap, hc⟩
  · have hmk0 : ∀ W : World, (Instr.makeSlice 23 (.int .i64 0) (.int .i64 0)).run Try.prog W = .ok (.slice (some ⟨W.heap.size, 0, none⟩) 0 0) (W.alloc (.cells (madeCells #[.string ⟨#[]⟩, .bool false] (0 * 2)) 99)) := make_points 0 (by omega)
    clear hmk
    go_enter Try.func58, Try.ntmps58
    go_wp2
    refine wp_loop_rounds 1 ?_
    rw [rounds_succ]
    go_wp2
    go_ret
    have h := World.ownsRow_lit (base := w.heap.size) (e := 99) (size := 2) w (madeCells #[.string ⟨#[]⟩, .bool false] (0 * 2)) 0 (Nat.le_refl _) (by decide) (by rw [size_madeCells])
    rw [show (madeCells #[Value.string ⟨#[]⟩, .bool false] (0 * 2)).toList = [] by simp [madeCells]] at h
    exact ⟨_, rfl, h, (Below.refl _ _).alloc (Nat.le_refl _) _⟩
  · have HC := Lib.hid hc
    clear hc
    go_enter Try.func58, Try.ntmps58
    go_wp2
    clear hmk
    go_loopw [4] (fun i wr => ∃ k : Nat, k ≤ l.length ∧ i = .int .i64 k ∧ Hid (wr.ownsRow w.heap.size 99 2 (.slice (some ⟨w.heap.size, 0, none⟩) l.length l.length) l.length (halfOf PointD.cells zeroPoint l k)) ∧ Below w.heap.size w wr) (fun i _ => l.length - (intOf i).toNat)
    case atStart =>
      refine ⟨0, Nat.zero_le _, rfl, ?_, (Below.refl _ _).alloc (Nat.le_refl _) _⟩
      have h := World.ownsRow_lit (base := w.heap.size) (e := 99) (size := 2) w (madeCells #[.string ⟨#[]⟩, .bool false] (l.length * 2)) l.length (Nat.le_refl _) (by unfold maxLen; omega) (by rw [size_madeCells])
      have e := made_flat #[.string ⟨#[]⟩, .bool false] l.length
      rw [half_none]
      exact Lib.hid (e ▸ h)
    case round =>
      obtain ⟨k, hk, rfl, hown, hb⟩ := hrel
      by_cases hlt : k < l.length
      · obtain ⟨x, hx⟩ : ∃ x, l[k]? = some x := ⟨_, List.getElem?_eq_getElem hlt⟩
        obtain ⟨q0, q1⟩ := SlPoint.cells HC.out k x hx
        have hlt2 : g < w.heap.size := World.block_lt_of_cell? w ⟨g, o + k * 2, none⟩ q0
        have c0 := (hb.cell (p := ⟨g, o + k * 2, none⟩) hlt2).trans q0
        have c1 := (hb.cell (p := ⟨g, o + k * 2 + 1, none⟩) hlt2).trans q1
        have Hx := Lib.hid hx
        clear q0 q1 hx
        go_wp2_with fail
        refine (toPoint_any _ _ _).mono ?_
        rintro e w1 ⟨rfl, hb1⟩
        have own1 := ownsRow_below hown.out hb1
        have B1 : Below w.heap.size w w1 := hb.trans (hb1.mono hb.size)
        have s0 : w1.cell? ⟨w.heap.size, k * 2, none⟩ = some (.string ⟨#[]⟩) := (World.ownsRow.cellAt own1 (k * 2) (by omega)).trans (half_at pointLen l k hlt 0 _ rfl)
        have s1 : w1.cell? ⟨w.heap.size, k * 2 + 1, none⟩ = some (.bool false) := (World.ownsRow.cellAt own1 (k * 2 + 1) (by omega)).trans (half_at pointLen l k hlt 1 _ rfl)
        have z0 : w1.frozen? ⟨w.heap.size, k * 2, none⟩ = false := World.ownsRow.frozenAt own1 _
        have z1 : w1.frozen? ⟨w.heap.size, k * 2 + 1, none⟩ = false := World.ownsRow.frozenAt own1 _
        have hst := (World.ownsRow.stored (World.ownsRow.stored own1 (k * 2) (.string x.name)).1 (k * 2 + 1) (.bool x.wait)).1
        have e := half_set pointLen (zc := zeroPoint) rfl l k x Hx.out
        have HO := Lib.hid ((show (((halfOf PointD.cells zeroPoint l k).set (k * 2) (.string x.name)).set (k * 2 + 1) (.bool x.wait)) = halfOf PointD.cells zeroPoint l (k + 1) from e) ▸ hst)
        have HB := Lib.hid ((B1.setCell (p := ⟨w.heap.size, k * 2, none⟩) (Nat.le_refl _) (.string x.name)).setCell (p := ⟨w.heap.size, k * 2 + 1, none⟩) (Nat.le_refl _) (.bool x.wait))
        clear own1 hst e hb1 B1
        go_wp2
        go_roundw
        case rel => exact ⟨k + 1, by omega, by go_num, HO, HB.out⟩
        case measure => simp [intOf]; omega
      · go_wp2
        go_ret
        obtain rfl : k = l.length := by omega
        have ho := hown.out
        rw [half_full] at ho
        exact ⟨_, rfl, ho, hb⟩

def onePoint (x : PointD) : Int := (x.name.size : Int)
def bulkPoint : List PointD → Int
  | [] => 0
  | x :: l => onePoint x + bulkPoint l
theorem bulkPoint_append (a b : List PointD) : bulkPoint (a ++ b) = bulkPoint a + bulkPoint b := by
  induction a with
  | nil => simp [bulkPoint]
  | cons x a ih => simp only [List.cons_append, bulkPoint, ih]; omega
theorem onePoint_pos (x : PointD) : 0 ≤ onePoint x := by unfold onePoint; omega
theorem bulkPoint_pos (l : List PointD) : 0 ≤ bulkPoint l := by
  induction l with
  | nil => exact Int.le_refl _
  | cons x l ih => have := onePoint_pos x; simp only [bulkPoint]; omega
theorem bulkPoint_next {l : List PointD} {k : Nat} {x : PointD} (h : l[k]? = some x) : bulkPoint (l.take (k + 1)) = bulkPoint (l.take k) + onePoint x := by
  rw [take_snoc' l k x h, bulkPoint_append]; simp [bulkPoint]
theorem bulkPoint_le (l : List PointD) (k : Nat) : bulkPoint (l.take k) ≤ bulkPoint l := by
  have e := bulkPoint_append (l.take k) (l.drop k)
  rw [List.take_append_drop] at e
  have := bulkPoint_pos (l.drop k)
  omega

set_option maxHeartbeats 1000000 in
theorem szPoint_any (name : ByteArray) (wait : Bool) (lim : Int) (w : World) (h0 : 0 ≤ lim) (h1 : lim ≤ 1048576) (hname : name.size ≤ 9223372036854775807) :
    Calls Try.prog 68 #[.agg #[.string name, .bool wait], .int .i64 lim] w fun e w' => e = .returned (.int .i64 (leftOf lim (onePoint ⟨name, wait⟩))) ∧ Below w.heap.size w w' := by
  obtain ⟨r, hr⟩ : ∃ r, leftOf lim (onePoint ⟨name, wait⟩) = r := ⟨_, rfl⟩
  rw [hr]
  unfold leftOf onePoint at hr
  simp only at hr
  have HR := Lib.hid hr
  clear hr
  have w0 : IntKind.i64.wrap (lim - (name.size : Int)) = lim - (name.size : Int) := by rw [IntKind.wrap_i64]; omega
  by_cases t0 : lim - (name.size : Int) < 0
  · have E := HR.out
    rw [if_pos (by omega)] at E
    clear HR
    subst E
    go_enter Try.func68, Try.ntmps68
    go_wp2
    go_ret
    exact ⟨rfl, Joins.below_alloc1 _ _⟩
  have E := HR.out
  rw [if_neg (by omega)] at E
  have E2 : r = lim - (name.size : Int) := by omega
  clear HR E
  subst E2
  go_enter Try.func68, Try.ntmps68
  go_wp2
  go_ret
  exact ⟨rfl, Joins.below_alloc1 _ _⟩

set_option maxHeartbeats 1000000 in
theorem szPointS_any (A : Option Addr) (l : List PointD) (c : Nat) (w : World) (hl : l.length ≤ 9223372036854775807) (hsl : l.length ≤ 1000000000 → SlPoint w (.slice A l.length c) l) (hsz : ∀ x ∈ l, x.name.size ≤ 9223372036854775807) (lim : Int) (h0 : 0 ≤ lim) (h1 : lim ≤ 1048576) :
    Calls Try.prog 54 #[.slice A l.length c, .int .i64 lim] w fun e w' => e = .returned (.int .i64 (leftOf lim ((l.length : Int) + bulkPoint l))) ∧ Below w.heap.size w w' := by
  have hp := bulkPoint_pos l
  by_cases hlt : lim < (l.length : Int)
  · have E := Lib.hid (leftOf_no (lim := lim) (t := (l.length : Int) + bulkPoint l) (by omega))
    clear hsl hsz hp
    go_enter Try.func54, Try.ntmps54
    go_wp2
    go_ret
    exact ⟨ret_int E.out.symm, Below.refl _ _⟩
  · obtain ⟨_, hs⟩ := hsl (by omega)
    have HZ := Lib.hid hsz
    clear hsl hsz
    have w0 : IntKind.i64.wrap (lim - (l.length : Int)) = lim - (l.length : Int) := by rw [IntKind.wrap_i64]; omega
    rcases hs with ⟨rfl, A', c', he⟩ | ⟨g, o, c', he, hpos, hcap, hc⟩
    · clear he
      go_enter Try.func54, Try.ntmps54
      go_wp2
      refine wp_loop_rounds 1 ?_
      rw [rounds_succ]
      go_wp2
      go_ret
      exact ⟨ret_int (by rw [leftOf_yes (by simp [bulkPoint]; omega)]; simp [bulkPoint]), Below.refl _ _⟩
    · injection he with hA _ hcp
      subst hA hcp
      have HC := Lib.hid hc
      clear hc
      go_enter Try.func54, Try.ntmps54
      go_wp2
      go_loopw [1, 5] (fun q i wr => ∃ k : Nat, k ≤ l.length ∧ i = .int .i64 k ∧ q = .int .i64 (lim - (l.length : Int) - bulkPoint (l.take k)) ∧ 0 ≤ lim - (l.length : Int) - bulkPoint (l.take k) ∧ Below w.heap.size w wr) (fun _ i _ => l.length - (intOf i).toNat)
      case atStart => exact ⟨0, Nat.zero_le _, rfl, by simp [bulkPoint], by simp [bulkPoint]; omega, Below.refl _ _⟩
      case round =>
        obtain ⟨k, hk, rfl, rfl, hle, hb⟩ := hrel
        have hpk := bulkPoint_pos (l.take k)
        by_cases hkl : k < l.length
        · obtain ⟨x, hx⟩ : ∃ x, l[k]? = some x := ⟨_, List.getElem?_eq_getElem hkl⟩
          obtain ⟨q0, q1⟩ := SlPoint.cells HC.out k x hx
          have hlt2 : g < w.heap.size := World.block_lt_of_cell? w ⟨g, o + k * 2, none⟩ q0
          have c0 := (hb.cell (p := ⟨g, o + k * 2, none⟩) hlt2).trans q0
          have c1 := (hb.cell (p := ⟨g, o + k * 2 + 1, none⟩) hlt2).trans q1
          have hn := bulkPoint_next hx
          have hzx := HZ.out x (List.mem_of_getElem? hx)
          have hl2 := bulkPoint_le l (k + 1)
          obtain ⟨z, hz⟩ : ∃ z, lim - (l.length : Int) - bulkPoint (l.take k) = z := ⟨_, rfl⟩
          rw [hz] at hle
          have C := fun W => Lib.hid (szPoint_any x.name x.wait z W hle (by omega) hzx)
          have hzs := hb.size
          clear q0 q1 hx
          by_cases hneg : z < onePoint x
          · have EN := Lib.hid (leftOf_no (lim := lim) (t := (l.length : Int) + bulkPoint l) (by omega))
            rw [show (⟨x.name, x.wait⟩ : PointD) = x from rfl] at C
            rw [leftOf_no hneg] at C
            rw [hz]
            clear hn hl2 hneg
            go_wp2_with fail
            refine (C _).out.mono ?_
            rintro e w1 ⟨rfl, hb1⟩
            go_wp2
            go_ret
            exact ⟨ret_int EN.out.symm, hb.trans (hb1.mono hzs)⟩
          · rw [show (⟨x.name, x.wait⟩ : PointD) = x from rfl] at C
            rw [leftOf_yes hneg] at C
            rw [hz]
            have hz2 : ¬ z - onePoint x < 0 := by omega
            go_wp2_with fail
            refine (C _).out.mono ?_
            rintro e w1 ⟨rfl, hb1⟩
            have B1 := Lib.hid (hb.trans (hb1.mono hzs))
            clear C hb1
            go_wp2
            go_roundw
            case rel => exact ⟨k + 1, by omega, by go_num, by rw [hn]; congr 1; omega, by rw [hn]; omega, B1.out⟩
            case measure => simp [intOf]; omega
        · obtain rfl : k = l.length := by omega
          rw [List.take_length] at hle ⊢
          go_wp2
          go_ret
          exact ⟨ret_int (by rw [leftOf_yes (by omega)]; omega), hb⟩

set_option maxHeartbeats 1000000 in
theorem eqPointS_same (va vb : Value) (l : List PointD) (w : World) (ha : SlPoint w va l) (hb : SlPoint w vb l) :
    Calls Try.prog 60 #[va, vb] w fun e w' => e = .returned (.bool true) ∧ Below w.heap.size w w' := by
  obtain ⟨hl, ha⟩ := ha
  obtain ⟨_, hb⟩ := hb
  rcases ha with ⟨rfl, A, c, rfl⟩ | ⟨g, o, c, rfl, hp, _, hca⟩
  · rcases hb with ⟨_, A', c', rfl⟩ | ⟨g', o', c', rfl, hp, _, _⟩
    · go_enter Try.func60, Try.ntmps60
      go_wp2
      refine wp_loop_rounds 1 ?_
      rw [rounds_succ]
      go_wp2
      go_ret
      exact ⟨rfl, Below.refl _ _⟩
    · exact absurd hp (by simp)
  · rcases hb with ⟨rfl, A', c', rfl⟩ | ⟨g', o', c', rfl, _, _, hcb⟩
    · exact absurd hp (by simp)
    · have HA := Lib.hid hca
      have HB := Lib.hid hcb
      clear hca hcb
      go_enter Try.func60, Try.ntmps60
      go_wp2
      go_loopw [5] (fun i wr => ∃ k : Nat, k ≤ l.length ∧ i = .int .i64 k ∧ Below w.heap.size w wr) (fun i _ => l.length - (intOf i).toNat)
      case atStart => exact ⟨0, Nat.zero_le _, rfl, Below.refl _ _⟩
      case round =>
        obtain ⟨k, hk, rfl, hb⟩ := hrel
        by_cases hlt : k < l.length
        · obtain ⟨x, hx⟩ : ∃ x, l[k]? = some x := ⟨_, List.getElem?_eq_getElem hlt⟩
          obtain ⟨p0, p1⟩ := SlPoint.cells HA.out k x hx
          obtain ⟨q0, q1⟩ := SlPoint.cells HB.out k x hx
          have hg : g < w.heap.size := World.block_lt_of_cell? w ⟨g, o + k * 2, none⟩ p0
          have hg' : g' < w.heap.size := World.block_lt_of_cell? w ⟨g', o' + k * 2, none⟩ q0
          have a0 := (hb.cell (p := ⟨g, o + k * 2, none⟩) hg).trans p0
          have a1 := (hb.cell (p := ⟨g, o + k * 2 + 1, none⟩) hg).trans p1
          have b0 := (hb.cell (p := ⟨g', o' + k * 2, none⟩) hg').trans q0
          have b1 := (hb.cell (p := ⟨g', o' + k * 2 + 1, none⟩) hg').trans q1
          have hbs := hb.size
          clear p0 q0 p1 q1 hx
          go_wp2
          go_still_tail 8, (by kernel_rfl)
          change wpList _ _ _ _ _ wr.drew
          have hd := hb.drew
          generalize wr.drew = w2 at hd ⊢
          have hds := hd.size
          clear a0 b0 a1 b1 hb hbs
          go_wp2_with fail
          refine (eqPoint_same _ _ _).mono ?_
          rintro e w3 ⟨rfl, hb3⟩
          have B3 := Lib.hid (hd.trans (hb3.mono hds))
          clear hb3 hd hds
          go_wp2
          go_roundw
          case rel => exact ⟨k + 1, by omega, by go_num, B3.out⟩
          case measure => simp [intOf]; omega
        · go_wp2
          go_ret
          exact ⟨rfl, hb⟩

/-- What the marking that begins with k writes into cell j. -/
def mvPoint (k : Int) (j : Nat) : Value := if j % 2 = 0 then .string (markT (k + (j : Int))) else .bool ((k + (j : Int)) % 3 == 0)
theorem mvPoint_0 (k : Int) (j : Nat) : mvPoint k (j * 2) = .string (markT (k + (j : Int) * 2)) := by
  unfold mvPoint
  rw [if_pos (by omega), show k + ((j * 2 : Nat) : Int) = k + (j : Int) * 2 by omega]
theorem mvPoint_1 (k : Int) (j : Nat) : mvPoint k (j * 2 + 1) = .bool ((k + (j : Int) * 2 + 1) % 3 == 0) := by
  unfold mvPoint
  rw [if_neg (by omega), show k + ((j * 2 + 1 : Nat) : Int) = k + (j : Int) * 2 + 1 by omega]
section
variable {H : Type} {enc : TypeId × Value → H} {w : World} {base : Nat} {spare : Nat → Bool} {held : Bool}
def PointD.wf (d : PointD) : Prop := d.name.size ≤ maxLen

theorem dec_point (n : Nat) (cs : List Value) (y : DataW H × List MemPlace) (h : DataW.trod enc Try.prog w base spare held n 114 cs = some y) : ∃ d : PointD, cs = d.cells ∧ d.wf := by
  obtain ⟨hl, hf⟩ := struct_cells Try.underlying114 (by kernel_rfl) (by kernel_rfl) h
  obtain ⟨v0, n0, y0, e0, h0⟩ := hf 0 _ rfl
  obtain ⟨v1, n1, y1, e1, h1⟩ := hf 1 _ rfl
  obtain ⟨a0, ha0, _, wa0⟩ := DataW.trod_string Try.underlying9 h0
  obtain ⟨a1, ha1, _⟩ := DataW.trod_bool Try.underlying4 h1
  simp only [List.cons.injEq, and_true] at ha0 ha1
  subst ha0 ha1
  refine ⟨⟨a0, a1⟩, ?_, wa0⟩
  match cs, hl with
  | [c0, c1], _ =>
    simp at e0 e1
    subst e0 e1
    rfl

theorem wfszPoint {x : PointD} (h : x.wf) : x.name.size ≤ 9223372036854775807 := by have h' := (show x.name.size ≤ maxLen from h); unfold maxLen at h'; omega
theorem open_points {fuel : Nat} {v : Value} {x : DataW H × List MemPlace} (h : DataW.trod enc Try.prog w base (fun _ => true) held fuel 51 [v] = some x) :
    ∃ A c l, v = .slice A l.length c ∧ l.length ≤ maxLen ∧ (l.length ≤ 1000000000 → SlPoint w (.slice A l.length c) l) ∧ ∀ d ∈ l, PointD.wf d :=
  open_elems PointD.cells 2 PointD.wf Try.underlying51 (by kernel_rfl) pointLen (by omega) dec_point h

theorem open_point_arg {r : Reach} {b0 : Nat} {v : Value} {d : DataW H} {ps : List MemPlace} (hval : Value.okWide Try.prog w r b0 114 v) (hd : DataW.Trod enc Try.prog w 0 (fun _ => true) true 114 v d ps) :
    ∃ p : PointD, v = p.val ∧ p.wf := by
  obtain ⟨cs, rfl, hsz⟩ := okWide_struct Try.underlying114 hval
  obtain ⟨fuel, hf⟩ := hd
  obtain ⟨p, hp, hw⟩ := dec_point _ _ _ hf
  refine ⟨p, ?_, hw⟩
  obtain ⟨l⟩ := cs
  simp [Value.cells] at hp
  rw [hp]
end

end Go.Proofs.Ytpglaffmmddcdaa
