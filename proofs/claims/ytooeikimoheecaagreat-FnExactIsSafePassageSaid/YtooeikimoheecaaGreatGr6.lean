
/- What ExactIsSafePassage and ExactSailRoute and ExactFirstSail rests on, part 6: contracts and mathematics. -/
import Derived.Test.YtooeikimoheecaaGreatGr2
import Derived.Test.YtooeikimoheecaaGreatGr0
import Derived.StillTailTactics
import Derived.Test.YtooeikimoheecaaGreatGr1
import Derived.Deep.AppendLies
import Derived.Test.YtooeikimoheecaaGreatGr3
import Derived.Test.YtooeikimoheecaaGreatGr5
namespace Go.Proofs.YtooeikimoheecaaGreat
open Go.RowKit
set_option maxRecDepth 100000
@[reducible] def PartD.cells (d : PartD) : List Value := [.int .i64 d.amp, .int .i64 d.per, .int .i64 d.pha]
theorem partLen (d : PartD) : d.cells.length = 3 := rfl
def SlP : World → Value → List PartD → Prop := SlOf 3 PartD.cells
def OwnP : World → Nat → Value → List PartD → Prop := OwnOf 3 PartD.cells 148
def NewP : List PartD → World → Ending → World → Prop := NewOf 3 PartD.cells 148
theorem info_part : (Tryz.prog.info? 148).map (fun i => (i.zero, i.size, i.bytes)) = some (some (.agg #[.int .i64 0, .int .i64 0, .int .i64 0]), 3, 24) := by kernel_rfl
theorem make_parts (n : Nat) (hn : n ≤ 1000000000) (W : World) :
    (Instr.makeSlice 39 (.int .i64 (n : Int)) (.int .i64 (n : Int))).run Tryz.prog W = .ok (.slice (some ⟨W.heap.size, 0, none⟩) n n) (W.alloc (.cells (madeCells #[.int .i64 0, .int .i64 0, .int .i64 0] (n * 3)) 148)) := by
  obtain ⟨i0, hi, hz0, hz1, hz2⟩ := info_parts info_part
  have hr := run_make (P := Tryz.prog) W 39 148 i0 _ Tryz.underlying39 hi hz0 .i64 .i64 n n (by omega) (Int.le_refl _) (by rw [hz2]; omega) (by omega)
  simp only [Int.toNat_natCast, hz1] at hr
  exact hr
theorem SlP.cells {w : World} {l : List PartD} {g o : Nat} (hc : ∀ i x, l[i]? = some x → ∀ j u, (PartD.cells x)[j]? = some u → w.cell? ⟨g, o + i * 3 + j, none⟩ = some u) (i : Nat) (x : PartD) (hx : l[i]? = some x) :
    w.cell? ⟨g, o + i * 3, none⟩ = some (.int .i64 x.amp) ∧ w.cell? ⟨g, o + i * 3 + 1, none⟩ = some (.int .i64 x.per) ∧ w.cell? ⟨g, o + i * 3 + 2, none⟩ = some (.int .i64 x.pha) :=
  ⟨hc i x hx 0 _ rfl, hc i x hx 1 _ rfl, hc i x hx 2 _ rfl⟩
def zeroP : List Value := [.int .i64 0, .int .i64 0, .int .i64 0]
set_option maxHeartbeats 1000000 in
theorem toPartS_any (v : Value) (l : List PartD) (w : World) (h : SlP w v l) :
    Calls Tryz.prog 67 #[v] w (NewP l w) := by
  obtain ⟨hl, h⟩ := h
  have hmk := make_parts l.length hl
  rcases h with ⟨rfl, A, c, rfl⟩ | ⟨g, o, c, rfl, hp, hcap, hc⟩
  · have hmk0 : ∀ W : World, (Instr.makeSlice 39 (.int .i64 0) (.int .i64 0)).run Tryz.prog W = .ok (.slice (some ⟨W.heap.size, 0, none⟩) 0 0) (W.alloc (.cells (madeCells #[.int .i64 0, .int .i64 0, .int .i64 0] (0 * 3)) 148)) := make_parts 0 (by omega)
    clear hmk
    go_enter Tryz.func67, Tryz.ntmps67
    go_wp2
    refine wp_loop_rounds 1 ?_
    rw [rounds_succ]
    go_wp2
    go_ret
    have h := World.ownsRow_lit (base := w.heap.size) (e := 148) (size := 3) w (madeCells #[.int .i64 0, .int .i64 0, .int .i64 0] (0 * 3)) 0 (Nat.le_refl _) (by decide) (by rw [size_madeCells])
    rw [show (madeCells #[Value.int .i64 0, .int .i64 0, .int .i64 0] (0 * 3)).toList = [] by simp [madeCells]] at h
    exact ⟨_, rfl, h, (Below.refl _ _).alloc (Nat.le_refl _) _⟩
  · have HC := Lib.hid hc
    clear hc
    go_enter Tryz.func67, Tryz.ntmps67
    go_wp2
    clear hmk
    go_loopw [4] (fun i wr => ∃ k : Nat, k ≤ l.length ∧ i = .int .i64 k ∧ Hid (wr.ownsRow w.heap.size 148 3 (.slice (some ⟨w.heap.size, 0, none⟩) l.length l.length) l.length (halfOf PartD.cells zeroP l k)) ∧ Below w.heap.size w wr) (fun i _ => l.length - (intOf i).toNat)
    case atStart =>
      refine ⟨0, Nat.zero_le _, rfl, ?_, (Below.refl _ _).alloc (Nat.le_refl _) _⟩
      have h := World.ownsRow_lit (base := w.heap.size) (e := 148) (size := 3) w (madeCells #[.int .i64 0, .int .i64 0, .int .i64 0] (l.length * 3)) l.length (Nat.le_refl _) (by unfold maxLen; omega) (by rw [size_madeCells])
      have e := made_flat #[.int .i64 0, .int .i64 0, .int .i64 0] l.length
      rw [half_none]
      exact Lib.hid (e ▸ h)
    case round =>
      obtain ⟨k, hk, rfl, hown, hb⟩ := hrel
      by_cases hlt : k < l.length
      · obtain ⟨x, hx⟩ : ∃ x, l[k]? = some x := ⟨_, List.getElem?_eq_getElem hlt⟩
        obtain ⟨q0, q1, q2⟩ := SlP.cells HC.out k x hx
        have hlt2 : g < w.heap.size := World.block_lt_of_cell? w ⟨g, o + k * 3, none⟩ q0
        have c0 := (hb.cell (p := ⟨g, o + k * 3, none⟩) hlt2).trans q0
        have c1 := (hb.cell (p := ⟨g, o + k * 3 + 1, none⟩) hlt2).trans q1
        have c2 := (hb.cell (p := ⟨g, o + k * 3 + 2, none⟩) hlt2).trans q2
        have Hx := Lib.hid hx
        clear q0 q1 q2 hx
        go_wp2_with fail
        refine (toPart_any _ _ _ _).mono ?_
        rintro e w1 ⟨rfl, hb1⟩
        have own1 := ownsRow_below hown.out hb1
        have B1 : Below w.heap.size w w1 := hb.trans (hb1.mono hb.size)
        have s0 : w1.cell? ⟨w.heap.size, k * 3, none⟩ = some (.int .i64 0) := (World.ownsRow.cellAt own1 (k * 3) (by omega)).trans (half_at partLen l k hlt 0 _ rfl)
        have s1 : w1.cell? ⟨w.heap.size, k * 3 + 1, none⟩ = some (.int .i64 0) := (World.ownsRow.cellAt own1 (k * 3 + 1) (by omega)).trans (half_at partLen l k hlt 1 _ rfl)
        have s2 : w1.cell? ⟨w.heap.size, k * 3 + 2, none⟩ = some (.int .i64 0) := (World.ownsRow.cellAt own1 (k * 3 + 2) (by omega)).trans (half_at partLen l k hlt 2 _ rfl)
        have z0 : w1.frozen? ⟨w.heap.size, k * 3, none⟩ = false := World.ownsRow.frozenAt own1 _
        have z1 : w1.frozen? ⟨w.heap.size, k * 3 + 1, none⟩ = false := World.ownsRow.frozenAt own1 _
        have z2 : w1.frozen? ⟨w.heap.size, k * 3 + 2, none⟩ = false := World.ownsRow.frozenAt own1 _
        have hst := (World.ownsRow.stored (World.ownsRow.stored (World.ownsRow.stored own1 (k * 3) (.int .i64 x.amp)).1 (k * 3 + 1) (.int .i64 x.per)).1 (k * 3 + 2) (.int .i64 x.pha)).1
        have e := half_set partLen (zc := zeroP) rfl l k x Hx.out
        have HO := Lib.hid ((show (((halfOf PartD.cells zeroP l k).set (k * 3) (.int .i64 x.amp)).set (k * 3 + 1) (.int .i64 x.per)).set (k * 3 + 2) (.int .i64 x.pha) = halfOf PartD.cells zeroP l (k + 1) from e) ▸ hst)
        have HB := Lib.hid ((((B1.setCell (p := ⟨w.heap.size, k * 3, none⟩) (Nat.le_refl _) (.int .i64 x.amp)).setCell (p := ⟨w.heap.size, k * 3 + 1, none⟩) (Nat.le_refl _) (.int .i64 x.per)).setCell (p := ⟨w.heap.size, k * 3 + 2, none⟩) (Nat.le_refl _) (.int .i64 x.pha)))
        clear own1 hst e hb1 B1
        go_wp2
        go_roundw
        case rel => exact ⟨k + 1, by omega, by go_num, HO, HB.out⟩
        case measure => simp [intOf]; omega
      · go_wp2
        go_ret
        obtain rfl : k = l.length := by omega
        have ho := hown.out
        rw [half_full] at ho
        exact ⟨_, rfl, ho, hb⟩
theorem szPartS_any (A : Option Addr) (n c : Nat) (w : World) (hn : n ≤ 9223372036854775807) (lim : Int) (h0 : 0 ≤ lim) (h1 : lim ≤ 1048576) :
    Calls Tryz.prog 59 #[.slice A n c, .int .i64 lim] w fun e w' => e = .returned (.int .i64 (if lim < (n : Int) then -1 else lim - (n : Int))) ∧ w = w' := by
  by_cases hlt : lim < (n : Int)
  · go_enter Tryz.func59, Tryz.ntmps59
    go_wp2
    go_ret
    exact ⟨rfl, rfl⟩
  · go_enter Tryz.func59, Tryz.ntmps59
    go_wp2
    go_ret
    exact ⟨rfl, rfl⟩
set_option maxHeartbeats 1000000 in
theorem eqPartS_same (va vb : Value) (l : List PartD) (w : World) (ha : SlP w va l) (hb : SlP w vb l) :
    Calls Tryz.prog 78 #[va, vb] w fun e w' => e = .returned (.bool true) ∧ Below w.heap.size w w' := by
  obtain ⟨hl, ha⟩ := ha
  obtain ⟨_, hb⟩ := hb
  rcases ha with ⟨rfl, A, c, rfl⟩ | ⟨g, o, c, rfl, hp, _, hca⟩
  · rcases hb with ⟨_, A', c', rfl⟩ | ⟨g', o', c', rfl, hp, _, _⟩
    · go_enter Tryz.func78, Tryz.ntmps78
      go_wp2
      refine wp_loop_rounds 1 ?_
      rw [rounds_succ]
      go_wp2
      go_ret
      exact ⟨rfl, Below.refl _ _⟩
    · exact absurd hp (by simp)
  · rcases hb with ⟨rfl, A', c', rfl⟩ | ⟨g', o', c', rfl, _, _, hcb⟩
    · exact absurd hp (by simp)
    · have HA := Lib.hid hca
      have HB := Lib.hid hcb
      clear hca hcb
      go_enter Tryz.func78, Tryz.ntmps78
      go_wp2
      go_loopw [5] (fun i wr => ∃ k : Nat, k ≤ l.length ∧ i = .int .i64 k ∧ Below w.heap.size w wr) (fun i _ => l.length - (intOf i).toNat)
      case atStart => exact ⟨0, Nat.zero_le _, rfl, Below.refl _ _⟩
      case round =>
        obtain ⟨k, hk, rfl, hb⟩ := hrel
        by_cases hlt : k < l.length
        · obtain ⟨x, hx⟩ : ∃ x, l[k]? = some x := ⟨_, List.getElem?_eq_getElem hlt⟩
          obtain ⟨p0, p1, p2⟩ := SlP.cells HA.out k x hx
          obtain ⟨q0, q1, q2⟩ := SlP.cells HB.out k x hx
          have hg : g < w.heap.size := World.block_lt_of_cell? w ⟨g, o + k * 3, none⟩ p0
          have hg' : g' < w.heap.size := World.block_lt_of_cell? w ⟨g', o' + k * 3, none⟩ q0
          have a0 := (hb.cell (p := ⟨g, o + k * 3, none⟩) hg).trans p0
          have a1 := (hb.cell (p := ⟨g, o + k * 3 + 1, none⟩) hg).trans p1
          have a2 := (hb.cell (p := ⟨g, o + k * 3 + 2, none⟩) hg).trans p2
          have b0 := (hb.cell (p := ⟨g', o' + k * 3, none⟩) hg').trans q0
          have b1 := (hb.cell (p := ⟨g', o' + k * 3 + 1, none⟩) hg').trans q1
          have b2 := (hb.cell (p := ⟨g', o' + k * 3 + 2, none⟩) hg').trans q2
          have hbs := hb.size
          clear p0 p1 p2 q0 q1 q2 hx
          go_wp2
          go_still_tail 8, (by kernel_rfl)
          change wpList _ _ _ _ _ wr.drew
          have hd := hb.drew
          generalize wr.drew = w2 at hd ⊢
          have hds := hd.size
          clear a0 a1 a2 b0 b1 b2 hb hbs
          go_wp2_with fail
          refine (eqPart_same _ _ _ _).mono ?_
          rintro e w3 ⟨rfl, hb3⟩
          have B3 := Lib.hid (hd.trans (hb3.mono hds))
          clear hb3 hd hds
          go_wp2
          go_roundw
          case rel => exact ⟨k + 1, by omega, by go_num, B3.out⟩
          case measure => simp [intOf]; omega
        · go_wp2
          go_ret
          exact ⟨rfl, hb⟩
end Go.Proofs.YtooeikimoheecaaGreat
namespace Go.Proofs.YtooeikimoheecaaGreat
open Go.RowKit
variable {α : Type} {k : Nat} {cs : α → List Value} {t : TypeId}
/-- The value v is a list over memory that is new since w; what w held is as it was. -/
def GathO (k : Nat) (cs : α → List Value) (t : TypeId) (w : World) (v : Value) (acc : List α) (wr : World) : Prop := OwnOf k cs t wr w.heap.size v acc ∧ Below w.heap.size w wr
theorem GathO.size {w wr : World} {v : Value} {acc : List α} (h : GathO k cs t w v acc wr) : w.heap.size ≤ wr.heap.size := h.2.size
theorem GathO.empty {w wr : World} (hb : Below w.heap.size w wr) : GathO k cs t w (.slice none 0 0) [] wr := ⟨⟨by simp, .inl ⟨rfl, rfl⟩⟩, hb⟩
theorem GathO.made {w wr : World} (hb : Below w.heap.size w wr) : GathO k cs t w (.slice (some ⟨wr.heap.size, 0, none⟩) 0 0) [] (wr.alloc (.cells #[] t)) :=
  ⟨⟨by simp, .inr ⟨wr.heap.size, 0, #[], rfl, hb.size, heap_alloc_new wr _, Nat.le_refl _, by omega, by simp, by simp⟩⟩, hb.alloc hb.size _⟩
theorem GathO.below {w wr W : World} {v : Value} {acc : List α} (h : GathO k cs t w v acc wr) (hb : Below wr.heap.size wr W) : GathO k cs t w v acc W :=
  ⟨own_below h.1 hb, h.2.trans (hb.mono h.size)⟩
theorem GathO.next {w W w4 : World} {v : Value} {acc : List α} {x : α} {g4 cap4 : Nat} (h : GathO k cs t w v acc W)
    (hown : w4.ownsRow w.heap.size t k (.slice (some ⟨g4, 0, none⟩) (acc.length + 1) cap4) (acc.length + 1) (acc.flatMap cs ++ cs x)) (hgr : W.grownBy w4 v.ownBlock) :
    GathO k cs t w (.slice (some ⟨g4, 0, none⟩) (acc.length + 1) cap4) (acc ++ [x]) w4 := by
  refine ⟨?_, h.2.grown hgr h.size (fun b hb => (World.ownsRow.lt h.1 b hb).1)⟩
  simpa [OwnOf] using hown
theorem GathO.form {w wr : World} {v : Value} {acc : List α} (h : GathO k cs t w v acc wr) : ∃ A c, v = .slice A acc.length c := own_form h.1
/-- A literal of one element. -/
theorem GathO.one {w wr : World} {x : α} (hb : Below w.heap.size w wr) (hk : (cs x).length = k) : GathO k cs t w (.slice (some ⟨wr.heap.size, 0, none⟩) 1 1) [x] (wr.alloc (.cells (cs x).toArray t)) := by
  have h := World.ownsRow_lit (base := w.heap.size) (e := t) (size := k) wr (cs x).toArray 1 hb.size (by unfold maxLen; omega) (by simp [hk])
  refine ⟨?_, hb.alloc hb.size _⟩
  simpa [OwnOf] using h
end Go.Proofs.YtooeikimoheecaaGreat
namespace Go.Proofs.YtooeikimoheecaaGreat
open Go.ChangeShapes Go.WideShapes Go.ChangeAt Go.Deep Go.RowKit
set_option maxRecDepth 100000
structure PassageD where
  ship : Int
  segment : Int
  toward : Bool
  start : Int
  stop : Int
@[reducible] def PassageD.val (d : PassageD) : Value := .agg #[.int .i64 d.ship, .int .i64 d.segment, .bool d.toward, .int .i64 d.start, .int .i64 d.stop]
@[reducible] def PassageD.cells (d : PassageD) : List Value := [.int .i64 d.ship, .int .i64 d.segment, .bool d.toward, .int .i64 d.start, .int .i64 d.stop]
theorem passageLen (d : PassageD) : d.cells.length = 5 := rfl
theorem toPassage_any (ship : Int) (segment : Int) (toward : Bool) (start : Int) (stop : Int) (w : World) : Calls Tryz.prog 13 #[.agg #[.int .i64 ship, .int .i64 segment, .bool toward, .int .i64 start, .int .i64 stop]] w fun e w' => e = .returned (.agg #[.int .i64 ship, .int .i64 segment, .bool toward, .int .i64 start, .int .i64 stop]) ∧ Below w.heap.size w w' := by
  go_enter Tryz.func13, Tryz.ntmps13
  go_wp2
  refine bodyPost_ret (v := .agg #[.int .i64 ship, .int .i64 segment, .bool toward, .int .i64 start, .int .i64 stop]) (by simp [results, Tryz.results13, go_sem]) rfl ⟨rfl, ?_⟩
  repeat (first | exact Below.refl _ _ | refine Below.setCell ?_ (by simp <;> omega) _ | refine Below.alloc ?_ (by simp <;> omega) _)
section
variable {H : Type} {enc : TypeId × Value → H} {w : World} {base : Nat} {spare : Nat → Bool} {held : Bool}
def PassageD.wf (d : PassageD) : Prop := (Lit.int .i64 d.ship).wf = true ∧ (Lit.int .i64 d.segment).wf = true ∧ (Lit.int .i64 d.start).wf = true ∧ (Lit.int .i64 d.stop).wf = true
theorem dec_passage (n : Nat) (cs : List Value) (y : DataW H × List MemPlace) (h : DataW.trod enc Tryz.prog w base spare held n 34 cs = some y) : ∃ d : PassageD, cs = d.cells ∧ d.wf := by
  obtain ⟨hl, hf⟩ := struct_cells Tryz.underlying34 (by kernel_rfl) (by kernel_rfl) h
  obtain ⟨v0, n0, y0, e0, h0⟩ := hf 0 _ rfl
  obtain ⟨v1, n1, y1, e1, h1⟩ := hf 1 _ rfl
  obtain ⟨v2, n2, y2, e2, h2⟩ := hf 2 _ rfl
  obtain ⟨v3, n3, y3, e3, h3⟩ := hf 3 _ rfl
  obtain ⟨v4, n4, y4, e4, h4⟩ := hf 4 _ rfl
  obtain ⟨a0, ha0, _, wa0⟩ := DataW.trod_int Tryz.underlying3 h0
  obtain ⟨a1, ha1, _, wa1⟩ := DataW.trod_int Tryz.underlying3 h1
  obtain ⟨a2, ha2, _⟩ := DataW.trod_bool Tryz.underlying4 h2
  obtain ⟨a3, ha3, _, wa3⟩ := DataW.trod_int Tryz.underlying3 h3
  obtain ⟨a4, ha4, _, wa4⟩ := DataW.trod_int Tryz.underlying3 h4
  simp only [List.cons.injEq, and_true] at ha0 ha1 ha2 ha3 ha4
  subst ha0 ha1 ha2 ha3 ha4
  refine ⟨⟨a0, a1, a2, a3, a4⟩, ?_, wa0, wa1, wa3, wa4⟩
  match cs, hl with
  | [c0, c1, c2, c3, c4], _ =>
    simp at e0 e1 e2 e3 e4
    subst e0 e1 e2 e3 e4
    rfl
theorem open_passage_arg {r : Reach} {b0 : Nat} {v : Value} {d : DataW H} {ps : List MemPlace} (hval : Value.okWide Tryz.prog w r b0 34 v) (hd : DataW.Trod enc Tryz.prog w 0 (fun _ => true) true 34 v d ps) :
    ∃ p : PassageD, v = p.val ∧ p.wf := by
  obtain ⟨cs, rfl, hsz⟩ := okWide_struct Tryz.underlying34 hval
  obtain ⟨fuel, hf⟩ := hd
  obtain ⟨p, hp, hw⟩ := dec_passage _ _ _ hf
  refine ⟨p, ?_, hw⟩
  obtain ⟨l⟩ := cs
  simp [Value.cells] at hp
  rw [hp]
end
end Go.Proofs.YtooeikimoheecaaGreat
namespace Go.Proofs.YtooeikimoheecaaGreat
open Go.RowKit
/-- From w to w' only blocks from a up to b have changed, and new ones have come. -/
structure TouchR (w w' : World) (a b : Nat) : Prop where
  os : w'.os = w.os
  tape : w'.tape = w.tape
  output : w'.output = w.output
  size : w.heap.size ≤ w'.heap.size
  block : ∀ i, i < w.heap.size → ¬ (a ≤ i ∧ i < b) → w'.heap[i]? = w.heap[i]?
/-- The value's own block lies from a up to b. -/
def RangeV (v : Value) (a b : Nat) : Prop := ∀ g, v.ownBlock = some g → a ≤ g ∧ g < b
theorem RangeV.wide {v : Value} {a b a' b' : Nat} (h : RangeV v a b) (ha : a' ≤ a) (hb : b ≤ b') : RangeV v a' b' := fun g hg => by have := h g hg; omega
theorem own_range {α : Type} {k : Nat} {cs : α → List Value} {t : TypeId} {w : World} {base : Nat} {v : Value} {l : List α} (h : OwnOf k cs t w base v l) : RangeV v base w.heap.size := fun g hg => World.ownsRow.lt h g hg
theorem RangeV.apart {v u : Value} {a b c d : Nat} (h : RangeV v a b) (h' : RangeV u c d) (hd : b ≤ c ∨ d ≤ a) : ApartV v u := fun g hg hg' => by have := h g hg; have := h' g hg'; omega
theorem touch_below {w w' : World} (h : Below w.heap.size w w') (a b : Nat) : TouchR w w' a b := ⟨h.os, h.tape, h.output, h.size, fun i hi _ => h.block i hi⟩
theorem touch_grown {w w' : World} {v : Value} {a b : Nat} (h : w.grownBy w' v.ownBlock) (hr : RangeV v a b) : TouchR w w' a b :=
  ⟨h.os, h.tape, h.output, h.size, fun i hi hn => h.block i hi (fun e => hn (hr i e.symm))⟩
theorem TouchR.trans {w w1 w2 : World} {a b : Nat} (h : TouchR w w1 a b) (k : TouchR w1 w2 a b) : TouchR w w2 a b :=
  ⟨k.os.trans h.os, k.tape.trans h.tape, k.output.trans h.output, Nat.le_trans h.size k.size, fun i hi hn => (k.block i (Nat.lt_of_lt_of_le hi h.size) hn).trans (h.block i hi hn)⟩
theorem TouchR.wide {w w' : World} {a b a' b' : Nat} (h : TouchR w w' a b) (ha : a' ≤ a) (hb : b ≤ b') : TouchR w w' a' b' := ⟨h.os, h.tape, h.output, h.size, fun i hi hn => h.block i hi (by omega)⟩
theorem TouchR.cell {w w' : World} {a b : Nat} (h : TouchR w w' a b) {p : Addr} {v : Value} (hc : w.cell? p = some v) (hp : ¬ (a ≤ p.block ∧ p.block < b)) : w'.cell? p = some v := by
  have e := h.block p.block (World.block_lt_of_cell? w p hc) hp
  have : w'.cell? p = w.cell? p := by simp [World.cell?, e]
  rw [this]; exact hc
theorem TouchR.frozen {w w' : World} {a b : Nat} (h : TouchR w w' a b) {p : Addr} (hlt : p.block < w.heap.size) (hp : ¬ (a ≤ p.block ∧ p.block < b)) : w'.frozen? p = w.frozen? p := by
  have e := h.block p.block hlt hp
  simp [World.frozen?, e]
theorem TouchR.below {w0 w w' : World} {base a b : Nat} (hb : Below base w0 w) (h : TouchR w w' a b) (h0 : base ≤ w.heap.size) (ha : base ≤ a) : Below base w0 w' :=
  ⟨h.os.trans hb.os, h.tape.trans hb.tape, h.output.trans hb.output, Nat.le_trans hb.size h.size, fun i hi => (h.block i (by omega) (by omega)).trans (hb.block i hi)⟩
theorem SlOf.touch {α : Type} {k : Nat} {cs : α → List Value} {w w' : World} {v : Value} {l : List α} {a b c d : Nat} (h : SlOf k cs w v l) (ht : TouchR w w' a b) (hr : RangeV v c d) (hd : b ≤ c ∨ d ≤ a) : SlOf k cs w' v l := by
  refine ⟨h.1, ?_⟩
  rcases h.2 with ⟨rfl, A, n, rfl⟩ | ⟨g, o, n, rfl, hp, hcap, hc⟩
  · exact .inl ⟨rfl, A, n, rfl⟩
  · refine .inr ⟨g, o, n, rfl, hp, hcap, fun i x hx j u hu => ht.cell (hc i x hx j u hu) ?_⟩
    have := hr g rfl
    show ¬ (a ≤ g ∧ g < b)
    omega
theorem MarkedV.touch {w w' : World} {v : Value} {N : Nat} {mv : Nat → Value} {a b c d : Nat} (h : MarkedV w v N mv) (ht : TouchR w w' a b) (hr : RangeV v c d) (hd : b ≤ c ∨ d ≤ a) : MarkedV w' v N mv := by
  rcases h with h | ⟨g, o, len, n, rfl, hc⟩
  · exact .inl h
  · refine .inr ⟨g, o, len, n, rfl, fun j hj => ht.cell (hc j hj) ?_⟩
    have := hr g rfl
    show ¬ (a ≤ g ∧ g < b)
    omega
theorem FreeV.touch {w w' : World} {v : Value} {a b c d : Nat} (h : FreeV w v) (ht : TouchR w w' a b) (hr : RangeV v c d) (hd : b ≤ c ∨ d ≤ a) : FreeV w' v := fun g hg => by
  have := hr g hg
  refine ⟨fun j => (ht.frozen (p := ⟨g, j, none⟩) (h g hg).2 (by show ¬ (a ≤ g ∧ g < b); omega)).trans ((h g hg).1 j), Nat.lt_of_lt_of_le (h g hg).2 ht.size⟩
theorem Blk.touch {w w' : World} {a b p : Nat} {cs : Array Value} {t : TypeId} (h : Blk w p cs t) (ht : TouchR w w' a b) (hp : ¬ (a ≤ p ∧ p < b)) : Blk w' p cs t := (ht.block p h.lt hp).trans h
end Go.Proofs.YtooeikimoheecaaGreat
namespace Go.Proofs.YtooeikimoheecaaGreat
open Go.RowKit
set_option maxRecDepth 100000
def tideB (m : Int) (l : List PartD) : Bool := decide (-1000 ≤ m ∧ m ≤ 1000 ∧ l.length ≤ 4) && l.all partB
theorem tideB_true {m : Int} {l : List PartD} (h : tideB m l = true) : -1000 ≤ m ∧ m ≤ 1000 ∧ l.length ≤ 4 ∧ ∀ x ∈ l, partB x = true := by
  unfold tideB at h
  rw [Bool.and_eq_true, List.all_eq_true] at h
  have := of_decide_eq_true h.1
  exact ⟨this.1, this.2.1, this.2.2, h.2⟩
theorem tideB_mk {m : Int} {l : List PartD} (h : -1000 ≤ m ∧ m ≤ 1000 ∧ l.length ≤ 4 ∧ ∀ x ∈ l, partB x = true) : tideB m l = true := by
  unfold tideB
  rw [Bool.and_eq_true, List.all_eq_true]
  exact ⟨decide_eq_true ⟨h.1, h.2.1, h.2.2.1⟩, h.2.2.2⟩
theorem tideB_no {m : Int} {l : List PartD} (h : ¬ (-1000 ≤ m ∧ m ≤ 1000 ∧ l.length ≤ 4)) : tideB m l = false := by
  unfold tideB
  rw [decide_eq_false h]; rfl
theorem tideB_bad {m : Int} {l : List PartD} (x : PartD) (i : Nat) (hx : l[i]? = some x) (h : partB x = false) : tideB m l = false := by
  cases e : tideB m l with
  | false => rfl
  | true => rw [(tideB_true e).2.2.2 x (List.mem_of_getElem? hx)] at h; cases h
theorem bcell {W w1 : World} (hb : Below W.heap.size W w1) : (∀ b o, b < W.heap.size → w1.cell? ⟨b, o, none⟩ = W.cell? ⟨b, o, none⟩) ∧ (∀ b o, b < W.heap.size → w1.frozen? ⟨b, o, none⟩ = W.frozen? ⟨b, o, none⟩) :=
  ⟨fun b o h => hb.cell (p := ⟨b, o, none⟩) h, fun b o h => hb.frozen (p := ⟨b, o, none⟩) h⟩
theorem SlP.at {w : World} {v : Value} {l : List PartD} (h : SlP w v l) : ∃ A c, v = .slice A l.length c := SlOf.form h
theorem SlP.below {w w' : World} {v : Value} {l : List PartD} (h : SlP w v l) (hb : Below w.heap.size w w') : SlP w' v l := SlOf.below h hb
theorem OwnP.sl {w : World} {base : Nat} {v : Value} {l : List PartD} (h : OwnP w base v l) (hl : l.length ≤ 1000000000) : SlP w v l := own_sl partLen h hl
theorem set_under {w : World} {base : Nat} {v : Value} {l : List PartD} (h : OwnP w base v l) {a : Addr} (ha : a.block < base) (u : Value) : OwnP (w.setCell a u) base v l := by
  refine World.ownsRow.kept h (row := some a.block) ⟨rfl, rfl, rfl, by simp [World.setCell], fun i hi hne => Below.heap_setCell w _ u i (by rintro rfl; exact hne rfl)⟩ ?_
  cases hv : v.ownBlock with
  | none => exact .inl rfl
  | some g =>
    right
    intro e
    have := (World.ownsRow.lt h g hv).1
    have := Option.some.inj e
    omega
theorem szTide_any (m : Int) (A : Option Addr) (n c : Nat) (w : World) (hn : n ≤ 9223372036854775807) (lim : Int) (h0 : 0 ≤ lim) (h1 : lim ≤ 1048576) :
    Calls Tryz.prog 30 #[.agg #[.int .i64 m, .slice A n c], .int .i64 lim] w fun e w' => e = .returned (.int .i64 (if lim < (n : Int) then -1 else lim - (n : Int))) ∧ Below w.heap.size w w' := by
  have C := fun W => Lib.hid (szPartS_any A n c W hn lim h0 h1)
  by_cases hlt : lim < (n : Int)
  · rw [if_pos hlt] at C ⊢
    go_enter Tryz.func30, Tryz.ntmps30
    go_wp2_with fail
    refine (C _).out.mono ?_
    rintro e w1 ⟨rfl, rfl⟩
    go_wp2
    go_ret
    exact ⟨rfl, Joins.below_alloc1 _ _⟩
  · rw [if_neg hlt] at C ⊢
    go_enter Tryz.func30, Tryz.ntmps30
    go_wp2_with fail
    refine (C _).out.mono ?_
    rintro e w1 ⟨rfl, rfl⟩
    go_wp2
    go_ret
    exact ⟨rfl, Joins.below_alloc1 _ _⟩
theorem eqTide_same (m : Int) (va vb : Value) (l : List PartD) (w : World) (ha : SlP w va l) (hb : SlP w vb l) :
    Calls Tryz.prog 42 #[.agg #[.int .i64 m, va], .agg #[.int .i64 m, vb]] w fun e w' => e = .returned (.bool true) ∧ Below w.heap.size w w' := by
  have HA := Lib.hid ha
  have HB := Lib.hid hb
  obtain ⟨A, c, rfl⟩ := ha.at
  obtain ⟨A', c', rfl⟩ := hb.at
  clear ha hb
  go_enter Tryz.func42, Tryz.ntmps42
  go_wp2_with fail
  have hb0 := Joins.below_alloc2 w (.cells #[.int .i64 m, .slice A l.length c] 41) (.cells #[.int .i64 m, .slice A' l.length c'] 41)
  refine (eqPartS_same _ _ l _ (HA.out.below hb0) (HB.out.below hb0)).mono ?_
  rintro e w1 ⟨rfl, hb⟩
  go_wp2
  go_ret
  exact ⟨rfl, hb0.trans (hb.mono hb0.size)⟩
end Go.Proofs.YtooeikimoheecaaGreat
namespace Go.Proofs.YtooeikimoheecaaGreat
open Go.ChangeShapes Go.WideShapes Go.ChangeAt Go.Deep Go.RowKit
set_option maxRecDepth 100000
set_option maxHeartbeats 1000000 in
theorem markPartS_any (v : Value) (l : List PartD) (k : Int) (w : World) (h : SlP w v l) (hfz : ∀ g, v.ownBlock = some g → ∀ j, w.frozen? ⟨g, j, none⟩ = false) (h0 : 0 ≤ k) (h1 : k ≤ 100000000) (h2 : l.length ≤ 10000000) :
    Calls Tryz.prog 90 #[v, .int .i64 k] w fun e w' => e = .returned (.int .i64 (k + (l.length : Int) * 3)) ∧ Marked w' v (l.length * 3) k ∧ w.grownBy w' v.ownBlock := by
  obtain ⟨hl, h⟩ := h
  rcases h with ⟨rfl, A, c, rfl⟩ | ⟨g, o, c, rfl, hp, hcap, hc⟩
  · go_enter Tryz.func90, Tryz.ntmps90
    go_wp2
    refine wp_loop_rounds 1 ?_
    rw [rounds_succ]
    go_wp2
    go_ret
    exact ⟨ret_int (by simp), .inl (by simp), World.grownBy.refl _ _⟩
  · have hs : MarkRow w g o (l.length * 3) k (0 * 3) w := MarkRow.start (ints_of (fun x : PartD => [x.amp, x.per, x.pha]) (fun x => rfl) (by omega) partLen hc) (fun j => hfz g rfl j)
    have HS := Lib.hid hs
    clear hs hc hfz
    go_enter Tryz.func90, Tryz.ntmps90
    go_wp2
    go_loopw [1, 5] (fun q i wr => ∃ j : Nat, j ≤ l.length ∧ i = .int .i64 j ∧ q = .int .i64 (k + (j : Int) * 3) ∧ Hid (MarkRow w g o (l.length * 3) k (j * 3) wr)) (fun _ i _ => l.length - (intOf i).toNat)
    case atStart => exact ⟨0, Nat.zero_le _, rfl, by simp, HS⟩
    case round =>
      obtain ⟨j, hj, rfl, rfl, hM⟩ := hrel
      by_cases hlt : j < l.length
      · have fz := hM.out.2.2.2
        obtain ⟨x0, c0⟩ := hM.out.read (j * 3 + 0) (by omega) (by omega) (o + j * 3) (by omega)
        have f0 := fz (o + j * 3)
        have M0 := hM.out.next' (by omega) (o + j * 3) (by omega) (k + (j : Int) * 3) (by omega) (j * 3 + 1) rfl
        obtain ⟨x1, c1⟩ := hM.out.read (j * 3 + 1) (by omega) (by omega) (o + j * 3 + 1) (by omega)
        have f1 := fz (o + j * 3 + 1)
        have M1 := M0.next' (by omega) (o + j * 3 + 1) (by omega) (k + (j : Int) * 3 + 1) (by omega) (j * 3 + 2) rfl
        obtain ⟨x2, c2⟩ := hM.out.read (j * 3 + 2) (by omega) (by omega) (o + j * 3 + 2) (by omega)
        have f2 := fz (o + j * 3 + 2)
        have M2 := M1.next' (by omega) (o + j * 3 + 2) (by omega) (k + (j : Int) * 3 + 1 + 1) (by omega) (j * 3 + 3) rfl
        have HM := Lib.hid M2
        clear fz M0 M1 M2
        go_wp2
        go_roundw
        case rel =>
          refine ⟨j + 1, by omega, by go_num, ?_, ?_⟩
          · congr 1; omega
          · rw [show (j + 1) * 3 = j * 3 + 3 by omega]; exact HM
        case measure => simp [intOf]; omega
      · go_wp2
        go_ret
        obtain rfl : j = l.length := by omega
        exact ⟨rfl, .inr ⟨g, o, l.length, c, rfl, hM.out.2.1⟩, hM.out.1⟩
end Go.Proofs.YtooeikimoheecaaGreat
namespace Go.Proofs.YtooeikimoheecaaGreat
open Go.RowKit
set_option maxRecDepth 100000
/-- An element of a list of ints over memory of its own, whatever its length. -/
theorem own_int_at {w : World} {base : Nat} {v : Value} {l : List Int} {k : Nat} {x : Int} (h : OwnInt w base v l) (hx : l[k]? = some x) : ∃ g c, v = .slice (some ⟨g, 0, none⟩) l.length c ∧ w.cell? ⟨g, k, none⟩ = some (.int .i64 x) := by
  have hk : k < l.length := (List.getElem?_eq_some_iff.1 hx).1
  have hf : l.flatMap intCells = l.map (fun x => Value.int .i64 x) := by
    clear h hx hk
    induction l with
    | nil => rfl
    | cons x l ih => simp [intCells, ih]
  have h' := h
  rcases h.2 with ⟨_, h0⟩ | ⟨g, cap, cur, rfl, rest⟩
  · omega
  · refine ⟨g, cap, rfl, ?_⟩
    have := World.ownsRow.cells h' (g := g) rfl k (.int .i64 x) (by rw [hf]; simp [hx])
    have e : (⟨g, 0, none⟩ : Addr).add k = ⟨g, k, none⟩ := by unfold Addr.add; split <;> simp_all
    rw [e] at this
    exact this
/-- What a search for starts leaves. -/
def SailPost (x : Option (List Int)) (w : World) (e : Ending) (w' : World) : Prop := ∃ v, e = .returned (.tuple #[v, .bool x.isSome]) ∧ OwnInt w' w.heap.size v (x.getD []) ∧ Below w.heap.size w w'
theorem SailPost.no {x : Option (List Int)} {w w' : World} (h : x = none) (hb : Below w.heap.size w w') : SailPost x w (.returned (.tuple #[.slice none 0 0, .bool false])) w' := by
  subst h
  exact ⟨_, rfl, (GathO.empty (cs := intCells) (t := 3) (k := 1) hb).1, hb⟩
theorem SailPost.yes {x : Option (List Int)} {w w' : World} {out : List Int} {v : Value} (h : x = some out) (ho : OwnInt w' w.heap.size v out) (hb : Below w.heap.size w w') : SailPost x w (.returned (.tuple #[v, .bool true])) w' := by
  subst h
  exact ⟨_, rfl, ho, hb⟩
theorem getD_at {α : Type} {l : List α} {k : Nat} {x z : α} (h : l[k]? = some x) : l.getD k z = x := by rw [List.getD_eq_getElem?_getD, h]; rfl
end Go.Proofs.YtooeikimoheecaaGreat
namespace Go.Proofs.YtooeikimoheecaaGreat
open Go.ChangeShapes Go.WideShapes Go.ChangeAt Go.Deep Go.RowKit
set_option maxRecDepth 100000
variable {H : Type} {enc : TypeId × Value → H} {w : World}
theorem open_ships_arg {r : Reach} {b0 : Nat} {v : Value} {d : DataW H} {ps : List MemPlace} (hval : Value.okWide Tryz.prog w r b0 32 v) (hd : DataW.Trod enc Tryz.prog w 0 (fun _ => true) true 32 v d ps) :
    ∃ A c l, v = .slice A l.length c ∧ l.length ≤ maxLen ∧ (l.length ≤ 1000000000 → SlShip w (.slice A l.length c) l) ∧ ∀ d ∈ l, ShipD.wf d := by
  obtain ⟨A, len, cap, rfl⟩ := okWide_slice Tryz.underlying32 hval
  obtain ⟨fuel, hf⟩ := hd
  exact open_ships hf
end Go.Proofs.YtooeikimoheecaaGreat
