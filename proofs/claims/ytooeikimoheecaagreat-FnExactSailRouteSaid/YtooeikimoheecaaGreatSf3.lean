
/- What ExactSailRoute and ExactFirstSail rests on, part 3: contracts and mathematics. -/
import Derived.Test.YtooeikimoheecaaGreatSf0
import Derived.Test.YtooeikimoheecaaGreatSf1
import Derived.StillTailTactics
namespace Go.Proofs.YtooeikimoheecaaGreat
open Go.ChangeShapes Go.WideShapes Go.ChangeAt Go.Deep Go.RowKit
set_option maxRecDepth 100000
structure SurgeD where
  fr : Int
  lo : Int
  hi : Int
@[reducible] def SurgeD.val (d : SurgeD) : Value := .agg #[.int .i64 d.fr, .int .i64 d.lo, .int .i64 d.hi]
@[reducible] def SurgeD.cells (d : SurgeD) : List Value := [.int .i64 d.fr, .int .i64 d.lo, .int .i64 d.hi]
theorem surgeLen (d : SurgeD) : d.cells.length = 3 := rfl
def SlSurge : World → Value → List SurgeD → Prop := SlOf 3 SurgeD.cells
def OwnSurge : World → Nat → Value → List SurgeD → Prop := OwnOf 3 SurgeD.cells 115
def NewSurge : List SurgeD → World → Ending → World → Prop := NewOf 3 SurgeD.cells 115
theorem SlSurge.at {w : World} {v : Value} {l : List SurgeD} (h : SlSurge w v l) : ∃ A c, v = .slice A l.length c := SlOf.form h
theorem SlSurge.below {w w' : World} {v : Value} {l : List SurgeD} (h : SlSurge w v l) (hb : Below w.heap.size w w') : SlSurge w' v l := SlOf.below h hb
theorem OwnSurge.sl {w : World} {base : Nat} {v : Value} {l : List SurgeD} (h : OwnSurge w base v l) (hl : l.length ≤ 1000000000) : SlSurge w v l := own_sl surgeLen h hl
theorem SlSurge.cells {w : World} {l : List SurgeD} {g o : Nat} (hc : ∀ i x, l[i]? = some x → ∀ j u, (SurgeD.cells x)[j]? = some u → w.cell? ⟨g, o + i * 3 + j, none⟩ = some u) (i : Nat) (x : SurgeD) (hx : l[i]? = some x) :
    w.cell? ⟨g, o + i * 3, none⟩ = some (.int .i64 x.fr) ∧ w.cell? ⟨g, o + i * 3 + 1, none⟩ = some (.int .i64 x.lo) ∧ w.cell? ⟨g, o + i * 3 + 2, none⟩ = some (.int .i64 x.hi) :=
  ⟨hc i x hx 0 _ rfl, hc i x hx 1 _ rfl, hc i x hx 2 _ rfl⟩
def zeroSurge : List Value := [.int .i64 0, .int .i64 0, .int .i64 0]
theorem info_surge : (Tryz.prog.info? 115).map (fun i => (i.zero, i.size, i.bytes)) = some (some (.agg #[.int .i64 0, .int .i64 0, .int .i64 0]), 3, 24) := by kernel_rfl
theorem make_surges (n : Nat) (hn : n ≤ 1000000000) (W : World) :
    (Instr.makeSlice 42 (.int .i64 (n : Int)) (.int .i64 (n : Int))).run Tryz.prog W = .ok (.slice (some ⟨W.heap.size, 0, none⟩) n n) (W.alloc (.cells (madeCells #[.int .i64 0, .int .i64 0, .int .i64 0] (n * 3)) 115)) := by
  obtain ⟨i0, hi, hz0, hz1, hz2⟩ := info_parts info_surge
  have hr := run_make (P := Tryz.prog) W 42 115 i0 _ Tryz.underlying42 hi hz0 .i64 .i64 n n (by omega) (Int.le_refl _) (by rw [hz2]; omega) (by omega)
  simp only [Int.toNat_natCast, hz1] at hr
  exact hr
theorem toSurge_any (fr lo hi : Int) (w : World) : Calls Tryz.prog 68 #[.agg #[.int .i64 fr, .int .i64 lo, .int .i64 hi]] w fun e w' => e = .returned (.agg #[.int .i64 fr, .int .i64 lo, .int .i64 hi]) ∧ Below w.heap.size w w' := by
  go_enter Tryz.func68, Tryz.ntmps68
  go_wp2
  refine bodyPost_ret (v := .agg #[.int .i64 fr, .int .i64 lo, .int .i64 hi]) (by simp [results, Tryz.results68, go_sem]) rfl ⟨rfl, ?_⟩
  repeat (first | exact Below.refl _ _ | refine Below.setCell ?_ (by simp <;> omega) _ | refine Below.alloc ?_ (by simp <;> omega) _)
theorem eqSurge_same (fr lo hi : Int) (w : World) : Calls Tryz.prog 79 #[.agg #[.int .i64 fr, .int .i64 lo, .int .i64 hi], .agg #[.int .i64 fr, .int .i64 lo, .int .i64 hi]] w fun e w' => e = .returned (.bool true) ∧ Below w.heap.size w w' := by
  go_enter Tryz.func79, Tryz.ntmps79
  go_wp2
  go_ret
  exact ⟨rfl, Joins.below_alloc2 _ _ _⟩
set_option maxHeartbeats 1000000 in
theorem toSurgeS_any (v : Value) (l : List SurgeD) (w : World) (h : SlSurge w v l) :
    Calls Tryz.prog 37 #[v] w (NewSurge l w) := by
  obtain ⟨hl, h⟩ := h
  have hmk := make_surges l.length hl
  rcases h with ⟨rfl, A, c, rfl⟩ | ⟨g, o, c, rfl, hp, hcap, hc⟩
  · have hmk0 : ∀ W : World, (Instr.makeSlice 42 (.int .i64 0) (.int .i64 0)).run Tryz.prog W = .ok (.slice (some ⟨W.heap.size, 0, none⟩) 0 0) (W.alloc (.cells (madeCells #[.int .i64 0, .int .i64 0, .int .i64 0] (0 * 3)) 115)) := make_surges 0 (by omega)
    clear hmk
    go_enter Tryz.func37, Tryz.ntmps37
    go_wp2
    refine wp_loop_rounds 1 ?_
    rw [rounds_succ]
    go_wp2
    go_ret
    have h := World.ownsRow_lit (base := w.heap.size) (e := 115) (size := 3) w (madeCells #[.int .i64 0, .int .i64 0, .int .i64 0] (0 * 3)) 0 (Nat.le_refl _) (by decide) (by rw [size_madeCells])
    rw [show (madeCells #[Value.int .i64 0, .int .i64 0, .int .i64 0] (0 * 3)).toList = [] by simp [madeCells]] at h
    exact ⟨_, rfl, h, (Below.refl _ _).alloc (Nat.le_refl _) _⟩
  · have HC := Lib.hid hc
    clear hc
    go_enter Tryz.func37, Tryz.ntmps37
    go_wp2
    clear hmk
    go_loopw [4] (fun i wr => ∃ k : Nat, k ≤ l.length ∧ i = .int .i64 k ∧ Hid (wr.ownsRow w.heap.size 115 3 (.slice (some ⟨w.heap.size, 0, none⟩) l.length l.length) l.length (halfOf SurgeD.cells zeroSurge l k)) ∧ Below w.heap.size w wr) (fun i _ => l.length - (intOf i).toNat)
    case atStart =>
      refine ⟨0, Nat.zero_le _, rfl, ?_, (Below.refl _ _).alloc (Nat.le_refl _) _⟩
      have h := World.ownsRow_lit (base := w.heap.size) (e := 115) (size := 3) w (madeCells #[.int .i64 0, .int .i64 0, .int .i64 0] (l.length * 3)) l.length (Nat.le_refl _) (by unfold maxLen; omega) (by rw [size_madeCells])
      have e := made_flat #[.int .i64 0, .int .i64 0, .int .i64 0] l.length
      rw [half_none]
      exact Lib.hid (e ▸ h)
    case round =>
      obtain ⟨k, hk, rfl, hown, hb⟩ := hrel
      by_cases hlt : k < l.length
      · obtain ⟨x, hx⟩ : ∃ x, l[k]? = some x := ⟨_, List.getElem?_eq_getElem hlt⟩
        obtain ⟨q0, q1, q2⟩ := SlSurge.cells HC.out k x hx
        have hlt2 : g < w.heap.size := World.block_lt_of_cell? w ⟨g, o + k * 3, none⟩ q0
        have c0 := (hb.cell (p := ⟨g, o + k * 3, none⟩) hlt2).trans q0
        have c1 := (hb.cell (p := ⟨g, o + k * 3 + 1, none⟩) hlt2).trans q1
        have c2 := (hb.cell (p := ⟨g, o + k * 3 + 2, none⟩) hlt2).trans q2
        have Hx := Lib.hid hx
        clear q0 q1 q2 hx
        go_wp2_with fail
        refine (toSurge_any _ _ _ _).mono ?_
        rintro e w1 ⟨rfl, hb1⟩
        have own1 := ownsRow_below hown.out hb1
        have B1 : Below w.heap.size w w1 := hb.trans (hb1.mono hb.size)
        have s0 : w1.cell? ⟨w.heap.size, k * 3, none⟩ = some (.int .i64 0) := (World.ownsRow.cellAt own1 (k * 3) (by omega)).trans (half_at surgeLen l k hlt 0 _ rfl)
        have s1 : w1.cell? ⟨w.heap.size, k * 3 + 1, none⟩ = some (.int .i64 0) := (World.ownsRow.cellAt own1 (k * 3 + 1) (by omega)).trans (half_at surgeLen l k hlt 1 _ rfl)
        have s2 : w1.cell? ⟨w.heap.size, k * 3 + 2, none⟩ = some (.int .i64 0) := (World.ownsRow.cellAt own1 (k * 3 + 2) (by omega)).trans (half_at surgeLen l k hlt 2 _ rfl)
        have z0 : w1.frozen? ⟨w.heap.size, k * 3, none⟩ = false := World.ownsRow.frozenAt own1 _
        have z1 : w1.frozen? ⟨w.heap.size, k * 3 + 1, none⟩ = false := World.ownsRow.frozenAt own1 _
        have z2 : w1.frozen? ⟨w.heap.size, k * 3 + 2, none⟩ = false := World.ownsRow.frozenAt own1 _
        have hst := (World.ownsRow.stored (World.ownsRow.stored (World.ownsRow.stored own1 (k * 3) (.int .i64 x.fr)).1 (k * 3 + 1) (.int .i64 x.lo)).1 (k * 3 + 2) (.int .i64 x.hi)).1
        have e := half_set surgeLen (zc := zeroSurge) rfl l k x Hx.out
        have HO := Lib.hid ((show ((((halfOf SurgeD.cells zeroSurge l k).set (k * 3) (.int .i64 x.fr)).set (k * 3 + 1) (.int .i64 x.lo)).set (k * 3 + 2) (.int .i64 x.hi)) = halfOf SurgeD.cells zeroSurge l (k + 1) from e) ▸ hst)
        have HB := Lib.hid (((B1.setCell (p := ⟨w.heap.size, k * 3, none⟩) (Nat.le_refl _) (.int .i64 x.fr)).setCell (p := ⟨w.heap.size, k * 3 + 1, none⟩) (Nat.le_refl _) (.int .i64 x.lo)).setCell (p := ⟨w.heap.size, k * 3 + 2, none⟩) (Nat.le_refl _) (.int .i64 x.hi))
        clear own1 hst e hb1 B1
        go_wp2
        go_roundw
        case rel => exact ⟨k + 1, by omega, by go_num, HO, HB.out⟩
        case measure => simp [intOf]; omega
      · go_wp2
        go_ret
        obtain rfl : k = l.length := by omega
        have ho := hown.out
        rw [half_full] at ho
        exact ⟨_, rfl, ho, hb⟩
theorem szSurgeS_any (A : Option Addr) (n c : Nat) (w : World) (hn : n ≤ 9223372036854775807) (lim : Int) (h0 : 0 ≤ lim) (h1 : lim ≤ 1048576) :
    Calls Tryz.prog 31 #[.slice A n c, .int .i64 lim] w fun e w' => e = .returned (.int .i64 (if lim < (n : Int) then -1 else lim - (n : Int))) ∧ w = w' := by
  by_cases hlt : lim < (n : Int)
  · go_enter Tryz.func31, Tryz.ntmps31
    go_wp2
    go_ret
    exact ⟨rfl, rfl⟩
  · go_enter Tryz.func31, Tryz.ntmps31
    go_wp2
    go_ret
    exact ⟨rfl, rfl⟩
set_option maxHeartbeats 1000000 in
theorem eqSurgeS_same (va vb : Value) (l : List SurgeD) (w : World) (ha : SlSurge w va l) (hb : SlSurge w vb l) :
    Calls Tryz.prog 43 #[va, vb] w fun e w' => e = .returned (.bool true) ∧ Below w.heap.size w w' := by
  obtain ⟨hl, ha⟩ := ha
  obtain ⟨_, hb⟩ := hb
  rcases ha with ⟨rfl, A, c, rfl⟩ | ⟨g, o, c, rfl, hp, _, hca⟩
  · rcases hb with ⟨_, A', c', rfl⟩ | ⟨g', o', c', rfl, hp, _, _⟩
    · go_enter Tryz.func43, Tryz.ntmps43
      go_wp2
      refine wp_loop_rounds 1 ?_
      rw [rounds_succ]
      go_wp2
      go_ret
      exact ⟨rfl, Below.refl _ _⟩
    · exact absurd hp (by simp)
  · rcases hb with ⟨rfl, A', c', rfl⟩ | ⟨g', o', c', rfl, _, _, hcb⟩
    · exact absurd hp (by simp)
    · have HA := Lib.hid hca
      have HB := Lib.hid hcb
      clear hca hcb
      go_enter Tryz.func43, Tryz.ntmps43
      go_wp2
      go_loopw [5] (fun i wr => ∃ k : Nat, k ≤ l.length ∧ i = .int .i64 k ∧ Below w.heap.size w wr) (fun i _ => l.length - (intOf i).toNat)
      case atStart => exact ⟨0, Nat.zero_le _, rfl, Below.refl _ _⟩
      case round =>
        obtain ⟨k, hk, rfl, hb⟩ := hrel
        by_cases hlt : k < l.length
        · obtain ⟨x, hx⟩ : ∃ x, l[k]? = some x := ⟨_, List.getElem?_eq_getElem hlt⟩
          obtain ⟨p0, p1, p2⟩ := SlSurge.cells HA.out k x hx
          obtain ⟨q0, q1, q2⟩ := SlSurge.cells HB.out k x hx
          have hg : g < w.heap.size := World.block_lt_of_cell? w ⟨g, o + k * 3, none⟩ p0
          have hg' : g' < w.heap.size := World.block_lt_of_cell? w ⟨g', o' + k * 3, none⟩ q0
          have a0 := (hb.cell (p := ⟨g, o + k * 3, none⟩) hg).trans p0
          have a1 := (hb.cell (p := ⟨g, o + k * 3 + 1, none⟩) hg).trans p1
          have a2 := (hb.cell (p := ⟨g, o + k * 3 + 2, none⟩) hg).trans p2
          have b0 := (hb.cell (p := ⟨g', o' + k * 3, none⟩) hg').trans q0
          have b1 := (hb.cell (p := ⟨g', o' + k * 3 + 1, none⟩) hg').trans q1
          have b2 := (hb.cell (p := ⟨g', o' + k * 3 + 2, none⟩) hg').trans q2
          have hbs := hb.size
          clear p0 q0 p1 q1 p2 q2 hx
          go_wp2
          go_still_tail 8, (by kernel_rfl)
          change wpList _ _ _ _ _ wr.drew
          have hd := hb.drew
          generalize wr.drew = w2 at hd ⊢
          have hds := hd.size
          clear a0 b0 a1 b1 a2 b2 hb hbs
          go_wp2_with fail
          refine (eqSurge_same _ _ _ _).mono ?_
          rintro e w3 ⟨rfl, hb3⟩
          have B3 := Lib.hid (hd.trans (hb3.mono hds))
          clear hb3 hd hds
          go_wp2
          go_roundw
          case rel => exact ⟨k + 1, by omega, by go_num, B3.out⟩
          case measure => simp [intOf]; omega
        · go_wp2
          go_ret
          exact ⟨rfl, hb⟩
set_option maxHeartbeats 1000000 in
theorem markSurgeS_any (v : Value) (l : List SurgeD) (k : Int) (w : World) (h : SlSurge w v l) (hfz : ∀ g, v.ownBlock = some g → ∀ j, w.frozen? ⟨g, j, none⟩ = false) (h0 : 0 ≤ k) (h1 : k ≤ 100000000) (h2 : l.length ≤ 10000000) :
    Calls Tryz.prog 56 #[v, .int .i64 k] w fun e w' => e = .returned (.int .i64 (k + (l.length : Int) * 3)) ∧ Marked w' v (l.length * 3) k ∧ w.grownBy w' v.ownBlock := by
  obtain ⟨hl, h⟩ := h
  rcases h with ⟨rfl, A, c, rfl⟩ | ⟨g, o, c, rfl, hp, hcap, hc⟩
  · go_enter Tryz.func56, Tryz.ntmps56
    go_wp2
    refine wp_loop_rounds 1 ?_
    rw [rounds_succ]
    go_wp2
    go_ret
    exact ⟨ret_int (by simp), .inl (by simp), World.grownBy.refl _ _⟩
  · have hs : MarkRow w g o (l.length * 3) k (0 * 3) w := MarkRow.start (ints_of (fun x : SurgeD => [x.fr, x.lo, x.hi]) (fun x => rfl) (by omega) surgeLen hc) (fun j => hfz g rfl j)
    have HS := Lib.hid hs
    clear hs hc hfz
    go_enter Tryz.func56, Tryz.ntmps56
    go_wp2
    go_loopw [1, 5] (fun q i wr => ∃ j : Nat, j ≤ l.length ∧ i = .int .i64 j ∧ q = .int .i64 (k + (j : Int) * 3) ∧ Hid (MarkRow w g o (l.length * 3) k (j * 3) wr)) (fun _ i _ => l.length - (intOf i).toNat)
    case atStart => exact ⟨0, Nat.zero_le _, rfl, by simp, HS⟩
    case round =>
      obtain ⟨j, hj, rfl, rfl, hM⟩ := hrel
      by_cases hlt : j < l.length
      · have fz := hM.out.2.2.2
        obtain ⟨x0, c0⟩ := hM.out.read (j * 3 + 0) (by omega) (by omega) (o + j * 3) (by omega)
        have f0 := fz (o + j * 3)
        have M0 := hM.out.next' (by omega) (o + j * 3) (by omega) (k + (j : Int) * 3) (by omega) (j * 3 + 1) rfl
        obtain ⟨x1, c1⟩ := hM.out.read (j * 3 + 1) (by omega) (by omega) (o + j * 3 + 1) (by omega)
        have f1 := fz (o + j * 3 + 1)
        have M1 := M0.next' (by omega) (o + j * 3 + 1) (by omega) (k + (j : Int) * 3 + 1) (by omega) (j * 3 + 2) rfl
        obtain ⟨x2, c2⟩ := hM.out.read (j * 3 + 2) (by omega) (by omega) (o + j * 3 + 2) (by omega)
        have f2 := fz (o + j * 3 + 2)
        have M2 := M1.next' (by omega) (o + j * 3 + 2) (by omega) (k + (j : Int) * 3 + 1 + 1) (by omega) (j * 3 + 3) rfl
        have HM := Lib.hid M2
        clear fz M0 M1 M2
        go_wp2
        go_roundw
        case rel =>
          refine ⟨j + 1, by omega, by go_num, ?_, ?_⟩
          · congr 1; omega
          · rw [show (j + 1) * 3 = j * 3 + 3 by omega]; exact HM
        case measure => simp [intOf]; omega
      · go_wp2
        go_ret
        obtain rfl : j = l.length := by omega
        exact ⟨rfl, .inr ⟨g, o, l.length, c, rfl, hM.out.2.1⟩, hM.out.1⟩
section
variable {H : Type} {enc : TypeId × Value → H} {w : World} {base : Nat} {spare : Nat → Bool} {held : Bool}
def SurgeD.wf (d : SurgeD) : Prop := (Lit.int .i64 d.fr).wf = true ∧ (Lit.int .i64 d.lo).wf = true ∧ (Lit.int .i64 d.hi).wf = true
theorem dec_surge (n : Nat) (cs : List Value) (y : DataW H × List MemPlace) (h : DataW.trod enc Tryz.prog w base spare held n 117 cs = some y) : ∃ d : SurgeD, cs = d.cells ∧ d.wf := by
  obtain ⟨hl, hf⟩ := struct_cells Tryz.underlying117 (by kernel_rfl) (by kernel_rfl) h
  obtain ⟨v0, n0, y0, e0, h0⟩ := hf 0 _ rfl
  obtain ⟨v1, n1, y1, e1, h1⟩ := hf 1 _ rfl
  obtain ⟨v2, n2, y2, e2, h2⟩ := hf 2 _ rfl
  obtain ⟨a0, ha0, _, wa0⟩ := DataW.trod_int Tryz.underlying3 h0
  obtain ⟨a1, ha1, _, wa1⟩ := DataW.trod_int Tryz.underlying3 h1
  obtain ⟨a2, ha2, _, wa2⟩ := DataW.trod_int Tryz.underlying3 h2
  simp only [List.cons.injEq, and_true] at ha0 ha1 ha2
  subst ha0 ha1 ha2
  refine ⟨⟨a0, a1, a2⟩, ?_, wa0, wa1, wa2⟩
  match cs, hl with
  | [c0, c1, c2], _ =>
    simp at e0 e1 e2
    subst e0 e1 e2
    rfl
theorem open_surges {fuel : Nat} {v : Value} {x : DataW H × List MemPlace} (h : DataW.trod enc Tryz.prog w base (fun _ => true) held fuel 25 [v] = some x) :
    ∃ A c l, v = .slice A l.length c ∧ l.length ≤ maxLen ∧ (l.length ≤ 1000000000 → SlSurge w (.slice A l.length c) l) ∧ ∀ d ∈ l, SurgeD.wf d :=
  open_elems SurgeD.cells 3 SurgeD.wf Tryz.underlying25 (by kernel_rfl) surgeLen (by omega) dec_surge h
end
end Go.Proofs.YtooeikimoheecaaGreat
namespace Go.Proofs.YtooeikimoheecaaGreat
open Go.RowKit
section
variable {P : Program} {ops : Array Oper} {md : Region.Mode} {F : Fence} {n : Nat} {Q : Exit → Act → World → Prop} {S : World → Prop}
/-- Whatever order is picked, the first operations, k of them, come up ahead of all others. -/
def aheadB (md : Region.Mode) (ops : Array Oper) (k : Nat) : Nat → Array Bool → Bool
  | 0, listed => (List.range k).all fun i => listed.getD i true
  | f + 1, listed => !(Region.ready md ops listed).isEmpty && (Region.ready md ops listed).all fun i => decide (i < k) && aheadB md ops k f (listed.setIfInBounds i true)
def heldTo (F : Fence) (n : Nat) (P : Program) (md : Region.Mode) (ops : Array Oper) (Q : Exit → Act → World → Prop) (S : World → Prop) (R : Array Bool → Act → World → Prop) : Nat → Array Bool → Act → World → Prop
  | 0, listed, a, w => R listed a w
  | f + 1, listed, a, w => ∀ i ∈ Region.ready md ops listed, wpOpIn F n P ops Q i (fun a' w' => S w' ∧ heldTo F n P md ops Q S R f (listed.setIfInBounds i true) a' w') a w
theorem aheadB_succ {k f : Nat} {listed : Array Bool} (h : aheadB md ops k (f + 1) listed = true) : Region.ready md ops listed ≠ [] ∧ ∀ i ∈ Region.ready md ops listed, i < k ∧ aheadB md ops k f (listed.setIfInBounds i true) = true := by
  unfold aheadB at h
  simp only [Bool.and_eq_true, Bool.not_eq_true', List.all_eq_true, decide_eq_true_eq] at h
  exact ⟨fun e => by rw [e] at h; simp at h, h.2⟩
theorem anyIn_of_to {k g : Nat} {R : Array Bool → Act → World → Prop} (hR : ∀ listed a w, R listed a w → wpAnyIn F n P md ops Q g listed a w) :
    ∀ (f : Nat) (listed : Array Bool) (a : Act) (w : World), aheadB md ops k f listed = true → heldTo F n P md ops Q S R f listed a w → wpAnyIn F n P md ops Q (f + g) listed a w
  | 0, listed, a, w, _, h => by rw [Nat.zero_add]; exact hR _ _ _ h
  | f + 1, listed, a, w, hB, h => by
    rw [show f + 1 + g = (f + g) + 1 by omega]
    obtain ⟨h1, h2⟩ := aheadB_succ hB
    exact ⟨fun h0 => absurd h0 h1, fun i hi => wpOpIn_mono (fun a' w' h' => anyIn_of_to hR f _ a' w' (h2 i hi).2 h'.2) (h i hi)⟩
theorem heldTo_first (L : Lets F n P) (hd : noDefer ops = true) {k : Nat} {R : Array Bool → Act → World → Prop} {i : Nat} {oi : Oper} {v : Value} (hi : ops[i]? = some oi) (hsel : ∀ (j : Nat) (o : Oper) cs b, ops[j]? = some o → o.op ≠ .select cs b)
    (hQ : ∀ c a w, Q (.panic c) (a.put oi.dst v) w → Q (.panic c) a w) :
    ∀ (f : Nat) (listed : Array Bool) (a : Act) (w : World), aheadB md ops k (f + 1) listed = true →
      (∀ j oj, ops[j]? = some oj → j ≠ i → listed.getD j true = false → (∀ e ∈ oj.after, Region.binds md e = true → e.on ≠ i) → oi.apart ops oj = true) →
      i ∈ Region.ready md ops listed → YieldsIf P ops S oi v a → S w →
      heldTo F n P md ops Q S R f (listed.setIfInBounds i true) (a.put oi.dst v) w → heldTo F n P md ops Q S R (f + 1) listed a w := by
  intro f
  induction f with
  | zero =>
    intro listed a w hB _ hr hy hS H j hj
    by_cases hji : j = i
    · subst hji; exact yieldsIf_opIn L hd hi hy hS ⟨hS, H⟩
    · obtain ⟨_, h2⟩ := aheadB_succ hB
      have h3 := (h2 i hr).2
      unfold aheadB at h3
      rw [List.all_eq_true] at h3
      have h4 := h3 j (List.mem_range.2 (h2 j hj).1)
      have h5 := (mem_ready.1 (ready_mono hj hji)).1
      rw [h4] at h5
      cases h5
  | succ f ih =>
    intro listed a w hB hfree hr hy hS H j hj
    by_cases hji : j = i
    · subst hji; exact yieldsIf_opIn L hd hi hy hS ⟨hS, H⟩
    · have h1 := H j (ready_mono hj hji)
      obtain ⟨hjun, oj, hoj, hall⟩ := mem_ready.1 hj
      have hnot : ∀ e ∈ oj.after, Region.binds md e = true → e.on ≠ i := fun e he hb heq => by
        have h1 := hall e he hb
        have h0 := (mem_ready.1 hr).1
        rw [heq] at h1
        rcases Nat.lt_or_ge i listed.size with h' | h'
        · simp [h'] at h0 h1; rw [h0] at h1; cases h1
        · simp [Array.getElem?_eq_none h'] at h1
      have h2 := opIn_putIf L hd hoj (hfree j oj hoj hji hjun hnot) (fun cs b => hsel i oi cs b hi) (fun cs b => hsel j oj cs b hoj) hQ hy h1
      have hfree' : ∀ k ok, ops[k]? = some ok → k ≠ i → (listed.setIfInBounds j true).getD k true = false →
          (∀ e ∈ ok.after, Region.binds md e = true → e.on ≠ i) → oi.apart ops ok = true := fun k ok hk hki hun hno => by
        refine hfree k ok hk hki ?_ hno
        by_cases hjk : j = k
        · subst hjk; exact hjun
        · rw [getD_set_ne true hjk] at hun; exact hun
      refine wpOpIn_mono (fun a' w' h3 => ⟨h3.2.1, ih (listed.setIfInBounds j true) a' w' ((aheadB_succ hB).2 j hj).2 hfree' (ready_mono hr (Ne.symm hji)) h3.1 h3.2.1 ?_⟩) h2
      rw [Array.setIfInBounds_comm _ _ hji]
      exact h3.2.2
theorem heldTo_take (L : Lets F n P) (hd : noDefer ops = true) (k : Nat) {R : Array Bool → Act → World → Prop} {i : Nat} {oi : Oper} {v : Value} {f : Nat} {listed : Array Bool} {a : Act} {w : World} (hB : aheadB md ops k (f + 1) listed = true) (hi : ops[i]? = some oi)
    (hs : Region.noSelect ops = true) (hf : Region.free md ops listed i = true) (hr : (Region.ready md ops listed).contains i = true)
    (hQ : ∀ c a w, Q (.panic c) (a.put oi.dst v) w → Q (.panic c) a w) (hy : YieldsIf P ops S oi v a) (hS : S w)
    (h : heldTo F n P md ops Q S R f (listed.setIfInBounds i true) (a.put oi.dst v) w) : heldTo F n P md ops Q S R (f + 1) listed a w :=
  heldTo_first L hd hi (Region.noSelect_spec hs) hQ f listed a w hB (Region.free_spec hi hf) (by simpa using hr) hy hS h
theorem heldTo_one {i : Nat} {o : Oper} {R : Array Bool → Act → World → Prop} {f : Nat} {listed : Array Bool} {a : Act} {w : World} (hr : Region.ready md ops listed = [i]) (hi : ops[i]? = some o) (hw : Region.wanted o (yielded ops a.tmps) = true)
    (h : ∀ K : Act → World → Prop, Hid (∀ a' w', S w' → (S w' → heldTo F n P md ops Q S R f (listed.setIfInBounds i true) a' w') → K a' w') → Oper.wpIn F n P o a w K Q) : heldTo F n P md ops Q S R (f + 1) listed a w := by
  intro j hj
  rw [hr] at hj
  obtain rfl : j = i := by simpa using hj
  unfold wpOpIn
  simp only [hi, hw, if_true]
  exact h _ (Lib.hid fun a' w' h1 h2 => ⟨h1, h2 h1⟩)
theorem heldTo_end {R : Array Bool → Act → World → Prop} {listed : Array Bool} {a : Act} {w : World} (h : R listed a w) : heldTo F n P md ops Q S R 0 listed a w := h
/-- The rest, one that is alone at a time. -/
theorem anyIn_one {i : Nat} {o : Oper} {f : Nat} {listed : Array Bool} {a : Act} {w : World} (hr : Region.ready md ops listed = [i]) (hi : ops[i]? = some o) (hw : Region.wanted o (yielded ops a.tmps) = true)
    (h : ∀ K : Act → World → Prop, Hid (∀ a' w', wpAnyIn F n P md ops Q f (listed.setIfInBounds i true) a' w' → K a' w') → Oper.wpIn F n P o a w K Q) : wpAnyIn F n P md ops Q (f + 1) listed a w := by
  refine ⟨fun h0 => (by rw [hr] at h0; cases h0), fun j hj => ?_⟩
  rw [hr] at hj
  obtain rfl : j = i := by simpa using hj
  unfold wpOpIn
  simp only [hi, hw, if_true]
  exact h _ (Lib.hid fun a' w' h1 => h1)
theorem wpIn_region_headIn (k g : Nat) {id : Nat} {a : Act} {w : World} (hg : k + g = ops.size) (hB : aheadB .any ops k k (Array.replicate ops.size false) = true) (hm : P.follows .mixedOrders = true) (hS : S w.drew)
    (h : S w.drew → heldTo F n P .any ops (onlyN (Q .normal)) S (fun listed a w => wpAnyIn F n P .any ops (onlyN (Q .normal)) g listed a w) k (Array.replicate ops.size false) a w.drew) : (Code.region id ops true).wpIn F n P Q a w := by
  refine wpIn_mono (wpIn_region_any (Q := onlyN (Q .normal)) hm ?_) ?_
  · have := anyIn_of_to (k := k) (g := g) (fun _ _ _ h => h) _ _ _ _ hB (h hS)
    rw [hg] at this
    exact this
  · intro e a' w' hq
    cases e <;> first | exact hq | exact hq.elim
end
end Go.Proofs.YtooeikimoheecaaGreat
namespace Go.Proofs.YtooeikimoheecaaGreat
open Go.ChangeShapes Go.WideShapes Go.ChangeAt Go.Deep Go.RowKit
set_option maxRecDepth 100000
structure ShipD where
  name : ByteArray
  length : Int
  draught : Int
  line : Int
  tugs : Int
  slow : Bool
@[reducible] def ShipD.val (d : ShipD) : Value := .agg #[.string d.name, .int .i64 d.length, .int .i64 d.draught, .int .i64 d.line, .int .i64 d.tugs, .bool d.slow]
@[reducible] def ShipD.cells (d : ShipD) : List Value := [.string d.name, .int .i64 d.length, .int .i64 d.draught, .int .i64 d.line, .int .i64 d.tugs, .bool d.slow]
theorem shipLen (d : ShipD) : d.cells.length = 6 := rfl
theorem toShip_any (name : ByteArray) (length : Int) (draught : Int) (line : Int) (tugs : Int) (slow : Bool) (w : World) : Calls Tryz.prog 20 #[.agg #[.string name, .int .i64 length, .int .i64 draught, .int .i64 line, .int .i64 tugs, .bool slow]] w fun e w' => e = .returned (.agg #[.string name, .int .i64 length, .int .i64 draught, .int .i64 line, .int .i64 tugs, .bool slow]) ∧ Below w.heap.size w w' := by
  go_enter Tryz.func20, Tryz.ntmps20
  go_wp2
  refine bodyPost_ret (v := .agg #[.string name, .int .i64 length, .int .i64 draught, .int .i64 line, .int .i64 tugs, .bool slow]) (by simp [results, Tryz.results20, go_sem]) rfl ⟨rfl, ?_⟩
  repeat (first | exact Below.refl _ _ | refine Below.setCell ?_ (by simp <;> omega) _ | refine Below.alloc ?_ (by simp <;> omega) _)
def oneShip (x : ShipD) : Int := (x.name.size : Int)
theorem oneShip_pos (x : ShipD) : 0 ≤ oneShip x := by unfold oneShip; omega
set_option maxHeartbeats 1000000 in
theorem szShip_any (name : ByteArray) (length : Int) (draught : Int) (line : Int) (tugs : Int) (slow : Bool) (lim : Int) (w : World) (h0 : 0 ≤ lim) (h1 : lim ≤ 1048576) (hname : name.size ≤ 9223372036854775807) :
    Calls Tryz.prog 18 #[.agg #[.string name, .int .i64 length, .int .i64 draught, .int .i64 line, .int .i64 tugs, .bool slow], .int .i64 lim] w fun e w' => e = .returned (.int .i64 (leftOf lim (oneShip ⟨name, length, draught, line, tugs, slow⟩))) ∧ Below w.heap.size w w' := by
  obtain ⟨r, hr⟩ : ∃ r, leftOf lim (oneShip ⟨name, length, draught, line, tugs, slow⟩) = r := ⟨_, rfl⟩
  rw [hr]
  unfold leftOf oneShip at hr
  simp only at hr
  have HR := Lib.hid hr
  clear hr
  have w0 : IntKind.i64.wrap (lim - (name.size : Int)) = lim - (name.size : Int) := by rw [IntKind.wrap_i64]; omega
  by_cases t0 : lim - (name.size : Int) < 0
  · have E := HR.out
    rw [if_pos (by omega)] at E
    clear HR
    subst E
    go_enter Tryz.func18, Tryz.ntmps18
    go_wp2
    go_ret
    exact ⟨rfl, Joins.below_alloc1 _ _⟩
  have E := HR.out
  rw [if_neg (by omega)] at E
  have E2 : r = lim - (name.size : Int) := by omega
  clear HR E
  subst E2
  go_enter Tryz.func18, Tryz.ntmps18
  go_wp2
  go_ret
  exact ⟨rfl, Joins.below_alloc1 _ _⟩
section
variable {H : Type} {enc : TypeId × Value → H} {w : World} {base : Nat} {spare : Nat → Bool} {held : Bool}
def ShipD.wf (d : ShipD) : Prop := d.name.size ≤ maxLen ∧ (Lit.int .i64 d.length).wf = true ∧ (Lit.int .i64 d.draught).wf = true ∧ (Lit.int .i64 d.line).wf = true ∧ (Lit.int .i64 d.tugs).wf = true
theorem dec_ship (n : Nat) (cs : List Value) (y : DataW H × List MemPlace) (h : DataW.trod enc Tryz.prog w base spare held n 60 cs = some y) : ∃ d : ShipD, cs = d.cells ∧ d.wf := by
  obtain ⟨hl, hf⟩ := struct_cells Tryz.underlying60 (by kernel_rfl) (by kernel_rfl) h
  obtain ⟨v0, n0, y0, e0, h0⟩ := hf 0 _ rfl
  obtain ⟨v1, n1, y1, e1, h1⟩ := hf 1 _ rfl
  obtain ⟨v2, n2, y2, e2, h2⟩ := hf 2 _ rfl
  obtain ⟨v3, n3, y3, e3, h3⟩ := hf 3 _ rfl
  obtain ⟨v4, n4, y4, e4, h4⟩ := hf 4 _ rfl
  obtain ⟨v5, n5, y5, e5, h5⟩ := hf 5 _ rfl
  obtain ⟨a0, ha0, _, wa0⟩ := DataW.trod_string Tryz.underlying9 h0
  obtain ⟨a1, ha1, _, wa1⟩ := DataW.trod_int Tryz.underlying3 h1
  obtain ⟨a2, ha2, _, wa2⟩ := DataW.trod_int Tryz.underlying3 h2
  obtain ⟨a3, ha3, _, wa3⟩ := DataW.trod_int Tryz.underlying3 h3
  obtain ⟨a4, ha4, _, wa4⟩ := DataW.trod_int Tryz.underlying3 h4
  obtain ⟨a5, ha5, _⟩ := DataW.trod_bool Tryz.underlying4 h5
  simp only [List.cons.injEq, and_true] at ha0 ha1 ha2 ha3 ha4 ha5
  subst ha0 ha1 ha2 ha3 ha4 ha5
  refine ⟨⟨a0, a1, a2, a3, a4, a5⟩, ?_, wa0, wa1, wa2, wa3, wa4⟩
  match cs, hl with
  | [c0, c1, c2, c3, c4, c5], _ =>
    simp at e0 e1 e2 e3 e4 e5
    subst e0 e1 e2 e3 e4 e5
    rfl
theorem wfszShip {x : ShipD} (h : x.wf) : x.name.size ≤ 9223372036854775807 := by have h' := (show _ from h).1; unfold maxLen at h'; omega
theorem open_ship_arg {r : Reach} {b0 : Nat} {v : Value} {d : DataW H} {ps : List MemPlace} (hval : Value.okWide Tryz.prog w r b0 60 v) (hd : DataW.Trod enc Tryz.prog w 0 (fun _ => true) true 60 v d ps) :
    ∃ p : ShipD, v = p.val ∧ p.wf := by
  obtain ⟨cs, rfl, hsz⟩ := okWide_struct Tryz.underlying60 hval
  obtain ⟨fuel, hf⟩ := hd
  obtain ⟨p, hp, hw⟩ := dec_ship _ _ _ hf
  refine ⟨p, ?_, hw⟩
  obtain ⟨l⟩ := cs
  simp [Value.cells] at hp
  rw [hp]
end
end Go.Proofs.YtooeikimoheecaaGreat
