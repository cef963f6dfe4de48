
/- What ExactSailRoute and ExactFirstSail rests on, part 6: contracts and mathematics. -/
import Derived.Test.YtooeikimoheecaaGreatSf0
import Derived.Test.YtooeikimoheecaaGreatSf1
import Derived.StillTailTactics
import Derived.BigQuiet
import Derived.Test.YtooeikimoheecaaGreatSf2
import Derived.Deep.AppendLies
import Derived.Test.YtooeikimoheecaaGreatSf4
namespace Go.Proofs.YtooeikimoheecaaGreat
open Go.ChangeShapes Go.WideShapes Go.ChangeAt Go.Deep Go.RowKit
set_option maxRecDepth 100000
abbrev IntD := Int
def IntD.cells (x : IntD) : List Value := [.int .i64 x]
def intCells : Int → List Value := fun x => [.int .i64 x]
theorem intLen (x : Int) : (intCells x).length = 1 := rfl
theorem int_one (x : Int) : ∀ v ∈ intCells x, v.oneCell' = true := fun v hv => by simp [intCells] at hv; rw [hv]; rfl
def SlInt : World → Value → List Int → Prop := SlOf 1 intCells
def OwnInt : World → Nat → Value → List Int → Prop := OwnOf 1 intCells 3
def NewInt : List Int → World → Ending → World → Prop := NewOf 1 intCells 3
theorem SlInt.at {w : World} {v : Value} {l : List Int} (h : SlInt w v l) : ∃ A c, v = .slice A l.length c := SlOf.form h
theorem SlInt.below {w w' : World} {v : Value} {l : List Int} (h : SlInt w v l) (hb : Below w.heap.size w w') : SlInt w' v l := SlOf.below h hb
theorem OwnInt.sl {w : World} {base : Nat} {v : Value} {l : List Int} (h : OwnInt w base v l) (hl : l.length ≤ 1000000000) : SlInt w v l := own_sl intLen h hl
theorem SlInt.cells {w : World} {l : List Int} {g o : Nat} (hc : ∀ i x, l[i]? = some x → ∀ j u, (intCells x)[j]? = some u → w.cell? ⟨g, o + i * 1 + j, none⟩ = some u) (i : Nat) (x : Int) (hx : l[i]? = some x) :
    w.cell? ⟨g, o + i, none⟩ = some (.int .i64 x) := by
  have h := hc i x hx 0 _ rfl
  simpa using h
def zeroInt : List Value := [.int .i64 0]
theorem info_int : (Tryz.prog.info? 3).map (fun i => (i.zero, i.size, i.bytes)) = some (some (.int .i64 0), 1, 8) := by kernel_rfl
theorem info1_int : ∃ i0, Tryz.prog.info? 3 = some i0 ∧ i0.zero = some (.int .i64 0) ∧ i0.size = 1 ∧ i0.bytes = 8 := by
  have h := info_int
  cases hi : Tryz.prog.info? 3 with
  | none => rw [hi] at h; simp at h
  | some i0 => rw [hi] at h; simp at h; exact ⟨i0, rfl, h.1, h.2.1, h.2.2⟩
theorem make_ints (n : Nat) (hn : n ≤ 1000000000) (W : World) :
    (Instr.makeSlice 61 (.int .i64 (n : Int)) (.int .i64 (n : Int))).run Tryz.prog W = .ok (.slice (some ⟨W.heap.size, 0, none⟩) n n) (W.alloc (.cells (madeCells #[.int .i64 0] (n * 1)) 3)) := by
  obtain ⟨i0, hi, hz0, hz1, hz2⟩ := info1_int
  have hr := run_make (P := Tryz.prog) W 61 3 i0 _ Tryz.underlying61 hi hz0 .i64 .i64 n n (by omega) (Int.le_refl _) (by rw [hz2]; omega) (by omega)
  simp only [Int.toNat_natCast, hz1] at hr
  exact hr
set_option maxHeartbeats 1000000 in
theorem toIntS_any (v : Value) (l : List Int) (w : World) (h : SlInt w v l) :
    Calls Tryz.prog 21 #[v] w (NewInt l w) := by
  obtain ⟨hl, h⟩ := h
  have hmk := make_ints l.length hl
  rcases h with ⟨rfl, A, c, rfl⟩ | ⟨g, o, c, rfl, hp, hcap, hc⟩
  · have hmk0 : ∀ W : World, (Instr.makeSlice 61 (.int .i64 0) (.int .i64 0)).run Tryz.prog W = .ok (.slice (some ⟨W.heap.size, 0, none⟩) 0 0) (W.alloc (.cells (madeCells #[.int .i64 0] (0 * 1)) 3)) := make_ints 0 (by omega)
    clear hmk
    go_enter Tryz.func21, Tryz.ntmps21
    go_wp2
    refine wp_loop_rounds 1 ?_
    rw [rounds_succ]
    go_wp2
    go_ret
    have h := World.ownsRow_lit (base := w.heap.size) (e := 3) (size := 1) w (madeCells #[.int .i64 0] (0 * 1)) 0 (Nat.le_refl _) (by decide) (by rw [size_madeCells])
    rw [show (madeCells #[Value.int .i64 0] (0 * 1)).toList = [] by simp [madeCells]] at h
    exact ⟨_, rfl, h, (Below.refl _ _).alloc (Nat.le_refl _) _⟩
  · have HC := Lib.hid hc
    clear hc
    go_enter Tryz.func21, Tryz.ntmps21
    go_wp2
    clear hmk
    go_loopw [4] (fun i wr => ∃ k : Nat, k ≤ l.length ∧ i = .int .i64 k ∧ Hid (wr.ownsRow w.heap.size 3 1 (.slice (some ⟨w.heap.size, 0, none⟩) l.length l.length) l.length (halfOf intCells zeroInt l k)) ∧ Below w.heap.size w wr) (fun i _ => l.length - (intOf i).toNat)
    case atStart =>
      refine ⟨0, Nat.zero_le _, rfl, ?_, (Below.refl _ _).alloc (Nat.le_refl _) _⟩
      have h := World.ownsRow_lit (base := w.heap.size) (e := 3) (size := 1) w (madeCells #[.int .i64 0] (l.length * 1)) l.length (Nat.le_refl _) (by unfold maxLen; omega) (by rw [size_madeCells])
      have e := made_flat #[.int .i64 0] l.length
      rw [half_none]
      have e' : (madeCells #[Value.int .i64 0] (l.length * 1)).toList = (List.replicate l.length zeroInt).flatten := e
      rw [e'] at h
      rw [Nat.mul_one] at h
      exact Lib.hid h
    case round =>
      obtain ⟨k, hk, rfl, hown, hb⟩ := hrel
      by_cases hlt : k < l.length
      · obtain ⟨x, hx⟩ : ∃ x, l[k]? = some x := ⟨_, List.getElem?_eq_getElem hlt⟩
        have q0 := SlInt.cells HC.out k x hx
        have hlt2 : g < w.heap.size := World.block_lt_of_cell? w ⟨g, o + k, none⟩ q0
        have c0 := (hb.cell (p := ⟨g, o + k, none⟩) hlt2).trans q0
        have Hx := Lib.hid hx
        clear q0 hx
        have s0 : wr.cell? ⟨w.heap.size, k, none⟩ = some (.int .i64 0) := by
          have h := (World.ownsRow.cellAt hown.out (k * 1 + 0) (by omega)).trans (half_at intLen l k hlt 0 _ rfl)
          simpa using h
        have z0 : wr.frozen? ⟨w.heap.size, k, none⟩ = false := World.ownsRow.frozenAt hown.out _
        have hst := (World.ownsRow.stored hown.out (k * 1) (.int .i64 x)).1
        have e := half_set intLen (zc := zeroInt) rfl l k x Hx.out
        have HO := Lib.hid ((show (halfOf intCells zeroInt l k).set (k * 1) (.int .i64 x) = halfOf intCells zeroInt l (k + 1) from e) ▸ hst)
        rw [Nat.mul_one] at HO
        have HB := Lib.hid (hb.setCell (p := ⟨w.heap.size, k, none⟩) (Nat.le_refl _) (.int .i64 x))
        clear hst e
        go_wp2
        go_roundw
        case rel => exact ⟨k + 1, by omega, by go_num, HO, HB.out⟩
        case measure => simp [intOf]; omega
      · go_wp2
        go_ret
        obtain rfl : k = l.length := by omega
        have ho := hown.out
        rw [half_full] at ho
        exact ⟨_, rfl, ho, hb⟩
set_option maxHeartbeats 1000000 in
theorem eqIntS_same (va vb : Value) (l : List Int) (w : World) (ha : SlInt w va l) (hb : SlInt w vb l) :
    Calls Tryz.prog 23 #[va, vb] w fun e w' => e = .returned (.bool true) ∧ Below w.heap.size w w' := by
  obtain ⟨hl, ha⟩ := ha
  obtain ⟨_, hb⟩ := hb
  rcases ha with ⟨rfl, A, c, rfl⟩ | ⟨g, o, c, rfl, hp, _, hca⟩
  · rcases hb with ⟨_, A', c', rfl⟩ | ⟨g', o', c', rfl, hp, _, _⟩
    · go_enter Tryz.func23, Tryz.ntmps23
      go_wp2
      refine wp_loop_rounds 1 ?_
      rw [rounds_succ]
      go_wp2
      go_ret
      exact ⟨rfl, Below.refl _ _⟩
    · exact absurd hp (by simp)
  · rcases hb with ⟨rfl, A', c', rfl⟩ | ⟨g', o', c', rfl, _, _, hcb⟩
    · exact absurd hp (by simp)
    · have HA := Lib.hid hca
      have HB := Lib.hid hcb
      clear hca hcb
      go_enter Tryz.func23, Tryz.ntmps23
      go_wp2
      go_loopw [5] (fun i wr => ∃ k n : Nat, k ≤ l.length ∧ i = .int .i64 k ∧ wr = w.drewN n) (fun i _ => l.length - (intOf i).toNat)
      case atStart => exact ⟨0, 0, Nat.zero_le _, rfl, rfl⟩
      case round =>
        obtain ⟨k, n, hk, rfl, rfl⟩ := hrel
        by_cases hlt : k < l.length
        · obtain ⟨x, hx⟩ : ∃ x, l[k]? = some x := ⟨_, List.getElem?_eq_getElem hlt⟩
          have a0 := SlInt.cells HA.out k x hx
          have b0 := SlInt.cells HB.out k x hx
          have Hx := Lib.hid hx
          clear hx
          go_wp2
          go_quiet (fail)
          go_wp2
          go_roundw
          case rel => exact ⟨k + 1, _, by omega, by go_num, rfl⟩
          case measure => simp [intOf]; omega
        · go_wp2
          go_ret
          exact ⟨rfl, ⟨rfl, rfl, rfl, Nat.le_refl _, fun _ _ => rfl⟩⟩
/-- What the marking that begins with k writes into cell j. -/
def mvInt (k : Int) (j : Nat) : Value := .int .i64 (k + (j : Int))
set_option maxHeartbeats 4000000 in
theorem markIntS_any (v : Value) (l : List Int) (k : Int) (w : World) (h : SlInt w v l) (hfz : ∀ g, v.ownBlock = some g → ∀ j, w.frozen? ⟨g, j, none⟩ = false) (h0 : 0 ≤ k) (h1 : k ≤ 100000000) (h2 : l.length ≤ 10000000) :
    Calls Tryz.prog 26 #[v, .int .i64 k] w fun e w' => e = .returned (.int .i64 (k + (l.length : Int))) ∧ MarkedV w' v l.length (mvInt k) ∧ w.grownBy w' v.ownBlock := by
  obtain ⟨hl, h⟩ := h
  rcases h with ⟨rfl, A, c, rfl⟩ | ⟨g, o, c, rfl, hp, hcap, hc⟩
  · go_enter Tryz.func26, Tryz.ntmps26
    go_wp2
    refine wp_loop_rounds 1 ?_
    rw [rounds_succ]
    go_wp2
    go_ret
    exact ⟨ret_int (by simp), .inl (by simp), World.grownBy.refl _ _⟩
  · have hs : MarkRowV w g o l.length (mvInt k) 0 w := MarkRowV.start (by have h := vals_of (by omega) intLen hc; rw [Nat.mul_one] at h; exact h) (by omega) (fun j => hfz g rfl j)
    have HS := Lib.hid hs
    clear hs hc hfz
    go_enter Tryz.func26, Tryz.ntmps26
    go_wp2
    go_loopw [1, 5] (fun q i wr => ∃ j : Nat, j ≤ l.length ∧ i = .int .i64 j ∧ q = .int .i64 (k + (j : Int)) ∧ Hid (MarkRowV w g o l.length (mvInt k) j wr)) (fun _ i _ => l.length - (intOf i).toNat)
    case atStart => exact ⟨0, Nat.zero_le _, rfl, by simp, HS⟩
    case round =>
      obtain ⟨j, hj, rfl, rfl, hM⟩ := hrel
      by_cases hlt : j < l.length
      · clear HS
        obtain ⟨x0, c0⟩ := hM.out.read j (by omega) (by omega) (o + j) (by omega)
        have f0 := hM.out.2.2.2.1 (o + j)
        have M0 := Lib.hid (hM.out.next (by omega) (o + j) (by omega) (.int .i64 (k + (j : Int))) rfl (j + 1) rfl)
        go_wp2
        go_roundw
        case rel =>
          refine ⟨j + 1, by omega, by go_num, ?_, M0⟩
          congr 1; omega
        case measure => simp [intOf]; omega
      · go_wp2
        go_ret
        obtain rfl : j = l.length := by omega
        exact ⟨rfl, .inr ⟨g, o, l.length, c, rfl, hM.out.2.1⟩, hM.out.1⟩
set_option maxHeartbeats 4000000 in
theorem heldIntS_any (v : Value) (len : Nat) (A : Option Addr) (c : Nat) (hv : v = .slice A len c) (k : Int) (w : World) (h : MarkedV w v len (mvInt k)) (h0 : 0 ≤ k) (h1 : k ≤ 100000000) (h2 : len ≤ 10000000) :
    Calls Tryz.prog 27 #[v, .int .i64 k] w fun e w' => e = .returned (.int .i64 (k + (len : Int))) ∧ Below w.heap.size w w' := by
  subst hv
  rcases h with hn | ⟨g, o, len', c', hv, hc⟩
  · obtain rfl : len = 0 := by omega
    go_enter Tryz.func27, Tryz.ntmps27
    go_wp2
    refine wp_loop_rounds 1 ?_
    rw [rounds_succ]
    go_wp2
    go_ret
    exact ⟨ret_int (by simp), Below.refl _ _⟩
  · injection hv with hA hlen hcap
    subst hA hlen hcap
    have HC := Lib.hid hc
    clear hc
    go_enter Tryz.func27, Tryz.ntmps27
    go_wp2
    go_loop [1, 5] (fun q i => ∃ j : Nat, j ≤ len ∧ i = .int .i64 j ∧ q = .int .i64 (k + (j : Int))) (fun _ i => len - (intOf i).toNat)
    case atStart => exact ⟨0, Nat.zero_le _, rfl, by simp⟩
    case round =>
      obtain ⟨j, hj, rfl, rfl⟩ := hrel
      by_cases hlt : j < len
      · have c0 : w.cell? ⟨g, o + j, none⟩ = some (.int .i64 (k + (j : Int))) := HC.out j (by omega)
        go_wp2
        go_round
        case rel =>
          refine ⟨j + 1, by omega, by go_num, ?_⟩
          congr 1; omega
        case measure => simp [intOf]; omega
      · go_wp2
        go_ret
        obtain rfl : j = len := by omega
        exact ⟨rfl, Below.refl _ _⟩
section
variable {H : Type} {enc : TypeId × Value → H} {w : World} {base : Nat} {spare : Nat → Bool} {held : Bool}
def IntD.wf (x : IntD) : Prop := (Lit.int .i64 x).wf = true
theorem dec_int (n : Nat) (cs : List Value) (y : DataW H × List MemPlace) (h : DataW.trod enc Tryz.prog w base spare held n 3 cs = some y) : ∃ x : Int, cs = intCells x ∧ IntD.wf x := by
  obtain ⟨a, ha, _, wa⟩ := DataW.trod_int Tryz.underlying3 h
  exact ⟨a, ha, wa⟩
theorem open_ints {fuel : Nat} {v : Value} {x : DataW H × List MemPlace} (h : DataW.trod enc Tryz.prog w base (fun _ => true) held fuel 61 [v] = some x) :
    ∃ A c l, v = .slice A l.length c ∧ l.length ≤ maxLen ∧ (l.length ≤ 1000000000 → SlInt w (.slice A l.length c) l) ∧ ∀ d ∈ l, IntD.wf d :=
  open_elems intCells 1 IntD.wf Tryz.underlying61 (by kernel_rfl) intLen (by omega) dec_int h
theorem open_ints_arg {r : Reach} {b0 : Nat} {v : Value} {d : DataW H} {ps : List MemPlace} (hval : Value.okWide Tryz.prog w r b0 61 v) (hd : DataW.Trod enc Tryz.prog w 0 (fun _ => true) true 61 v d ps) :
    ∃ A c l, v = .slice A l.length c ∧ l.length ≤ maxLen ∧ (l.length ≤ 1000000000 → SlInt w (.slice A l.length c) l) ∧ ∀ d ∈ l, IntD.wf d := by
  obtain ⟨A, len, cap, rfl⟩ := okWide_slice Tryz.underlying61 hval
  obtain ⟨fuel, hf⟩ := hd
  exact open_ints hf
end
end Go.Proofs.YtooeikimoheecaaGreat
namespace Go.Proofs.YtooeikimoheecaaGreat
open Go.RowKit
set_option maxRecDepth 100000
@[reducible] def PartD.cells (d : PartD) : List Value := [.int .i64 d.amp, .int .i64 d.per, .int .i64 d.pha]
theorem partLen (d : PartD) : d.cells.length = 3 := rfl
def SlP : World → Value → List PartD → Prop := SlOf 3 PartD.cells
def OwnP : World → Nat → Value → List PartD → Prop := OwnOf 3 PartD.cells 148
def NewP : List PartD → World → Ending → World → Prop := NewOf 3 PartD.cells 148
theorem info_part : (Tryz.prog.info? 148).map (fun i => (i.zero, i.size, i.bytes)) = some (some (.agg #[.int .i64 0, .int .i64 0, .int .i64 0]), 3, 24) := by kernel_rfl
theorem make_parts (n : Nat) (hn : n ≤ 1000000000) (W : World) :
    (Instr.makeSlice 39 (.int .i64 (n : Int)) (.int .i64 (n : Int))).run Tryz.prog W = .ok (.slice (some ⟨W.heap.size, 0, none⟩) n n) (W.alloc (.cells (madeCells #[.int .i64 0, .int .i64 0, .int .i64 0] (n * 3)) 148)) := by
  obtain ⟨i0, hi, hz0, hz1, hz2⟩ := info_parts info_part
  have hr := run_make (P := Tryz.prog) W 39 148 i0 _ Tryz.underlying39 hi hz0 .i64 .i64 n n (by omega) (Int.le_refl _) (by rw [hz2]; omega) (by omega)
  simp only [Int.toNat_natCast, hz1] at hr
  exact hr
theorem SlP.cells {w : World} {l : List PartD} {g o : Nat} (hc : ∀ i x, l[i]? = some x → ∀ j u, (PartD.cells x)[j]? = some u → w.cell? ⟨g, o + i * 3 + j, none⟩ = some u) (i : Nat) (x : PartD) (hx : l[i]? = some x) :
    w.cell? ⟨g, o + i * 3, none⟩ = some (.int .i64 x.amp) ∧ w.cell? ⟨g, o + i * 3 + 1, none⟩ = some (.int .i64 x.per) ∧ w.cell? ⟨g, o + i * 3 + 2, none⟩ = some (.int .i64 x.pha) :=
  ⟨hc i x hx 0 _ rfl, hc i x hx 1 _ rfl, hc i x hx 2 _ rfl⟩
def zeroP : List Value := [.int .i64 0, .int .i64 0, .int .i64 0]
set_option maxHeartbeats 1000000 in
theorem toPartS_any (v : Value) (l : List PartD) (w : World) (h : SlP w v l) :
    Calls Tryz.prog 67 #[v] w (NewP l w) := by
  obtain ⟨hl, h⟩ := h
  have hmk := make_parts l.length hl
  rcases h with ⟨rfl, A, c, rfl⟩ | ⟨g, o, c, rfl, hp, hcap, hc⟩
  · have hmk0 : ∀ W : World, (Instr.makeSlice 39 (.int .i64 0) (.int .i64 0)).run Tryz.prog W = .ok (.slice (some ⟨W.heap.size, 0, none⟩) 0 0) (W.alloc (.cells (madeCells #[.int .i64 0, .int .i64 0, .int .i64 0] (0 * 3)) 148)) := make_parts 0 (by omega)
    clear hmk
    go_enter Tryz.func67, Tryz.ntmps67
    go_wp2
    refine wp_loop_rounds 1 ?_
    rw [rounds_succ]
    go_wp2
    go_ret
    have h := World.ownsRow_lit (base := w.heap.size) (e := 148) (size := 3) w (madeCells #[.int .i64 0, .int .i64 0, .int .i64 0] (0 * 3)) 0 (Nat.le_refl _) (by decide) (by rw [size_madeCells])
    rw [show (madeCells #[Value.int .i64 0, .int .i64 0, .int .i64 0] (0 * 3)).toList = [] by simp [madeCells]] at h
    exact ⟨_, rfl, h, (Below.refl _ _).alloc (Nat.le_refl _) _⟩
  · have HC := Lib.hid hc
    clear hc
    go_enter Tryz.func67, Tryz.ntmps67
    go_wp2
    clear hmk
    go_loopw [4] (fun i wr => ∃ k : Nat, k ≤ l.length ∧ i = .int .i64 k ∧ Hid (wr.ownsRow w.heap.size 148 3 (.slice (some ⟨w.heap.size, 0, none⟩) l.length l.length) l.length (halfOf PartD.cells zeroP l k)) ∧ Below w.heap.size w wr) (fun i _ => l.length - (intOf i).toNat)
    case atStart =>
      refine ⟨0, Nat.zero_le _, rfl, ?_, (Below.refl _ _).alloc (Nat.le_refl _) _⟩
      have h := World.ownsRow_lit (base := w.heap.size) (e := 148) (size := 3) w (madeCells #[.int .i64 0, .int .i64 0, .int .i64 0] (l.length * 3)) l.length (Nat.le_refl _) (by unfold maxLen; omega) (by rw [size_madeCells])
      have e := made_flat #[.int .i64 0, .int .i64 0, .int .i64 0] l.length
      rw [half_none]
      exact Lib.hid (e ▸ h)
    case round =>
      obtain ⟨k, hk, rfl, hown, hb⟩ := hrel
      by_cases hlt : k < l.length
      · obtain ⟨x, hx⟩ : ∃ x, l[k]? = some x := ⟨_, List.getElem?_eq_getElem hlt⟩
        obtain ⟨q0, q1, q2⟩ := SlP.cells HC.out k x hx
        have hlt2 : g < w.heap.size := World.block_lt_of_cell? w ⟨g, o + k * 3, none⟩ q0
        have c0 := (hb.cell (p := ⟨g, o + k * 3, none⟩) hlt2).trans q0
        have c1 := (hb.cell (p := ⟨g, o + k * 3 + 1, none⟩) hlt2).trans q1
        have c2 := (hb.cell (p := ⟨g, o + k * 3 + 2, none⟩) hlt2).trans q2
        have Hx := Lib.hid hx
        clear q0 q1 q2 hx
        go_wp2_with fail
        refine (toPart_any _ _ _ _).mono ?_
        rintro e w1 ⟨rfl, hb1⟩
        have own1 := ownsRow_below hown.out hb1
        have B1 : Below w.heap.size w w1 := hb.trans (hb1.mono hb.size)
        have s0 : w1.cell? ⟨w.heap.size, k * 3, none⟩ = some (.int .i64 0) := (World.ownsRow.cellAt own1 (k * 3) (by omega)).trans (half_at partLen l k hlt 0 _ rfl)
        have s1 : w1.cell? ⟨w.heap.size, k * 3 + 1, none⟩ = some (.int .i64 0) := (World.ownsRow.cellAt own1 (k * 3 + 1) (by omega)).trans (half_at partLen l k hlt 1 _ rfl)
        have s2 : w1.cell? ⟨w.heap.size, k * 3 + 2, none⟩ = some (.int .i64 0) := (World.ownsRow.cellAt own1 (k * 3 + 2) (by omega)).trans (half_at partLen l k hlt 2 _ rfl)
        have z0 : w1.frozen? ⟨w.heap.size, k * 3, none⟩ = false := World.ownsRow.frozenAt own1 _
        have z1 : w1.frozen? ⟨w.heap.size, k * 3 + 1, none⟩ = false := World.ownsRow.frozenAt own1 _
        have z2 : w1.frozen? ⟨w.heap.size, k * 3 + 2, none⟩ = false := World.ownsRow.frozenAt own1 _
        have hst := (World.ownsRow.stored (World.ownsRow.stored (World.ownsRow.stored own1 (k * 3) (.int .i64 x.amp)).1 (k * 3 + 1) (.int .i64 x.per)).1 (k * 3 + 2) (.int .i64 x.pha)).1
        have e := half_set partLen (zc := zeroP) rfl l k x Hx.out
        have HO := Lib.hid ((show (((halfOf PartD.cells zeroP l k).set (k * 3) (.int .i64 x.amp)).set (k * 3 + 1) (.int .i64 x.per)).set (k * 3 + 2) (.int .i64 x.pha) = halfOf PartD.cells zeroP l (k + 1) from e) ▸ hst)
        have HB := Lib.hid ((((B1.setCell (p := ⟨w.heap.size, k * 3, none⟩) (Nat.le_refl _) (.int .i64 x.amp)).setCell (p := ⟨w.heap.size, k * 3 + 1, none⟩) (Nat.le_refl _) (.int .i64 x.per)).setCell (p := ⟨w.heap.size, k * 3 + 2, none⟩) (Nat.le_refl _) (.int .i64 x.pha)))
        clear own1 hst e hb1 B1
        go_wp2
        go_roundw
        case rel => exact ⟨k + 1, by omega, by go_num, HO, HB.out⟩
        case measure => simp [intOf]; omega
      · go_wp2
        go_ret
        obtain rfl : k = l.length := by omega
        have ho := hown.out
        rw [half_full] at ho
        exact ⟨_, rfl, ho, hb⟩
theorem szPartS_any (A : Option Addr) (n c : Nat) (w : World) (hn : n ≤ 9223372036854775807) (lim : Int) (h0 : 0 ≤ lim) (h1 : lim ≤ 1048576) :
    Calls Tryz.prog 59 #[.slice A n c, .int .i64 lim] w fun e w' => e = .returned (.int .i64 (if lim < (n : Int) then -1 else lim - (n : Int))) ∧ w = w' := by
  by_cases hlt : lim < (n : Int)
  · go_enter Tryz.func59, Tryz.ntmps59
    go_wp2
    go_ret
    exact ⟨rfl, rfl⟩
  · go_enter Tryz.func59, Tryz.ntmps59
    go_wp2
    go_ret
    exact ⟨rfl, rfl⟩
set_option maxHeartbeats 1000000 in
theorem eqPartS_same (va vb : Value) (l : List PartD) (w : World) (ha : SlP w va l) (hb : SlP w vb l) :
    Calls Tryz.prog 78 #[va, vb] w fun e w' => e = .returned (.bool true) ∧ Below w.heap.size w w' := by
  obtain ⟨hl, ha⟩ := ha
  obtain ⟨_, hb⟩ := hb
  rcases ha with ⟨rfl, A, c, rfl⟩ | ⟨g, o, c, rfl, hp, _, hca⟩
  · rcases hb with ⟨_, A', c', rfl⟩ | ⟨g', o', c', rfl, hp, _, _⟩
    · go_enter Tryz.func78, Tryz.ntmps78
      go_wp2
      refine wp_loop_rounds 1 ?_
      rw [rounds_succ]
      go_wp2
      go_ret
      exact ⟨rfl, Below.refl _ _⟩
    · exact absurd hp (by simp)
  · rcases hb with ⟨rfl, A', c', rfl⟩ | ⟨g', o', c', rfl, _, _, hcb⟩
    · exact absurd hp (by simp)
    · have HA := Lib.hid hca
      have HB := Lib.hid hcb
      clear hca hcb
      go_enter Tryz.func78, Tryz.ntmps78
      go_wp2
      go_loopw [5] (fun i wr => ∃ k : Nat, k ≤ l.length ∧ i = .int .i64 k ∧ Below w.heap.size w wr) (fun i _ => l.length - (intOf i).toNat)
      case atStart => exact ⟨0, Nat.zero_le _, rfl, Below.refl _ _⟩
      case round =>
        obtain ⟨k, hk, rfl, hb⟩ := hrel
        by_cases hlt : k < l.length
        · obtain ⟨x, hx⟩ : ∃ x, l[k]? = some x := ⟨_, List.getElem?_eq_getElem hlt⟩
          obtain ⟨p0, p1, p2⟩ := SlP.cells HA.out k x hx
          obtain ⟨q0, q1, q2⟩ := SlP.cells HB.out k x hx
          have hg : g < w.heap.size := World.block_lt_of_cell? w ⟨g, o + k * 3, none⟩ p0
          have hg' : g' < w.heap.size := World.block_lt_of_cell? w ⟨g', o' + k * 3, none⟩ q0
          have a0 := (hb.cell (p := ⟨g, o + k * 3, none⟩) hg).trans p0
          have a1 := (hb.cell (p := ⟨g, o + k * 3 + 1, none⟩) hg).trans p1
          have a2 := (hb.cell (p := ⟨g, o + k * 3 + 2, none⟩) hg).trans p2
          have b0 := (hb.cell (p := ⟨g', o' + k * 3, none⟩) hg').trans q0
          have b1 := (hb.cell (p := ⟨g', o' + k * 3 + 1, none⟩) hg').trans q1
          have b2 := (hb.cell (p := ⟨g', o' + k * 3 + 2, none⟩) hg').trans q2
          have hbs := hb.size
          clear p0 p1 p2 q0 q1 q2 hx
          go_wp2
          go_still_tail 8, (by kernel_rfl)
          change wpList _ _ _ _ _ wr.drew
          have hd := hb.drew
          generalize wr.drew = w2 at hd ⊢
          have hds := hd.size
          clear a0 a1 a2 b0 b1 b2 hb hbs
          go_wp2_with fail
          refine (eqPart_same _ _ _ _).mono ?_
          rintro e w3 ⟨rfl, hb3⟩
          have B3 := Lib.hid (hd.trans (hb3.mono hds))
          clear hb3 hd hds
          go_wp2
          go_roundw
          case rel => exact ⟨k + 1, by omega, by go_num, B3.out⟩
          case measure => simp [intOf]; omega
        · go_wp2
          go_ret
          exact ⟨rfl, hb⟩
end Go.Proofs.YtooeikimoheecaaGreat
namespace Go.Proofs.YtooeikimoheecaaGreat
open Go.RowKit
variable {α : Type} {k : Nat} {cs : α → List Value} {t : TypeId}
/-- The value v is a list over memory that is new since w; what w held is as it was. -/
def GathO (k : Nat) (cs : α → List Value) (t : TypeId) (w : World) (v : Value) (acc : List α) (wr : World) : Prop := OwnOf k cs t wr w.heap.size v acc ∧ Below w.heap.size w wr
theorem GathO.size {w wr : World} {v : Value} {acc : List α} (h : GathO k cs t w v acc wr) : w.heap.size ≤ wr.heap.size := h.2.size
theorem GathO.empty {w wr : World} (hb : Below w.heap.size w wr) : GathO k cs t w (.slice none 0 0) [] wr := ⟨⟨by simp, .inl ⟨rfl, rfl⟩⟩, hb⟩
theorem GathO.made {w wr : World} (hb : Below w.heap.size w wr) : GathO k cs t w (.slice (some ⟨wr.heap.size, 0, none⟩) 0 0) [] (wr.alloc (.cells #[] t)) :=
  ⟨⟨by simp, .inr ⟨wr.heap.size, 0, #[], rfl, hb.size, heap_alloc_new wr _, Nat.le_refl _, by omega, by simp, by simp⟩⟩, hb.alloc hb.size _⟩
theorem GathO.below {w wr W : World} {v : Value} {acc : List α} (h : GathO k cs t w v acc wr) (hb : Below wr.heap.size wr W) : GathO k cs t w v acc W :=
  ⟨own_below h.1 hb, h.2.trans (hb.mono h.size)⟩
theorem GathO.next {w W w4 : World} {v : Value} {acc : List α} {x : α} {g4 cap4 : Nat} (h : GathO k cs t w v acc W)
    (hown : w4.ownsRow w.heap.size t k (.slice (some ⟨g4, 0, none⟩) (acc.length + 1) cap4) (acc.length + 1) (acc.flatMap cs ++ cs x)) (hgr : W.grownBy w4 v.ownBlock) :
    GathO k cs t w (.slice (some ⟨g4, 0, none⟩) (acc.length + 1) cap4) (acc ++ [x]) w4 := by
  refine ⟨?_, h.2.grown hgr h.size (fun b hb => (World.ownsRow.lt h.1 b hb).1)⟩
  simpa [OwnOf] using hown
theorem GathO.form {w wr : World} {v : Value} {acc : List α} (h : GathO k cs t w v acc wr) : ∃ A c, v = .slice A acc.length c := own_form h.1
/-- A literal of one element. -/
theorem GathO.one {w wr : World} {x : α} (hb : Below w.heap.size w wr) (hk : (cs x).length = k) : GathO k cs t w (.slice (some ⟨wr.heap.size, 0, none⟩) 1 1) [x] (wr.alloc (.cells (cs x).toArray t)) := by
  have h := World.ownsRow_lit (base := w.heap.size) (e := t) (size := k) wr (cs x).toArray 1 hb.size (by unfold maxLen; omega) (by simp [hk])
  refine ⟨?_, hb.alloc hb.size _⟩
  simpa [OwnOf] using h
end Go.Proofs.YtooeikimoheecaaGreat
namespace Go.Proofs.YtooeikimoheecaaGreat
open Go.RowKit
/-- From w to w' only blocks from a up to b have changed, and new ones have come. -/
structure TouchR (w w' : World) (a b : Nat) : Prop where
  os : w'.os = w.os
  tape : w'.tape = w.tape
  output : w'.output = w.output
  size : w.heap.size ≤ w'.heap.size
  block : ∀ i, i < w.heap.size → ¬ (a ≤ i ∧ i < b) → w'.heap[i]? = w.heap[i]?
/-- The value's own block lies from a up to b. -/
def RangeV (v : Value) (a b : Nat) : Prop := ∀ g, v.ownBlock = some g → a ≤ g ∧ g < b
theorem RangeV.wide {v : Value} {a b a' b' : Nat} (h : RangeV v a b) (ha : a' ≤ a) (hb : b ≤ b') : RangeV v a' b' := fun g hg => by have := h g hg; omega
theorem own_range {α : Type} {k : Nat} {cs : α → List Value} {t : TypeId} {w : World} {base : Nat} {v : Value} {l : List α} (h : OwnOf k cs t w base v l) : RangeV v base w.heap.size := fun g hg => World.ownsRow.lt h g hg
theorem RangeV.apart {v u : Value} {a b c d : Nat} (h : RangeV v a b) (h' : RangeV u c d) (hd : b ≤ c ∨ d ≤ a) : ApartV v u := fun g hg hg' => by have := h g hg; have := h' g hg'; omega
theorem touch_below {w w' : World} (h : Below w.heap.size w w') (a b : Nat) : TouchR w w' a b := ⟨h.os, h.tape, h.output, h.size, fun i hi _ => h.block i hi⟩
theorem touch_grown {w w' : World} {v : Value} {a b : Nat} (h : w.grownBy w' v.ownBlock) (hr : RangeV v a b) : TouchR w w' a b :=
  ⟨h.os, h.tape, h.output, h.size, fun i hi hn => h.block i hi (fun e => hn (hr i e.symm))⟩
theorem TouchR.trans {w w1 w2 : World} {a b : Nat} (h : TouchR w w1 a b) (k : TouchR w1 w2 a b) : TouchR w w2 a b :=
  ⟨k.os.trans h.os, k.tape.trans h.tape, k.output.trans h.output, Nat.le_trans h.size k.size, fun i hi hn => (k.block i (Nat.lt_of_lt_of_le hi h.size) hn).trans (h.block i hi hn)⟩
theorem TouchR.wide {w w' : World} {a b a' b' : Nat} (h : TouchR w w' a b) (ha : a' ≤ a) (hb : b ≤ b') : TouchR w w' a' b' := ⟨h.os, h.tape, h.output, h.size, fun i hi hn => h.block i hi (by omega)⟩
theorem TouchR.cell {w w' : World} {a b : Nat} (h : TouchR w w' a b) {p : Addr} {v : Value} (hc : w.cell? p = some v) (hp : ¬ (a ≤ p.block ∧ p.block < b)) : w'.cell? p = some v := by
  have e := h.block p.block (World.block_lt_of_cell? w p hc) hp
  have : w'.cell? p = w.cell? p := by simp [World.cell?, e]
  rw [this]; exact hc
theorem TouchR.frozen {w w' : World} {a b : Nat} (h : TouchR w w' a b) {p : Addr} (hlt : p.block < w.heap.size) (hp : ¬ (a ≤ p.block ∧ p.block < b)) : w'.frozen? p = w.frozen? p := by
  have e := h.block p.block hlt hp
  simp [World.frozen?, e]
theorem TouchR.below {w0 w w' : World} {base a b : Nat} (hb : Below base w0 w) (h : TouchR w w' a b) (h0 : base ≤ w.heap.size) (ha : base ≤ a) : Below base w0 w' :=
  ⟨h.os.trans hb.os, h.tape.trans hb.tape, h.output.trans hb.output, Nat.le_trans hb.size h.size, fun i hi => (h.block i (by omega) (by omega)).trans (hb.block i hi)⟩
theorem SlOf.touch {α : Type} {k : Nat} {cs : α → List Value} {w w' : World} {v : Value} {l : List α} {a b c d : Nat} (h : SlOf k cs w v l) (ht : TouchR w w' a b) (hr : RangeV v c d) (hd : b ≤ c ∨ d ≤ a) : SlOf k cs w' v l := by
  refine ⟨h.1, ?_⟩
  rcases h.2 with ⟨rfl, A, n, rfl⟩ | ⟨g, o, n, rfl, hp, hcap, hc⟩
  · exact .inl ⟨rfl, A, n, rfl⟩
  · refine .inr ⟨g, o, n, rfl, hp, hcap, fun i x hx j u hu => ht.cell (hc i x hx j u hu) ?_⟩
    have := hr g rfl
    show ¬ (a ≤ g ∧ g < b)
    omega
theorem MarkedV.touch {w w' : World} {v : Value} {N : Nat} {mv : Nat → Value} {a b c d : Nat} (h : MarkedV w v N mv) (ht : TouchR w w' a b) (hr : RangeV v c d) (hd : b ≤ c ∨ d ≤ a) : MarkedV w' v N mv := by
  rcases h with h | ⟨g, o, len, n, rfl, hc⟩
  · exact .inl h
  · refine .inr ⟨g, o, len, n, rfl, fun j hj => ht.cell (hc j hj) ?_⟩
    have := hr g rfl
    show ¬ (a ≤ g ∧ g < b)
    omega
theorem FreeV.touch {w w' : World} {v : Value} {a b c d : Nat} (h : FreeV w v) (ht : TouchR w w' a b) (hr : RangeV v c d) (hd : b ≤ c ∨ d ≤ a) : FreeV w' v := fun g hg => by
  have := hr g hg
  refine ⟨fun j => (ht.frozen (p := ⟨g, j, none⟩) (h g hg).2 (by show ¬ (a ≤ g ∧ g < b); omega)).trans ((h g hg).1 j), Nat.lt_of_lt_of_le (h g hg).2 ht.size⟩
theorem Blk.touch {w w' : World} {a b p : Nat} {cs : Array Value} {t : TypeId} (h : Blk w p cs t) (ht : TouchR w w' a b) (hp : ¬ (a ≤ p ∧ p < b)) : Blk w' p cs t := (ht.block p h.lt hp).trans h
end Go.Proofs.YtooeikimoheecaaGreat
