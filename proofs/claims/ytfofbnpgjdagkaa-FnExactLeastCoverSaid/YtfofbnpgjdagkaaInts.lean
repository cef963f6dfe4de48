
/- Lists of ints: the laws' helpers over them: contracts; how an argument is opened. -/
import Derived.Test.YtfofbnpgjdagkaaOpen
import Derived.Test.YtfofbnpgjdagkaaFlatV
import Derived.StillTailTactics
import Derived.BigQuiet
namespace Go.Proofs.Ytfofbnpgjdagkaa
open Go.ChangeShapes Go.WideShapes Go.ChangeAt Go.Deep Go.RowKit
set_option maxRecDepth 100000

abbrev IntD := Int
def IntD.cells (x : IntD) : List Value := [.int .i64 x]
def intCells : Int → List Value := fun x => [.int .i64 x]
theorem intLen (x : Int) : (intCells x).length = 1 := rfl
theorem int_one (x : Int) : ∀ v ∈ intCells x, v.oneCell' = true := fun v hv => by simp [intCells] at hv; rw [hv]; rfl
def SlInt : World → Value → List Int → Prop := SlOf 1 intCells
def OwnInt : World → Nat → Value → List Int → Prop := OwnOf 1 intCells 3
def NewInt : List Int → World → Ending → World → Prop := NewOf 1 intCells 3
theorem SlInt.at {w : World} {v : Value} {l : List Int} (h : SlInt w v l) : ∃ A c, v = .slice A l.length c := SlOf.form h
theorem SlInt.below {w w' : World} {v : Value} {l : List Int} (h : SlInt w v l) (hb : Below w.heap.size w w') : SlInt w' v l := SlOf.below h hb
theorem OwnInt.sl {w : World} {base : Nat} {v : Value} {l : List Int} (h : OwnInt w base v l) (hl : l.length ≤ 1000000000) : SlInt w v l := own_sl intLen h hl
theorem SlInt.cells {w : World} {l : List Int} {g o : Nat} (hc : ∀ i x, l[i]? = some x → ∀ j u, (intCells x)[j]? = some u → w.cell? ⟨g, o + i * 1 + j, none⟩ = some u) (i : Nat) (x : Int) (hx : l[i]? = some x) :
    w.cell? ⟨g, o + i, none⟩ = some (.int .i64 x) := by
  have h := hc i x hx 0 _ rfl
  simpa using h
def zeroInt : List Value := [.int .i64 0]
theorem info_int : (Try.prog.info? 3).map (fun i => (i.zero, i.size, i.bytes)) = some (some (.int .i64 0), 1, 8) := by kernel_rfl
theorem info1_int : ∃ i0, Try.prog.info? 3 = some i0 ∧ i0.zero = some (.int .i64 0) ∧ i0.size = 1 ∧ i0.bytes = 8 := by
  have h := info_int
  cases hi : Try.prog.info? 3 with
  | none => rw [hi] at h; simp at h
  | some i0 => rw [hi] at h; simp at h; exact ⟨i0, rfl, h.1, h.2.1, h.2.2⟩
theorem make_ints (n : Nat) (hn : n ≤ 1000000000) (W : World) :
    (Instr.makeSlice 23 (.int .i64 (n : Int)) (.int .i64 (n : Int))).run Try.prog W = .ok (.slice (some ⟨W.heap.size, 0, none⟩) n n) (W.alloc (.cells (madeCells #[.int .i64 0] (n * 1)) 3)) := by
  obtain ⟨i0, hi, hz0, hz1, hz2⟩ := info1_int
  have hr := run_make (P := Try.prog) W 23 3 i0 _ Try.underlying23 hi hz0 .i64 .i64 n n (by omega) (Int.le_refl _) (by rw [hz2]; omega) (by omega)
  simp only [Int.toNat_natCast, hz1] at hr
  exact hr

set_option maxHeartbeats 1000000 in
theorem toIntS_any (v : Value) (l : List Int) (w : World) (h : SlInt w v l) :
    Calls Try.prog 26 #[v] w (NewInt l w) := by
  obtain ⟨hl, h⟩ := h
  have hmk := make_ints l.length hl
  rcases h with ⟨rfl, A, c, rfl⟩ | ⟨g, o, c, rfl, hp, hcap, hc⟩
  · have hmk0 : ∀ W : World, (Instr.makeSlice 23 (.int .i64 0) (.int .i64 0)).run Try.prog W = .ok (.slice (some ⟨W.heap.size, 0, none⟩) 0 0) (W.alloc (.cells (madeCells #[.int .i64 0] (0 * 1)) 3)) := make_ints 0 (by omega)
    clear hmk
    go_enter Try.func26, Try.ntmps26
    go_wp2
    refine wp_loop_rounds 1 ?_
    rw [rounds_succ]
    go_wp2
    go_ret
    have h := World.ownsRow_lit (base := w.heap.size) (e := 3) (size := 1) w (madeCells #[.int .i64 0] (0 * 1)) 0 (Nat.le_refl _) (by decide) (by rw [size_madeCells])
    rw [show (madeCells #[Value.int .i64 0] (0 * 1)).toList = [] by simp [madeCells]] at h
    exact ⟨_, rfl, h, (Below.refl _ _).alloc (Nat.le_refl _) _⟩
  · have HC := Lib.hid hc
    clear hc
    go_enter Try.func26, Try.ntmps26
    go_wp2
    clear hmk
    go_loopw [4] (fun i wr => ∃ k : Nat, k ≤ l.length ∧ i = .int .i64 k ∧ Hid (wr.ownsRow w.heap.size 3 1 (.slice (some ⟨w.heap.size, 0, none⟩) l.length l.length) l.length (halfOf intCells zeroInt l k)) ∧ Below w.heap.size w wr) (fun i _ => l.length - (intOf i).toNat)
    case atStart =>
      refine ⟨0, Nat.zero_le _, rfl, ?_, (Below.refl _ _).alloc (Nat.le_refl _) _⟩
      have h := World.ownsRow_lit (base := w.heap.size) (e := 3) (size := 1) w (madeCells #[.int .i64 0] (l.length * 1)) l.length (Nat.le_refl _) (by unfold maxLen; omega) (by rw [size_madeCells])
      have e := made_flat #[.int .i64 0] l.length
      rw [half_none]
      have e' : (madeCells #[Value.int .i64 0] (l.length * 1)).toList = (List.replicate l.length zeroInt).flatten := e
      rw [e'] at h
      rw [Nat.mul_one] at h
      exact Lib.hid h
    case round =>
      obtain ⟨k, hk, rfl, hown, hb⟩ := hrel
      by_cases hlt : k < l.length
      · obtain ⟨x, hx⟩ : ∃ x, l[k]? = some x := ⟨_, List.getElem?_eq_getElem hlt⟩
        have q0 := SlInt.cells HC.out k x hx
        have hlt2 : g < w.heap.size := World.block_lt_of_cell? w ⟨g, o + k, none⟩ q0
        have c0 := (hb.cell (p := ⟨g, o + k, none⟩) hlt2).trans q0
        have Hx := Lib.hid hx
        clear q0 hx
        have s0 : wr.cell? ⟨w.heap.size, k, none⟩ = some (.int .i64 0) := by
          have h := (World.ownsRow.cellAt hown.out (k * 1 + 0) (by omega)).trans (half_at intLen l k hlt 0 _ rfl)
          simpa using h
        have z0 : wr.frozen? ⟨w.heap.size, k, none⟩ = false := World.ownsRow.frozenAt hown.out _
        have hst := (World.ownsRow.stored hown.out (k * 1) (.int .i64 x)).1
        have e := half_set intLen (zc := zeroInt) rfl l k x Hx.out
        have HO := Lib.hid ((show (halfOf intCells zeroInt l k).set (k * 1) (.int .i64 x) = halfOf intCells zeroInt l (k + 1) from e) ▸ hst)
        rw [Nat.mul_one] at HO
        have HB := Lib.hid (hb.setCell (p := ⟨w.heap.size, k, none⟩) (Nat.le_refl _) (.int .i64 x))
        clear hst e
        go_wp2
        go_roundw
        case rel => exact ⟨k + 1, by omega, by go_num, HO, HB.out⟩
        case measure => simp [intOf]; omega
      · go_wp2
        go_ret
        obtain rfl : k = l.length := by omega
        have ho := hown.out
        rw [half_full] at ho
        exact ⟨_, rfl, ho, hb⟩

def bulkInt (_ : List Int) : Int := 0
theorem bulkInt_pos (l : List Int) : 0 ≤ bulkInt l := Int.le_refl _
set_option maxHeartbeats 1000000 in
theorem eqIntS_same (va vb : Value) (l : List Int) (w : World) (ha : SlInt w va l) (hb : SlInt w vb l) :
    Calls Try.prog 28 #[va, vb] w fun e w' => e = .returned (.bool true) ∧ Below w.heap.size w w' := by
  obtain ⟨hl, ha⟩ := ha
  obtain ⟨_, hb⟩ := hb
  rcases ha with ⟨rfl, A, c, rfl⟩ | ⟨g, o, c, rfl, hp, _, hca⟩
  · rcases hb with ⟨_, A', c', rfl⟩ | ⟨g', o', c', rfl, hp, _, _⟩
    · go_enter Try.func28, Try.ntmps28
      go_wp2
      refine wp_loop_rounds 1 ?_
      rw [rounds_succ]
      go_wp2
      go_ret
      exact ⟨rfl, Below.refl _ _⟩
    · exact absurd hp (by simp)
  · rcases hb with ⟨rfl, A', c', rfl⟩ | ⟨g', o', c', rfl, _, _, hcb⟩
    · exact absurd hp (by simp)
    · have HA := Lib.hid hca
      have HB := Lib.hid hcb
      clear hca hcb
      go_enter Try.func28, Try.ntmps28
      go_wp2
      go_loopw [5] (fun i wr => ∃ k n : Nat, k ≤ l.length ∧ i = .int .i64 k ∧ wr = w.drewN n) (fun i _ => l.length - (intOf i).toNat)
      case atStart => exact ⟨0, 0, Nat.zero_le _, rfl, rfl⟩
      case round =>
        obtain ⟨k, n, hk, rfl, rfl⟩ := hrel
        by_cases hlt : k < l.length
        · obtain ⟨x, hx⟩ : ∃ x, l[k]? = some x := ⟨_, List.getElem?_eq_getElem hlt⟩
          have a0 := SlInt.cells HA.out k x hx
          have b0 := SlInt.cells HB.out k x hx
          have Hx := Lib.hid hx
          clear hx
          go_wp2
          go_quiet (fail)
          go_wp2
          go_roundw
          case rel => exact ⟨k + 1, _, by omega, by go_num, rfl⟩
          case measure => simp [intOf]; omega
        · go_wp2
          go_ret
          exact ⟨rfl, ⟨rfl, rfl, rfl, Nat.le_refl _, fun _ _ => rfl⟩⟩

/-- What the marking that begins with k writes into cell j. -/
def mvInt (k : Int) (j : Nat) : Value := .int .i64 (k + (j : Int))
set_option maxHeartbeats 4000000 in
theorem markIntS_any (v : Value) (l : List Int) (k : Int) (w : World) (h : SlInt w v l) (hfz : ∀ g, v.ownBlock = some g → ∀ j, w.frozen? ⟨g, j, none⟩ = false) (h0 : 0 ≤ k) (h1 : k ≤ 100000000) (h2 : l.length ≤ 10000000) :
    Calls Try.prog 32 #[v, .int .i64 k] w fun e w' => e = .returned (.int .i64 (k + (l.length : Int))) ∧ MarkedV w' v l.length (mvInt k) ∧ w.grownBy w' v.ownBlock := by
  obtain ⟨hl, h⟩ := h
  rcases h with ⟨rfl, A, c, rfl⟩ | ⟨g, o, c, rfl, hp, hcap, hc⟩
  · go_enter Try.func32, Try.ntmps32
    go_wp2
    refine wp_loop_rounds 1 ?_
    rw [rounds_succ]
    go_wp2
    go_ret
    exact ⟨ret_int (by simp), .inl (by simp), World.grownBy.refl _ _⟩
  · have hs : MarkRowV w g o l.length (mvInt k) 0 w := MarkRowV.start (by have h := vals_of (by omega) intLen hc; rw [Nat.mul_one] at h; exact h) (by omega) (fun j => hfz g rfl j)
    have HS := Lib.hid hs
    clear hs hc hfz
    go_enter Try.func32, Try.ntmps32
    go_wp2
    go_loopw [1, 5] (fun q i wr => ∃ j : Nat, j ≤ l.length ∧ i = .int .i64 j ∧ q = .int .i64 (k + (j : Int)) ∧ Hid (MarkRowV w g o l.length (mvInt k) j wr)) (fun _ i _ => l.length - (intOf i).toNat)
    case atStart => exact ⟨0, Nat.zero_le _, rfl, by simp, HS⟩
    case round =>
      obtain ⟨j, hj, rfl, rfl, hM⟩ := hrel
      by_cases hlt : j < l.length
      · clear HS
        obtain ⟨x0, c0⟩ := hM.out.read j (by omega) (by omega) (o + j) (by omega)
        have f0 := hM.out.2.2.2.1 (o + j)
        have M0 := Lib.hid (hM.out.next (by omega) (o + j) (by omega) (.int .i64 (k + (j : Int))) rfl (j + 1) rfl)
        go_wp2
        go_roundw
        case rel =>
          refine ⟨j + 1, by omega, by go_num, ?_, M0⟩
          congr 1; omega
        case measure => simp [intOf]; omega
      · go_wp2
        go_ret
        obtain rfl : j = l.length := by omega
        exact ⟨rfl, .inr ⟨g, o, l.length, c, rfl, hM.out.2.1⟩, hM.out.1⟩

set_option maxHeartbeats 4000000 in
theorem heldIntS_any (v : Value) (len : Nat) (A : Option Addr) (c : Nat) (hv : v = .slice A len c) (k : Int) (w : World) (h : MarkedV w v len (mvInt k)) (h0 : 0 ≤ k) (h1 : k ≤ 100000000) (h2 : len ≤ 10000000) :
    Calls Try.prog 34 #[v, .int .i64 k] w fun e w' => e = .returned (.int .i64 (k + (len : Int))) ∧ Below w.heap.size w w' := by
  subst hv
  rcases h with hn | ⟨g, o, len', c', hv, hc⟩
  · obtain rfl : len = 0 := by omega
    go_enter Try.func34, Try.ntmps34
    go_wp2
    refine wp_loop_rounds 1 ?_
    rw [rounds_succ]
    go_wp2
    go_ret
    exact ⟨ret_int (by simp), Below.refl _ _⟩
  · injection hv with hA hlen hcap
    subst hA hlen hcap
    have HC := Lib.hid hc
    clear hc
    go_enter Try.func34, Try.ntmps34
    go_wp2
    go_loop [1, 5] (fun q i => ∃ j : Nat, j ≤ len ∧ i = .int .i64 j ∧ q = .int .i64 (k + (j : Int))) (fun _ i => len - (intOf i).toNat)
    case atStart => exact ⟨0, Nat.zero_le _, rfl, by simp⟩
    case round =>
      obtain ⟨j, hj, rfl, rfl⟩ := hrel
      by_cases hlt : j < len
      · have c0 : w.cell? ⟨g, o + j, none⟩ = some (.int .i64 (k + (j : Int))) := HC.out j (by omega)
        go_wp2
        go_round
        case rel =>
          refine ⟨j + 1, by omega, by go_num, ?_⟩
          congr 1; omega
        case measure => simp [intOf]; omega
      · go_wp2
        go_ret
        obtain rfl : j = len := by omega
        exact ⟨rfl, Below.refl _ _⟩

section
variable {H : Type} {enc : TypeId × Value → H} {w : World} {base : Nat} {spare : Nat → Bool} {held : Bool}
def IntD.wf (x : IntD) : Prop := (Lit.int .i64 x).wf = true
theorem dec_int (n : Nat) (cs : List Value) (y : DataW H × List MemPlace) (h : DataW.trod enc Try.prog w base spare held n 3 cs = some y) : ∃ x : Int, cs = intCells x ∧ IntD.wf x := by
  obtain ⟨a, ha, _, wa⟩ := DataW.trod_int Try.underlying3 h
  exact ⟨a, ha, wa⟩
theorem open_ints {fuel : Nat} {v : Value} {x : DataW H × List MemPlace} (h : DataW.trod enc Try.prog w base (fun _ => true) held fuel 23 [v] = some x) :
    ∃ A c l, v = .slice A l.length c ∧ l.length ≤ maxLen ∧ (l.length ≤ 1000000000 → SlInt w (.slice A l.length c) l) ∧ ∀ d ∈ l, IntD.wf d :=
  open_elems intCells 1 IntD.wf Try.underlying23 (by kernel_rfl) intLen (by omega) dec_int h
theorem open_ints_arg {r : Reach} {b0 : Nat} {v : Value} {d : DataW H} {ps : List MemPlace} (hval : Value.okWide Try.prog w r b0 23 v) (hd : DataW.Trod enc Try.prog w 0 (fun _ => true) true 23 v d ps) :
    ∃ A c l, v = .slice A l.length c ∧ l.length ≤ maxLen ∧ (l.length ≤ 1000000000 → SlInt w (.slice A l.length c) l) ∧ ∀ d ∈ l, IntD.wf d := by
  obtain ⟨A, len, cap, rfl⟩ := okWide_slice Try.underlying23 hval
  obtain ⟨fuel, hf⟩ := hd
  exact open_ints hf
end
end Go.Proofs.Ytfofbnpgjdagkaa
