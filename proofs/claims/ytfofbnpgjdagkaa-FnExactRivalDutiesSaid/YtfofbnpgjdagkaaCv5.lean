
/- What ExactRivalDuties and Dilworth and CoversLaw rests on, part 5: contracts and mathematics. -/
import Derived.Test.YtfofbnpgjdagkaaCv1
import Derived.Test.YtfofbnpgjdagkaaCv3
import Derived.StillTailTactics
import Derived.BigQuiet
import Derived.Deep.AppendLies
import Derived.Deep.Upon
import Derived.Test.YtfofbnpgjdagkaaCv0
import Derived.Maps.Own
import Derived.Maps.Views
import Derived.Maps.OwnSet
import Derived.WideKeyPair
namespace Go.Proofs.Ytfofbnpgjdagkaa
open Go.ChangeShapes Go.WideShapes Go.ChangeAt Go.Deep Go.RowKit
set_option maxRecDepth 100000
abbrev IntD := Int
def IntD.cells (x : IntD) : List Value := [.int .i64 x]
def intCells : Int → List Value := fun x => [.int .i64 x]
theorem intLen (x : Int) : (intCells x).length = 1 := rfl
theorem int_one (x : Int) : ∀ v ∈ intCells x, v.oneCell' = true := fun v hv => by simp [intCells] at hv; rw [hv]; rfl
def SlInt : World → Value → List Int → Prop := SlOf 1 intCells
def OwnInt : World → Nat → Value → List Int → Prop := OwnOf 1 intCells 3
def NewInt : List Int → World → Ending → World → Prop := NewOf 1 intCells 3
theorem SlInt.at {w : World} {v : Value} {l : List Int} (h : SlInt w v l) : ∃ A c, v = .slice A l.length c := SlOf.form h
theorem SlInt.below {w w' : World} {v : Value} {l : List Int} (h : SlInt w v l) (hb : Below w.heap.size w w') : SlInt w' v l := SlOf.below h hb
theorem OwnInt.sl {w : World} {base : Nat} {v : Value} {l : List Int} (h : OwnInt w base v l) (hl : l.length ≤ 1000000000) : SlInt w v l := own_sl intLen h hl
theorem SlInt.cells {w : World} {l : List Int} {g o : Nat} (hc : ∀ i x, l[i]? = some x → ∀ j u, (intCells x)[j]? = some u → w.cell? ⟨g, o + i * 1 + j, none⟩ = some u) (i : Nat) (x : Int) (hx : l[i]? = some x) :
    w.cell? ⟨g, o + i, none⟩ = some (.int .i64 x) := by
  have h := hc i x hx 0 _ rfl
  simpa using h
def zeroInt : List Value := [.int .i64 0]
theorem info_int : (Try.prog.info? 3).map (fun i => (i.zero, i.size, i.bytes)) = some (some (.int .i64 0), 1, 8) := by kernel_rfl
theorem info1_int : ∃ i0, Try.prog.info? 3 = some i0 ∧ i0.zero = some (.int .i64 0) ∧ i0.size = 1 ∧ i0.bytes = 8 := by
  have h := info_int
  cases hi : Try.prog.info? 3 with
  | none => rw [hi] at h; simp at h
  | some i0 => rw [hi] at h; simp at h; exact ⟨i0, rfl, h.1, h.2.1, h.2.2⟩
theorem make_ints (n : Nat) (hn : n ≤ 1000000000) (W : World) :
    (Instr.makeSlice 23 (.int .i64 (n : Int)) (.int .i64 (n : Int))).run Try.prog W = .ok (.slice (some ⟨W.heap.size, 0, none⟩) n n) (W.alloc (.cells (madeCells #[.int .i64 0] (n * 1)) 3)) := by
  obtain ⟨i0, hi, hz0, hz1, hz2⟩ := info1_int
  have hr := run_make (P := Try.prog) W 23 3 i0 _ Try.underlying23 hi hz0 .i64 .i64 n n (by omega) (Int.le_refl _) (by rw [hz2]; omega) (by omega)
  simp only [Int.toNat_natCast, hz1] at hr
  exact hr
set_option maxHeartbeats 1000000 in
theorem toIntS_any (v : Value) (l : List Int) (w : World) (h : SlInt w v l) :
    Calls Try.prog 26 #[v] w (NewInt l w) := by
  obtain ⟨hl, h⟩ := h
  have hmk := make_ints l.length hl
  rcases h with ⟨rfl, A, c, rfl⟩ | ⟨g, o, c, rfl, hp, hcap, hc⟩
  · have hmk0 : ∀ W : World, (Instr.makeSlice 23 (.int .i64 0) (.int .i64 0)).run Try.prog W = .ok (.slice (some ⟨W.heap.size, 0, none⟩) 0 0) (W.alloc (.cells (madeCells #[.int .i64 0] (0 * 1)) 3)) := make_ints 0 (by omega)
    clear hmk
    go_enter Try.func26, Try.ntmps26
    go_wp2
    refine wp_loop_rounds 1 ?_
    rw [rounds_succ]
    go_wp2
    go_ret
    have h := World.ownsRow_lit (base := w.heap.size) (e := 3) (size := 1) w (madeCells #[.int .i64 0] (0 * 1)) 0 (Nat.le_refl _) (by decide) (by rw [size_madeCells])
    rw [show (madeCells #[Value.int .i64 0] (0 * 1)).toList = [] by simp [madeCells]] at h
    exact ⟨_, rfl, h, (Below.refl _ _).alloc (Nat.le_refl _) _⟩
  · have HC := Lib.hid hc
    clear hc
    go_enter Try.func26, Try.ntmps26
    go_wp2
    clear hmk
    go_loopw [4] (fun i wr => ∃ k : Nat, k ≤ l.length ∧ i = .int .i64 k ∧ Hid (wr.ownsRow w.heap.size 3 1 (.slice (some ⟨w.heap.size, 0, none⟩) l.length l.length) l.length (halfOf intCells zeroInt l k)) ∧ Below w.heap.size w wr) (fun i _ => l.length - (intOf i).toNat)
    case atStart =>
      refine ⟨0, Nat.zero_le _, rfl, ?_, (Below.refl _ _).alloc (Nat.le_refl _) _⟩
      have h := World.ownsRow_lit (base := w.heap.size) (e := 3) (size := 1) w (madeCells #[.int .i64 0] (l.length * 1)) l.length (Nat.le_refl _) (by unfold maxLen; omega) (by rw [size_madeCells])
      have e := made_flat #[.int .i64 0] l.length
      rw [half_none]
      have e' : (madeCells #[Value.int .i64 0] (l.length * 1)).toList = (List.replicate l.length zeroInt).flatten := e
      rw [e'] at h
      rw [Nat.mul_one] at h
      exact Lib.hid h
    case round =>
      obtain ⟨k, hk, rfl, hown, hb⟩ := hrel
      by_cases hlt : k < l.length
      · obtain ⟨x, hx⟩ : ∃ x, l[k]? = some x := ⟨_, List.getElem?_eq_getElem hlt⟩
        have q0 := SlInt.cells HC.out k x hx
        have hlt2 : g < w.heap.size := World.block_lt_of_cell? w ⟨g, o + k, none⟩ q0
        have c0 := (hb.cell (p := ⟨g, o + k, none⟩) hlt2).trans q0
        have Hx := Lib.hid hx
        clear q0 hx
        have s0 : wr.cell? ⟨w.heap.size, k, none⟩ = some (.int .i64 0) := by
          have h := (World.ownsRow.cellAt hown.out (k * 1 + 0) (by omega)).trans (half_at intLen l k hlt 0 _ rfl)
          simpa using h
        have z0 : wr.frozen? ⟨w.heap.size, k, none⟩ = false := World.ownsRow.frozenAt hown.out _
        have hst := (World.ownsRow.stored hown.out (k * 1) (.int .i64 x)).1
        have e := half_set intLen (zc := zeroInt) rfl l k x Hx.out
        have HO := Lib.hid ((show (halfOf intCells zeroInt l k).set (k * 1) (.int .i64 x) = halfOf intCells zeroInt l (k + 1) from e) ▸ hst)
        rw [Nat.mul_one] at HO
        have HB := Lib.hid (hb.setCell (p := ⟨w.heap.size, k, none⟩) (Nat.le_refl _) (.int .i64 x))
        clear hst e
        go_wp2
        go_roundw
        case rel => exact ⟨k + 1, by omega, by go_num, HO, HB.out⟩
        case measure => simp [intOf]; omega
      · go_wp2
        go_ret
        obtain rfl : k = l.length := by omega
        have ho := hown.out
        rw [half_full] at ho
        exact ⟨_, rfl, ho, hb⟩
set_option maxHeartbeats 1000000 in
theorem eqIntS_same (va vb : Value) (l : List Int) (w : World) (ha : SlInt w va l) (hb : SlInt w vb l) :
    Calls Try.prog 28 #[va, vb] w fun e w' => e = .returned (.bool true) ∧ Below w.heap.size w w' := by
  obtain ⟨hl, ha⟩ := ha
  obtain ⟨_, hb⟩ := hb
  rcases ha with ⟨rfl, A, c, rfl⟩ | ⟨g, o, c, rfl, hp, _, hca⟩
  · rcases hb with ⟨_, A', c', rfl⟩ | ⟨g', o', c', rfl, hp, _, _⟩
    · go_enter Try.func28, Try.ntmps28
      go_wp2
      refine wp_loop_rounds 1 ?_
      rw [rounds_succ]
      go_wp2
      go_ret
      exact ⟨rfl, Below.refl _ _⟩
    · exact absurd hp (by simp)
  · rcases hb with ⟨rfl, A', c', rfl⟩ | ⟨g', o', c', rfl, _, _, hcb⟩
    · exact absurd hp (by simp)
    · have HA := Lib.hid hca
      have HB := Lib.hid hcb
      clear hca hcb
      go_enter Try.func28, Try.ntmps28
      go_wp2
      go_loopw [5] (fun i wr => ∃ k n : Nat, k ≤ l.length ∧ i = .int .i64 k ∧ wr = w.drewN n) (fun i _ => l.length - (intOf i).toNat)
      case atStart => exact ⟨0, 0, Nat.zero_le _, rfl, rfl⟩
      case round =>
        obtain ⟨k, n, hk, rfl, rfl⟩ := hrel
        by_cases hlt : k < l.length
        · obtain ⟨x, hx⟩ : ∃ x, l[k]? = some x := ⟨_, List.getElem?_eq_getElem hlt⟩
          have a0 := SlInt.cells HA.out k x hx
          have b0 := SlInt.cells HB.out k x hx
          have Hx := Lib.hid hx
          clear hx
          go_wp2
          go_quiet (fail)
          go_wp2
          go_roundw
          case rel => exact ⟨k + 1, _, by omega, by go_num, rfl⟩
          case measure => simp [intOf]; omega
        · go_wp2
          go_ret
          exact ⟨rfl, ⟨rfl, rfl, rfl, Nat.le_refl _, fun _ _ => rfl⟩⟩
/-- What the marking that begins with k writes into cell j. -/
def mvInt (k : Int) (j : Nat) : Value := .int .i64 (k + (j : Int))
set_option maxHeartbeats 4000000 in
theorem markIntS_any (v : Value) (l : List Int) (k : Int) (w : World) (h : SlInt w v l) (hfz : ∀ g, v.ownBlock = some g → ∀ j, w.frozen? ⟨g, j, none⟩ = false) (h0 : 0 ≤ k) (h1 : k ≤ 100000000) (h2 : l.length ≤ 10000000) :
    Calls Try.prog 32 #[v, .int .i64 k] w fun e w' => e = .returned (.int .i64 (k + (l.length : Int))) ∧ MarkedV w' v l.length (mvInt k) ∧ w.grownBy w' v.ownBlock := by
  obtain ⟨hl, h⟩ := h
  rcases h with ⟨rfl, A, c, rfl⟩ | ⟨g, o, c, rfl, hp, hcap, hc⟩
  · go_enter Try.func32, Try.ntmps32
    go_wp2
    refine wp_loop_rounds 1 ?_
    rw [rounds_succ]
    go_wp2
    go_ret
    exact ⟨ret_int (by simp), .inl (by simp), World.grownBy.refl _ _⟩
  · have hs : MarkRowV w g o l.length (mvInt k) 0 w := MarkRowV.start (by have h := vals_of (by omega) intLen hc; rw [Nat.mul_one] at h; exact h) (by omega) (fun j => hfz g rfl j)
    have HS := Lib.hid hs
    clear hs hc hfz
    go_enter Try.func32, Try.ntmps32
    go_wp2
    go_loopw [1, 5] (fun q i wr => ∃ j : Nat, j ≤ l.length ∧ i = .int .i64 j ∧ q = .int .i64 (k + (j : Int)) ∧ Hid (MarkRowV w g o l.length (mvInt k) j wr)) (fun _ i _ => l.length - (intOf i).toNat)
    case atStart => exact ⟨0, Nat.zero_le _, rfl, by simp, HS⟩
    case round =>
      obtain ⟨j, hj, rfl, rfl, hM⟩ := hrel
      by_cases hlt : j < l.length
      · clear HS
        obtain ⟨x0, c0⟩ := hM.out.read j (by omega) (by omega) (o + j) (by omega)
        have f0 := hM.out.2.2.2.1 (o + j)
        have M0 := Lib.hid (hM.out.next (by omega) (o + j) (by omega) (.int .i64 (k + (j : Int))) rfl (j + 1) rfl)
        go_wp2
        go_roundw
        case rel =>
          refine ⟨j + 1, by omega, by go_num, ?_, M0⟩
          congr 1; omega
        case measure => simp [intOf]; omega
      · go_wp2
        go_ret
        obtain rfl : j = l.length := by omega
        exact ⟨rfl, .inr ⟨g, o, l.length, c, rfl, hM.out.2.1⟩, hM.out.1⟩
set_option maxHeartbeats 4000000 in
theorem heldIntS_any (v : Value) (len : Nat) (A : Option Addr) (c : Nat) (hv : v = .slice A len c) (k : Int) (w : World) (h : MarkedV w v len (mvInt k)) (h0 : 0 ≤ k) (h1 : k ≤ 100000000) (h2 : len ≤ 10000000) :
    Calls Try.prog 34 #[v, .int .i64 k] w fun e w' => e = .returned (.int .i64 (k + (len : Int))) ∧ Below w.heap.size w w' := by
  subst hv
  rcases h with hn | ⟨g, o, len', c', hv, hc⟩
  · obtain rfl : len = 0 := by omega
    go_enter Try.func34, Try.ntmps34
    go_wp2
    refine wp_loop_rounds 1 ?_
    rw [rounds_succ]
    go_wp2
    go_ret
    exact ⟨ret_int (by simp), Below.refl _ _⟩
  · injection hv with hA hlen hcap
    subst hA hlen hcap
    have HC := Lib.hid hc
    clear hc
    go_enter Try.func34, Try.ntmps34
    go_wp2
    go_loop [1, 5] (fun q i => ∃ j : Nat, j ≤ len ∧ i = .int .i64 j ∧ q = .int .i64 (k + (j : Int))) (fun _ i => len - (intOf i).toNat)
    case atStart => exact ⟨0, Nat.zero_le _, rfl, by simp⟩
    case round =>
      obtain ⟨j, hj, rfl, rfl⟩ := hrel
      by_cases hlt : j < len
      · have c0 : w.cell? ⟨g, o + j, none⟩ = some (.int .i64 (k + (j : Int))) := HC.out j (by omega)
        go_wp2
        go_round
        case rel =>
          refine ⟨j + 1, by omega, by go_num, ?_⟩
          congr 1; omega
        case measure => simp [intOf]; omega
      · go_wp2
        go_ret
        obtain rfl : j = len := by omega
        exact ⟨rfl, Below.refl _ _⟩
section
variable {H : Type} {enc : TypeId × Value → H} {w : World} {base : Nat} {spare : Nat → Bool} {held : Bool}
def IntD.wf (x : IntD) : Prop := (Lit.int .i64 x).wf = true
theorem dec_int (n : Nat) (cs : List Value) (y : DataW H × List MemPlace) (h : DataW.trod enc Try.prog w base spare held n 3 cs = some y) : ∃ x : Int, cs = intCells x ∧ IntD.wf x := by
  obtain ⟨a, ha, _, wa⟩ := DataW.trod_int Try.underlying3 h
  exact ⟨a, ha, wa⟩
theorem open_ints {fuel : Nat} {v : Value} {x : DataW H × List MemPlace} (h : DataW.trod enc Try.prog w base (fun _ => true) held fuel 23 [v] = some x) :
    ∃ A c l, v = .slice A l.length c ∧ l.length ≤ maxLen ∧ (l.length ≤ 1000000000 → SlInt w (.slice A l.length c) l) ∧ ∀ d ∈ l, IntD.wf d :=
  open_elems intCells 1 IntD.wf Try.underlying23 (by kernel_rfl) intLen (by omega) dec_int h
theorem open_ints_arg {r : Reach} {b0 : Nat} {v : Value} {d : DataW H} {ps : List MemPlace} (hval : Value.okWide Try.prog w r b0 23 v) (hd : DataW.Trod enc Try.prog w 0 (fun _ => true) true 23 v d ps) :
    ∃ A c l, v = .slice A l.length c ∧ l.length ≤ maxLen ∧ (l.length ≤ 1000000000 → SlInt w (.slice A l.length c) l) ∧ ∀ d ∈ l, IntD.wf d := by
  obtain ⟨A, len, cap, rfl⟩ := okWide_slice Try.underlying23 hval
  obtain ⟨fuel, hf⟩ := hd
  exact open_ints hf
end
end Go.Proofs.Ytfofbnpgjdagkaa
namespace Go.Proofs.Ytfofbnpgjdagkaa
open Go.RowKit
/-- Two slices in different blocks. -/
def ApartV (v u : Value) : Prop := ∀ g, v.ownBlock = some g → u.ownBlock ≠ some g
theorem cell_onV {a b : World} {p : Addr} {v : Value} (h : a.cell? p = some v) (hb : Below a.heap.size a b) : b.cell? p = some v := (hb.cell (World.block_lt_of_cell? a _ h)).trans h
/-- A slice whose block nothing has frozen. -/
def FreeV (w : World) (v : Value) : Prop := ∀ g, v.ownBlock = some g → (∀ j, w.frozen? ⟨g, j, none⟩ = false) ∧ g < w.heap.size
theorem FreeV.below {w w' : World} {v : Value} (h : FreeV w v) (hb : Below w.heap.size w w') : FreeV w' v := fun g hg =>
  ⟨fun j => (hb.frozen (p := ⟨g, j, none⟩) (h g hg).2).trans ((h g hg).1 j), Nat.lt_of_lt_of_le (h g hg).2 hb.size⟩
theorem FreeV.grown {w w' : World} {v : Value} {row : Option Nat} (h : FreeV w v) (hg : w.grownBy w' row) (hne : v.ownBlock = none ∨ v.ownBlock ≠ row) : FreeV w' v := fun g hgv => by
  have e := hg.block g (h g hgv).2 (fun e => by
    rcases hne with hn | hn
    · rw [hgv] at hn; cases hn
    · exact hn (hgv.trans e))
  refine ⟨fun j => ?_, Nat.lt_of_lt_of_le (h g hgv).2 hg.size⟩
  have := (h g hgv).1 j
  simpa [World.frozen?, e] using this
theorem own_freeV {α : Type} {k : Nat} {cs : α → List Value} {t : TypeId} {w : World} {base : Nat} {v : Value} {l : List α} (h : OwnOf k cs t w base v l) : FreeV w v := by
  intro g hg
  rcases Joins.ownsRow_forms h with ⟨rfl, _⟩ | ⟨g', cap, rfl⟩
  · simp [Value.ownBlock] at hg
  · have e : g' = g := by simpa [Value.ownBlock] using hg
    subst e
    exact ⟨fun j => World.ownsRow.frozenAt h _, (World.ownsRow.lt h g' hg).2⟩
end Go.Proofs.Ytfofbnpgjdagkaa
namespace Go.Proofs.Ytfofbnpgjdagkaa
open Go.RowKit
variable {α : Type} {k : Nat} {cs : α → List Value} {t : TypeId}
/-- The value v is a list over memory that is new since w; what w held is as it was. -/
def GathO (k : Nat) (cs : α → List Value) (t : TypeId) (w : World) (v : Value) (acc : List α) (wr : World) : Prop := OwnOf k cs t wr w.heap.size v acc ∧ Below w.heap.size w wr
theorem GathO.size {w wr : World} {v : Value} {acc : List α} (h : GathO k cs t w v acc wr) : w.heap.size ≤ wr.heap.size := h.2.size
theorem GathO.made {w wr : World} (hb : Below w.heap.size w wr) : GathO k cs t w (.slice (some ⟨wr.heap.size, 0, none⟩) 0 0) [] (wr.alloc (.cells #[] t)) :=
  ⟨⟨by simp, .inr ⟨wr.heap.size, 0, #[], rfl, hb.size, heap_alloc_new wr _, Nat.le_refl _, by omega, by simp, by simp⟩⟩, hb.alloc hb.size _⟩
theorem GathO.below {w wr W : World} {v : Value} {acc : List α} (h : GathO k cs t w v acc wr) (hb : Below wr.heap.size wr W) : GathO k cs t w v acc W :=
  ⟨own_below h.1 hb, h.2.trans (hb.mono h.size)⟩
theorem GathO.next {w W w4 : World} {v : Value} {acc : List α} {x : α} {g4 cap4 : Nat} (h : GathO k cs t w v acc W)
    (hown : w4.ownsRow w.heap.size t k (.slice (some ⟨g4, 0, none⟩) (acc.length + 1) cap4) (acc.length + 1) (acc.flatMap cs ++ cs x)) (hgr : W.grownBy w4 v.ownBlock) :
    GathO k cs t w (.slice (some ⟨g4, 0, none⟩) (acc.length + 1) cap4) (acc ++ [x]) w4 := by
  refine ⟨?_, h.2.grown hgr h.size (fun b hb => (World.ownsRow.lt h.1 b hb).1)⟩
  simpa [OwnOf] using hown
theorem GathO.form {w wr : World} {v : Value} {acc : List α} (h : GathO k cs t w v acc wr) : ∃ A c, v = .slice A acc.length c := own_form h.1
/-- A literal of one element. -/
theorem GathO.one {w wr : World} {x : α} (hb : Below w.heap.size w wr) (hk : (cs x).length = k) : GathO k cs t w (.slice (some ⟨wr.heap.size, 0, none⟩) 1 1) [x] (wr.alloc (.cells (cs x).toArray t)) := by
  have h := World.ownsRow_lit (base := w.heap.size) (e := t) (size := k) wr (cs x).toArray 1 hb.size (by unfold maxLen; omega) (by simp [hk])
  refine ⟨?_, hb.alloc hb.size _⟩
  simpa [OwnOf] using h
end Go.Proofs.Ytfofbnpgjdagkaa
namespace Go.Proofs.Ytfofbnpgjdagkaa
open Go.RowKit
section
variable {P : Program} (w : World)
theorem run_append_keeps (t ty : TypeId) (base : Nat) (e : TypeId) (i : TypeInfo) (z : Value) (size bytes : Nat) (ht : P.underlying t = some (.slice e)) (hi : P.info? e = some i) (hz : i.zero = some z)
    (hsize : i.size = size) (hby : i.bytes = bytes) (hzs : z.cells.size = size) (hsz : 0 < size)
    (v : Value) (n : Nat) (xs : List Value) (hown : w.ownsRow base e size v n xs)
    (ad : Addr) (m c : Nat) (news : List Value) (hl : news.length = m * size) (hnews : ∀ j u, news[j]? = some u → w.cell? (ad.add j) = some u) (h1 : ∀ u ∈ news, u.oneCell' = true)
    (hm : 0 < m) (h63 : n + m ≤ maxLen) (hbytes : (n + m) * bytes ≤ 140737488355328) (hbase : base ≤ w.heap.size) (H : Nat) (hH : w.heap.size = H) :
    ∃ g cap w', (Builtin.append_ #[t, t] ty #[v, .slice (some ad) m c]).run P w = .ok (.slice (some ⟨g, 0, none⟩) (n + m) cap) w' ∧
      w'.ownsRow base e size (.slice (some ⟨g, 0, none⟩) (n + m) cap) (n + m) (xs ++ news) ∧ w.grownBy w' v.ownBlock ∧ (v.ownBlock = some g ∨ g = H) ∧ g < w'.heap.size ∧ w'.ownsRow base e size v n xs := by
  obtain ⟨g, cap, w', hr, h2, h3, h4, h5⟩ := run_append_lies (P := P) w t ty base e i z size bytes ht hi hz hsize hby hzs hsz v n xs hown ad m c news hl hnews h1 hm h63 hbytes hbase H hH
  refine ⟨g, cap, w', hr, h2, h3, h4, h5, ?_⟩
  rcases hown.2 with ⟨rfl, rfl⟩ | ⟨g0, cap0, cur, rfl, hbg, hg, hnc, hcm, hcs, htake⟩
  · exact ⟨hown.1, .inl ⟨rfl, rfl⟩⟩
  · by_cases hroom : n + m ≤ cap0
    · have hmul : (n + m) * size ≤ cap0 * size := Nat.mul_le_mul_right _ hroom
      have hfit : n * i.size + news.length ≤ cur.size := by rw [hsize, hl, hcs, ← Nat.add_mul]; exact hmul
      have hr2 := run_append_room (P := P) w t ty e i ht hi g0 n cap0 cur hg ad m c news (by rw [hsize]; exact hl) hnews h1 hroom hfit
      rw [hr] at hr2
      injection hr2 with _ e2
      subst e2
      refine ⟨hown.1, .inr ⟨g0, cap0, _, rfl, hbg, setRow_heap w g0 cur _ e _ hg, hnc, hcm, ?_, ?_⟩⟩
      · simp only [List.size_toArray, List.length_append, List.length_take, List.length_drop, Array.length_toList]
        rw [hsize] at hfit ⊢
        omega
      · rw [hsize, htake]
        have hx := hown.1
        rw [List.append_assoc, ← hx]
        exact List.take_left
    · obtain ⟨v', w'', hr2, _, _, _, hf⟩ := run_append_own_full (P := P) w base t ty e i z size bytes ht hi hz hsize hby hzs hsz (.slice (some ⟨g0, 0, none⟩) n cap0) n xs hown ad m c news hl hnews h1 h63 hbytes hbase
      rw [hr] at hr2
      injection hr2 with _ e2
      subst e2
      exact World.ownsRow.kept hown (hf g0 cap0 rfl (by omega)) (.inr (by simp [Value.ownBlock]))
theorem step_append_keeps {ops : Array Oper} {o : Oper} {a : Act} {K : Act → World → Prop} {Q : Exit → Act → World → Prop} {E : Prop} (hgd : o.guard = none) (s x : Operand) (t : TypeId)
    (ho : o.op = .call { callee := .builtin .append, args := #[s, x], argTypes := #[t, t] })
    (base : Nat) (e : TypeId) (i : TypeInfo) (z : Value) (size bytes : Nat) (ht : P.underlying t = some (.slice e)) (hi : P.info? e = some i) (hz : i.zero = some z)
    (hsize : i.size = size) (hby : i.bytes = bytes) (hzs : z.cells.size = size) (hsz : 0 < size)
    (v : Value) (n : Nat) (xs : List Value) (hs : a.eval s = v) (hown : w.ownsRow base e size v n xs)
    (ad : Addr) (m c : Nat) (news : List Value) (hx : a.eval x = .slice (some ad) m c) (hl : news.length = m * size) (hnews : ∀ j u, news[j]? = some u → w.cell? (ad.add j) = some u) (h1 : ∀ u ∈ news, u.oneCell' = true)
    (hm : 0 < m) (h63 : n + m ≤ maxLen) (hbytes : (n + m) * bytes ≤ 140737488355328) (hbase : base ≤ w.heap.size)
    (h : ∀ g cap w', w'.ownsRow base e size (.slice (some ⟨g, 0, none⟩) (n + m) cap) (n + m) (xs ++ news) → w.grownBy w' v.ownBlock → (v.ownBlock = some g ∨ g = w.heap.size) → g < w'.heap.size → w'.ownsRow base e size v n xs → K (a.put o.dst (.slice (some ⟨g, 0, none⟩) (n + m) cap)) w') :
    if Region.wanted o (yielded ops a.tmps) = true then Oper.wp P o a w K Q else E := by
  have hw : Region.wanted o (yielded ops a.tmps) = true := by simp [Region.wanted, hgd]
  rw [if_pos hw]
  obtain ⟨g, cap, w', hr, h2, h3, h4, h5, h6⟩ := run_append_keeps (P := P) w t o.type base e i z size bytes ht hi hz hsize hby hzs hsz v n xs hown ad m c news hl hnews h1 hm h63 hbytes hbase _ rfl
  unfold Oper.wp execOp
  simp only [ho, resolve, invoke, builtin, Sem.run_bind, Sem.run_pure, Result.andThen_ok, List.map_toArray, List.map_cons, List.map_nil, hs, hx, hr]
  exact h g cap w' h2 h3 h4 h5 h6
/-- Nothing is appended. -/
theorem step_append_none {ops : Array Oper} {o : Oper} {a : Act} {K : Act → World → Prop} {Q : Exit → Act → World → Prop} {E : Prop} (hgd : o.guard = none) (s x : Operand) (t : TypeId)
    (ho : o.op = .call { callee := .builtin .append, args := #[s, x], argTypes := #[t, t] })
    (e : TypeId) (i : TypeInfo) (ht : P.underlying t = some (.slice e)) (hi : P.info? e = some i) (A : Option Addr) (n c : Nat) (hs : a.eval s = .slice A n c) (hle : n ≤ c) (B : Option Addr) (c' : Nat) (hx : a.eval x = .slice B 0 c')
    (h : K (a.put o.dst (.slice A n c)) w) :
    if Region.wanted o (yielded ops a.tmps) = true then Oper.wp P o a w K Q else E := by
  have hw : Region.wanted o (yielded ops a.tmps) = true := by simp [Region.wanted, hgd]
  rw [if_pos hw]
  have hsrc : Src P i.size t (.slice B 0 c') 0 [] w := by
    cases B with
    | none => exact Src.ofNil w ht c'
    | some b => exact Src.ofSlice w ht b 0 c' [] (by simp) (by simp) (by simp)
  have hr := run_append_nothing (P := P) w t t o.type e i ht hi A n c hle (.slice B 0 c') hsrc
  unfold Oper.wp execOp
  simp only [ho, resolve, invoke, builtin, Sem.run_bind, Sem.run_pure, Result.andThen_ok, List.map_toArray, List.map_cons, List.map_nil, hs, hx, hr]
  exact h
end
end Go.Proofs.Ytfofbnpgjdagkaa
namespace Go.Proofs.Ytfofbnpgjdagkaa
open Go.RowKit Go.Maps Go.WideMaps
set_option maxRecDepth 100000
theorem arr_pair : ArrKey Try.prog 82 3 2 := ⟨Try.underlying82, by kernel_rfl, by kernel_rfl, by kernel_rfl⟩
theorem law_pair : Keyed Try.prog 82 := Keyed.of_law arr_pair.law
def pairL (i k : Nat) : Lit := .string (keyBytes [.int .i64 (i : Int), .int .i64 (k : Int)])
theorem pairL_lit (i k : Nat) : WideAt.IsKeyLit (pairL i k) := trivial
theorem nat_wf {i : Nat} (h : i ≤ 1000000) : (Lit.int .i64 (i : Int)).wf = true := WalkArith.wf_i64 (by omega)
theorem pair_key {i k : Nat} (hi : i ≤ 1000000) (hk : k ≤ 1000000) : keyOf Try.prog 82 (.agg #[.int .i64 (i : Int), .int .i64 (k : Int)]) = some (pairL i k) :=
  keyOf_pair arr_pair Try.underlying3 ⟨Try.prog.types.size - 1, by
    have : 0 < Try.prog.types.size := of_decide_eq_true (by kernel_rfl)
    omega⟩ (nat_wf hi) (nat_wf hk)
theorem pairL_inj {i k i' k' : Nat} (hi : i ≤ 1000000) (hk : k ≤ 1000000) (hi' : i' ≤ 1000000) (hk' : k' ≤ 1000000) (e : pairL i k = pairL i' k') : i = i' ∧ k = k' := by
  have h1 := pair_key hi hk
  rw [e] at h1
  have h := law_pair.inj h1 (pair_key hi' hk')
  injection h with h
  have h := congrArg Array.toList h
  simp only [List.cons.injEq, Value.int.injEq, true_and, and_true] at h
  omega
theorem plainElem_bool_inv {H : Type} {v : Value} {z : DataW H × List MemPlace} (h : plainElem Try.prog 4 v = some z) : ∃ x, v = .bool x ∧ z = (.lit (.bool x), []) := by
  unfold plainElem at h
  rw [Try.underlying4] at h
  cases v <;> simp at h
  exact ⟨_, rfl, h.symm⟩
/-- Block b is a map of at most n entries that holds B i k at (i, k) for the pairs that are done. -/
def OwnsPairs (w : World) (b n : Nat) (B : Nat → Nat → Bool) (done : Nat → Nat → Prop) : Prop :=
  ∃ D : DataW Unit, w.ownsMap Try.prog 82 (plainElem Try.prog 4) b n D ∧ ∀ i k, i < k → k ≤ 12 → done i k → ∀ z, D.atKey (pairL i k) z = .lit (.bool (B i k))
/-- All pairs of m places. -/
def PairAt (w : World) (b m : Nat) (B : Nat → Nat → Bool) : Prop := m ≤ 12 ∧ ∃ n, OwnsPairs w b n B (fun _ k => k < m)
theorem OwnsPairs.made (w : World) (B : Nat → Nat → Bool) : OwnsPairs (w.alloc (.map #[] 0)) w.heap.size 0 B (fun _ _ => False) := ⟨_, World.ownsMap_made w _ _ _, fun _ _ _ _ h => h.elim⟩
theorem OwnsPairs.lt {w : World} {b n : Nat} {B : Nat → Nat → Bool} {done : Nat → Nat → Prop} (h : OwnsPairs w b n B done) : b < w.heap.size := by
  obtain ⟨D, h, _⟩ := h
  exact h.lt
theorem OwnsPairs.block {w w' : World} {b n : Nat} {B : Nat → Nat → Bool} {done : Nat → Nat → Prop} (h : OwnsPairs w b n B done) (e : w'.heap[b]? = w.heap[b]?) : OwnsPairs w' b n B done := by
  obtain ⟨D, ⟨es, clock, hb, r⟩, h2⟩ := h
  exact ⟨D, ⟨es, clock, e.trans hb, r⟩, h2⟩
theorem OwnsPairs.below {w w' : World} {b n : Nat} {B : Nat → Nat → Bool} {done : Nat → Nat → Prop} (h : OwnsPairs w b n B done) (hb : Below w.heap.size w w') : OwnsPairs w' b n B done := h.block (hb.block b h.lt)
theorem OwnsPairs.imp {w : World} {b n n' : Nat} {B : Nat → Nat → Bool} {done done' : Nat → Nat → Prop} (h : OwnsPairs w b n B done) (hn : n ≤ n') (hd : ∀ i k, i < k → k ≤ 12 → done' i k → done i k) : OwnsPairs w b n' B done' := by
  obtain ⟨D, h1, h2⟩ := h
  exact ⟨D, h1.mono hn, fun i k hik hk hd' => h2 i k hik hk (hd i k hik hk hd')⟩
theorem PairAt.lt {w : World} {b m : Nat} {B : Nat → Nat → Bool} (h : PairAt w b m B) : b < w.heap.size := by
  obtain ⟨_, n, h⟩ := h
  exact h.lt
theorem PairAt.below {w w' : World} {b m : Nat} {B : Nat → Nat → Bool} (h : PairAt w b m B) (hb : Below w.heap.size w w') : PairAt w' b m B := by
  obtain ⟨hm, n, h⟩ := h
  exact ⟨hm, n, h.below hb⟩
theorem PairAt.keep {ex : Nat → Prop} {w w' : World} {b m : Nat} {B : Nat → Nat → Bool} (h : PairAt w b m B) (hk : KeepX ex w w') (hx : ¬ ex b) : PairAt w' b m B := by
  have hlt := h.lt
  obtain ⟨hm, n, h⟩ := h
  exact ⟨hm, n, h.block (hk.block b hlt hx)⟩
/-- What is read. -/
theorem PairAt.look {w : World} {b m : Nat} {B : Nat → Nat → Bool} (h : PairAt w b m B) {i k : Nat} (hik : i < k) (hk : k < m) :
    (Instr.lookup 62 (.map (some b)) (.agg #[.int .i64 (i : Int), .int .i64 (k : Int)]) false).run Try.prog w = .ok (.bool (B i k)) w := by
  obtain ⟨hm, n, D, hown, hD⟩ := h
  obtain ⟨v, ps, hrun, hv⟩ := hown.lookup law_pair Try.underlying62 (Try.zeroValue4 w) (plainElem_bool Try.underlying4 false) (pair_key (i := i) (k := k) (by omega) (by omega))
  rw [hD i k hik (by omega) hk] at hv
  obtain ⟨x, rfl, hz⟩ := plainElem_bool_inv hv
  have : B i k = x := by injection hz with h1 _; injection h1 with h1; injection h1
  rw [hrun, this]
/-- One pair more. -/
theorem OwnsPairs.put {w : World} {b n : Nat} {B : Nat → Nat → Bool} {done : Nat → Nat → Prop} (h : OwnsPairs w b n B done) (hn : n ≤ 1000000) {i k : Nat} (hik : i < k) (hk : k ≤ 12) {x : Bool} (hx : B i k = x) :
    ∃ w', (Instr.mapUpdate 62 (.map (some b)) (.agg #[.int .i64 (i : Int), .int .i64 (k : Int)]) (.bool x)).run Try.prog w = .ok () w' ∧ OwnsPairs w' b (n + 1) B (fun i' k' => done i' k' ∨ (i' = i ∧ k' = k)) ∧ w.grownBy w' (some b) := by
  obtain ⟨D, hown, hD⟩ := h
  obtain ⟨w', hrun, hown', hg⟩ := hown.update law_pair Try.underlying62 (by unfold maxLen; omega) (pair_key (i := i) (k := k) (by omega) (by omega)) (plainElem_bool Try.underlying4 x)
  refine ⟨w', hrun, ⟨_, hown', fun i' k' hik' hk' hd z => ?_⟩, hg⟩
  by_cases e : i' = i ∧ k' = k
  · obtain ⟨rfl, rfl⟩ := e
    rw [atKey_put_same hown.isMap (pairL_lit _ _), hx]
  · have hne : pairL i' k' ≠ pairL i k := fun e' => e (pairL_inj (by omega) (by omega) (by omega) (by omega) e')
    rw [atKey_put_other hne]
    rcases hd with hd | hd
    · exact hD i' k' hik' hk' hd z
    · exact absurd hd e
/-- The store, for a walk. -/
theorem wpList_put_pair {ops : Array Oper} {rest : List Oper} {o : Oper} {a : Act} {Q : Exit → Act → World → Prop} (w : World) (hg : o.guard = none) (mo xo vo : Operand) (hop : o.op = Op.mapUpdate 62 mo xo vo)
    {b n : Nat} {B : Nat → Nat → Bool} {done : Nat → Nat → Prop} (h : OwnsPairs w b n B done) (hn : n ≤ 1000000) {i k : Nat} (hik : i < k) (hk : k ≤ 12) {x : Bool} (hx : B i k = x)
    (hm : a.eval mo = .map (some b)) (hxk : a.eval xo = .agg #[.int .i64 (i : Int), .int .i64 (k : Int)]) (hv : a.eval vo = .bool x)
    (hK : ∀ w', OwnsPairs w' b (n + 1) B (fun i' k' => done i' k' ∨ (i' = i ∧ k' = k)) → w.grownBy w' (some b) → wpList Try.prog ops Q rest (a.put o.dst undef) w') :
    wpList Try.prog ops Q (o :: rest) a w := by
  refine wpList_plain hg fun K' hK' => ?_
  obtain ⟨w', hrun, r1, r2⟩ := h.put hn hik hk hx
  unfold Oper.wp
  simp [execOp, hop, hm, hxk, hv, hrun, Result.andThen]
  exact hK' _ _ (hK w' r1 r2)
end Go.Proofs.Ytfofbnpgjdagkaa
