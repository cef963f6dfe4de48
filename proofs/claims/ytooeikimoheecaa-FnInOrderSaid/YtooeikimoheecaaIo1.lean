
/- What InOrderLaw rests on, part 1: contracts and mathematics. -/
import Derived.Test.YtooeikimoheecaaIo0
namespace Go.Proofs.Ytooeikimoheecaa
open Go.RowKit
theorem and_mask (x : Int) (m : Nat) (hm : m ≤ 4611686018427387904) : 0 ≤ bits .and .i64 x (m : Int) ∧ bits .and .i64 x (m : Int) ≤ m := by
  have e : (BitVec.ofInt 64 (m : Int)).toNat = m := by
    rw [BitVec.ofInt_natCast, BitVec.toNat_ofNat]; exact Nat.mod_eq_of_lt (by omega)
  have h : (BitVec.ofInt 64 x &&& BitVec.ofInt 64 (m : Int)).toNat ≤ m := by
    rw [BitVec.toNat_and, e]; exact Nat.and_le_right
  show 0 ≤ IntKind.i64.wrap ((BitVec.ofInt 64 x &&& BitVec.ofInt 64 (m : Int)).toNat : Int) ∧ IntKind.i64.wrap ((BitVec.ofInt 64 x &&& BitVec.ofInt 64 (m : Int)).toNat : Int) ≤ m
  rw [IntKind.wrap_i64]
  omega
theorem and_255 (x : Int) : 0 ≤ bits .and .i64 x 255 ∧ bits .and .i64 x 255 ≤ 255 := and_mask x 255 (by omega)
def top30 : Int := 1073741823
theorem and_30 (x : Int) : 0 ≤ bits .and .i64 x 1073741823 ∧ bits .and .i64 x 1073741823 ≤ top30 := by
  have h := and_mask x 1073741823 (by omega)
  simp only [Int.cast_ofNat_Int] at h
  exact h
/-- The cursor's block: the bytes, how many are spent, a number. -/
def CurAt (w : World) (p : Nat) (A : Option Addr) (n c : Nat) (i h : Int) : Prop := w.heap[p]? = some (.cells #[.slice A n c, .int .i64 i, .int .i64 h] 134 (0, 0))
/-- The bytes lie elsewhere: they lay there before the cursor. -/
def BytesAt (w : World) (p : Nat) (A : Option Addr) (n : Nat) : Prop :=
  n ≤ 1048576 ∧ (0 < n → ∃ g o, A = some ⟨g, o, none⟩ ∧ g < p ∧ ∀ j, j < n → ∃ x : Int, 0 ≤ x ∧ x ≤ 255 ∧ w.cell? ⟨g, o + j, none⟩ = some (.int .u8 x))
def Cursor (w : World) (p : Nat) : Prop := ∃ A n c i h, CurAt w p A n c i h ∧ 0 ≤ i ∧ i ≤ (n : Int) ∧ BytesAt w p A n
/-- What a draw below lim leaves. -/
def Draws (p : Nat) (lim : Int) (w : World) (e : Ending) (w' : World) : Prop := ∃ x : Int, e = .returned (.int .i64 x) ∧ 0 ≤ x ∧ x < lim ∧ Cursor w' p ∧ w.grownBy w' (some p)
theorem CurAt.cell {w : World} {p : Nat} {A : Option Addr} {n c : Nat} {i h : Int} (hc : CurAt w p A n c i h) (j : Nat) : w.cell? ⟨p, j, none⟩ = (#[Value.slice A n c, .int .i64 i, .int .i64 h] : Array Value)[j]? := cell_of_row w p j _ _ (0, 0) hc
theorem CurAt.unfrozen {w : World} {p : Nat} {A : Option Addr} {n c : Nat} {i h : Int} (hc : CurAt w p A n c i h) (j : Nat) : w.frozen? ⟨p, j, none⟩ = false := by
  unfold CurAt at hc
  simp [World.frozen?, hc]
theorem CurAt.lt {w : World} {p : Nat} {A : Option Addr} {n c : Nat} {i h : Int} (hc : CurAt w p A n c i h) : p < w.heap.size := by
  rcases Nat.lt_or_ge p w.heap.size with hlt | hge
  · exact hlt
  · unfold CurAt at hc; rw [Array.getElem?_eq_none hge] at hc; cases hc
theorem CurAt.set1 {w : World} {p : Nat} {A : Option Addr} {n c : Nat} {i h : Int} (hc : CurAt w p A n c i h) (i' : Int) : CurAt (w.setCell ⟨p, 1, none⟩ (.int .i64 i')) p A n c i' h := by
  unfold CurAt at hc ⊢
  simp [World.setCell, Array.getElem?_modify, hc]
theorem CurAt.set2 {w : World} {p : Nat} {A : Option Addr} {n c : Nat} {i h : Int} (hc : CurAt w p A n c i h) (h' : Int) : CurAt (w.setCell ⟨p, 2, none⟩ (.int .i64 h')) p A n c i h' := by
  unfold CurAt at hc ⊢
  simp [World.setCell, Array.getElem?_modify, hc]
theorem CurAt.drewN {w : World} {p : Nat} {A : Option Addr} {n c : Nat} {i h : Int} (hc : CurAt w p A n c i h) (k : Nat) : CurAt (w.drewN k) p A n c i h := hc
theorem grown_setP {a w : World} {p j : Nat} (h : a.grownBy w (some p)) (u : Value) : a.grownBy (w.setCell ⟨p, j, none⟩ u) (some p) :=
  ⟨h.os, h.tape, h.output, by simpa [World.setCell] using h.size, fun i hi hne => (Below.heap_setCell w _ u i (by rintro rfl; exact hne rfl)).trans (h.block i hi hne)⟩
theorem grown_drewN {a w : World} {row : Option Nat} (h : a.grownBy w row) (n : Nat) : a.grownBy (w.drewN n) row := ⟨h.os, h.tape, h.output, h.size, h.block⟩
theorem grown_trans {a b c : World} {row : Option Nat} (h : a.grownBy b row) (k : b.grownBy c row) : a.grownBy c row :=
  ⟨k.os.trans h.os, k.tape.trans h.tape, k.output.trans h.output, Nat.le_trans h.size k.size, fun i hi hn => (k.block i (Nat.lt_of_lt_of_le hi h.size) hn).trans (h.block i hi hn)⟩
theorem BytesAt.grown {w w' : World} {p : Nat} {A : Option Addr} {n : Nat} (h : BytesAt w p A n) (hg : w.grownBy w' (some p)) : BytesAt w' p A n := by
  refine ⟨h.1, fun h0 => ?_⟩
  obtain ⟨g, o, rfl, hne, hx⟩ := h.2 h0
  refine ⟨g, o, rfl, hne, fun j hj => ?_⟩
  obtain ⟨x, x0, x1, hc⟩ := hx j hj
  exact ⟨x, x0, x1, hg.cell hc (fun e => Nat.ne_of_lt hne (Option.some.inj e))⟩
/-- A cursor stays one while its own block and its bytes stay. -/
theorem Cursor.below {w w' : World} {p : Nat} (h : Cursor w p) (hb : Below w.heap.size w w') : Cursor w' p := by
  obtain ⟨A, n, c, i, q, hc, h0, h1, hB⟩ := h
  refine ⟨A, n, c, i, q, (hb.block p hc.lt).trans hc, h0, h1, hB.1, fun hn => ?_⟩
  obtain ⟨g, o, rfl, hne, hx⟩ := hB.2 hn
  refine ⟨g, o, rfl, hne, fun j hj => ?_⟩
  obtain ⟨x, x0, x1, hc⟩ := hx j hj
  exact ⟨x, x0, x1, (hb.cell (World.block_lt_of_cell? w _ hc)).trans hc⟩
set_option maxHeartbeats 2000000 in
theorem l01Byte_any (p : Nat) (w : World) (hcur : Cursor w p) :
    Calls Try.prog 52 #[.pointer (some ⟨p, 0, none⟩)] w (Draws p 256 w) := by
  obtain ⟨A, n, c, i, h, hc, hi0, hi1, hB⟩ := hcur
  have h0 : w.cell? ⟨p, 0, none⟩ = some (.slice A n c) := hc.cell 0
  have h1 : w.cell? ⟨p, 1, none⟩ = some (.int .i64 i) := hc.cell 1
  have h2 : w.cell? ⟨p, 2, none⟩ = some (.int .i64 h) := hc.cell 2
  have f1 := hc.unfrozen 1
  have f2 := hc.unfrozen 2
  have hn := hB.1
  have HC := Lib.hid hc
  have HB := Lib.hid hB
  clear hc hB
  by_cases hlt : i < (n : Int)
  · obtain ⟨g, o, rfl, hne, hx⟩ := HB.out.2 (by omega)
    obtain ⟨k, rfl⟩ : ∃ k : Nat, i = (k : Int) := ⟨i.toNat, by omega⟩
    obtain ⟨x, x0, x1, hcell⟩ := hx k (by omega)
    have HX := Lib.hid hx
    clear hx
    go_enter Try.func52, Try.ntmps52
    go_wp2
    go_quiet (fail)
    go_wp2
    obtain ⟨y, hy⟩ : ∃ y, bits .and .i64 (bits .xor .i64 (wrap64 (wrap64 (h * 6364136223846793005) + 1442695040888963407) / 8589934592) (wrap64 (wrap64 (h * 6364136223846793005) + 1442695040888963407) / 35184372088832)) 255 = y := ⟨_, rfl⟩
    have hyb := and_255 (bits .xor .i64 (wrap64 (wrap64 (h * 6364136223846793005) + 1442695040888963407) / 8589934592) (wrap64 (wrap64 (h * 6364136223846793005) + 1442695040888963407) / 35184372088832))
    rw [hy] at hyb ⊢
    clear hy
    obtain ⟨hy0, hy1⟩ := hyb
    go_quiet (fail)
    go_wp2
    have hw : IntKind.i64.wrap (y + x) = y + x := IntWalk.i64_in _ (by omega)
    go_quiet (fail)
    clear hw
    go_wp2
    go_ret
    obtain ⟨hz0, hz1⟩ := and_255 (y + x)
    refine ⟨bits .and .i64 (y + x) 255, rfl, hz0, by omega, ?_⟩
    have hg : ∀ m : Nat, w.grownBy (((w.setCell ⟨p, 2, none⟩ (.int .i64 (wrap64 (wrap64 (h * 6364136223846793005) + 1442695040888963407)))).setCell ⟨p, 1, none⟩ (.int .i64 ((k : Int) + 1))).drewN m) (some p) := fun m => grown_drewN (grown_setP (grown_setP (World.grownBy.refl _ _) _) _) m
    exact ⟨⟨_, n, c, (k : Int) + 1, _, ((HC.out.set2 _).set1 _).drewN _, by omega, by omega, HB.out.grown (hg _)⟩, hg _⟩
  · have hge : (n : Int) ≤ i := by omega
    go_enter Try.func52, Try.ntmps52
    go_wp2
    go_quiet (fail)
    go_wp2
    obtain ⟨y, hy⟩ : ∃ y, bits .and .i64 (bits .xor .i64 (wrap64 (wrap64 (h * 6364136223846793005) + 1442695040888963407) / 8589934592) (wrap64 (wrap64 (h * 6364136223846793005) + 1442695040888963407) / 35184372088832)) 255 = y := ⟨_, rfl⟩
    have hyb := and_255 (bits .xor .i64 (wrap64 (wrap64 (h * 6364136223846793005) + 1442695040888963407) / 8589934592) (wrap64 (wrap64 (h * 6364136223846793005) + 1442695040888963407) / 35184372088832))
    rw [hy] at hyb ⊢
    clear hy
    obtain ⟨hy0, hy1⟩ := hyb
    go_quiet (fail)
    go_wp2
    go_ret
    refine ⟨y, rfl, hy0, by omega, ?_⟩
    have hg : ∀ m : Nat, w.grownBy ((w.setCell ⟨p, 2, none⟩ (.int .i64 (wrap64 (wrap64 (h * 6364136223846793005) + 1442695040888963407)))).drewN m) (some p) := fun m => grown_drewN (grown_setP (World.grownBy.refl _ _) _) m
    exact ⟨⟨A, n, c, i, _, ((HC.out.set2 _).drewN _).drewN _, hi0, hi1, HB.out.grown (grown_drewN (hg _) _)⟩, grown_drewN (hg _) _⟩
/-- A draw below n, for n from 1 to 1000000. -/
theorem l01Below_any (p : Nat) (n : Int) (w : World) (h0 : 0 < n) (h1 : n ≤ 1000000) (hcur : Cursor w p) :
    Calls Try.prog 43 #[.pointer (some ⟨p, 0, none⟩), .int .i64 n] w (Draws p n w) := by
  by_cases hs : n ≤ 256
  · have C := Lib.hid (l01Byte_any p w hcur)
    clear hcur
    go_enter Try.func43, Try.ntmps43
    go_wp2_with fail
    refine C.out.mono ?_
    rintro e w1 ⟨x, rfl, x0, x1, hc1, hg1⟩
    have HC := Lib.hid hc1
    have HG := Lib.hid hg1
    clear hc1 hg1
    go_wp2
    go_ret
    exact ⟨x % n, rfl, Int.emod_nonneg _ (by omega), Int.emod_lt_of_pos _ h0, HC.out, HG.out⟩
  · have HC := Lib.hid hcur
    clear hcur
    go_enter Try.func43, Try.ntmps43
    go_wp2_with fail
    refine (l01Byte_any p w HC.out).mono ?_
    rintro e w1 ⟨x, rfl, x0, x1, hc1, hg1⟩
    have HC1 := Lib.hid hc1
    have HG1 := Lib.hid hg1
    clear hc1 hg1
    go_wp2_with fail
    refine (l01Byte_any p w1 HC1.out).mono ?_
    rintro e w2 ⟨y, rfl, y0, y1, hc2, hg2⟩
    have HC2 := Lib.hid hc2
    have HG2 := Lib.hid (grown_trans HG1.out hg2)
    clear hc2 hg2
    go_wp2_with fail
    refine (l01Byte_any p w2 HC2.out).mono ?_
    rintro e w3 ⟨z, rfl, z0, z1, hc3, hg3⟩
    have HC3 := Lib.hid hc3
    have HG3 := Lib.hid (grown_trans HG2.out hg3)
    clear hc3 hg3
    go_wp2_with fail
    refine (l01Byte_any p w3 HC3.out).mono ?_
    rintro e w4 ⟨u, rfl, u0, u1, hc4, hg4⟩
    have HC4 := Lib.hid hc4
    have HG4 := Lib.hid (grown_trans HG3.out hg4)
    clear hc4 hg4
    go_wp2
    go_ret
    exact ⟨(x * 16777216 + y * 65536 + z * 256 + u) % n, rfl, Int.emod_nonneg _ (by omega), Int.emod_lt_of_pos _ h0, HC4.out, HG4.out⟩
/-- Bytes that came in. -/
def CodeAt (w : World) (A : Option Addr) (n : Nat) : Prop :=
  n ≤ 1048576 ∧ (0 < n → ∃ g o, A = some ⟨g, o, none⟩ ∧ g < w.heap.size ∧ ∀ j, j < n → ∃ x : Int, 0 ≤ x ∧ x ≤ 255 ∧ w.cell? ⟨g, o + j, none⟩ = some (.int .u8 x))
theorem CodeAt.below {w w' : World} {A : Option Addr} {n : Nat} (h : CodeAt w A n) (hb : Below w.heap.size w w') : CodeAt w' A n := by
  refine ⟨h.1, fun hn => ?_⟩
  obtain ⟨g, o, rfl, hlt, hx⟩ := h.2 hn
  refine ⟨g, o, rfl, Nat.lt_of_lt_of_le hlt hb.size, fun j hj => ?_⟩
  obtain ⟨x, x0, x1, hc⟩ := hx j hj
  exact ⟨x, x0, x1, (hb.cell (World.block_lt_of_cell? w _ hc)).trans hc⟩
theorem CodeAt.cursor {w : World} {A : Option Addr} {n : Nat} (h : CodeAt w A n) (c : Nat) (q : Int) : Cursor (w.alloc (.cells #[.slice A n c, .int .i64 0, .int .i64 q] 134)) w.heap.size := by
  refine ⟨A, n, c, 0, q, heap_alloc_new w _, Int.le_refl _, by omega, h.1, fun hn => ?_⟩
  obtain ⟨g, o, rfl, hlt, hx⟩ := h.2 hn
  refine ⟨g, o, rfl, by omega, fun j hj => ?_⟩
  obtain ⟨x, x0, x1, hc⟩ := hx j hj
  exact ⟨x, x0, x1, (World.cell?_alloc_lt w _ _ hlt).trans hc⟩
/-- A new cursor. -/
def NewCursor (w : World) (e : Ending) (w' : World) : Prop := ∃ p, e = .returned (.pointer (some ⟨p, 0, none⟩)) ∧ w.heap.size ≤ p ∧ Cursor w' p ∧ Below w.heap.size w w'
set_option maxHeartbeats 2000000 in
set_option maxRecDepth 100000 in
theorem l01New_any (A : Option Addr) (n c : Nat) (w : World) (hcode : CodeAt w A n) :
    Calls Try.prog 40 #[.slice A n c] w (NewCursor w) := by
  have HC := Lib.hid hcode
  have hn := hcode.1
  clear hcode
  go_enter Try.func40, Try.ntmps40
  go_wp2
  go_loop [3, 4] (fun q i => ∃ (k : Nat) (h : Int), k ≤ n ∧ 0 ≤ h ∧ h ≤ 1073741823 ∧ i = .int .i64 k ∧ q = .int .i64 h) (fun _ i => n - (intOf i).toNat)
  case atStart => exact ⟨0, _, Nat.zero_le _, by omega, by omega, rfl, rfl⟩
  case round =>
    obtain ⟨k, h, hk, h0, h1, rfl, rfl⟩ := hrel
    by_cases hlt : k < n
    · by_cases h4 : k < 4000
      · obtain ⟨g, o, rfl, hgl, hx⟩ := HC.out.2 (by omega)
        obtain ⟨x, x0, x1, hcell⟩ := hx k hlt
        have HX := Lib.hid hx
        clear hx
        go_wp2
        go_round
        case rel =>
          obtain ⟨hm0, hm1⟩ := and_30 (h * 79 + x + 7)
          unfold top30 at hm1
          exact ⟨k + 1, _, by omega, hm0, hm1, by go_num, rfl⟩
        case measure => simp [intOf]; omega
      · have hd : decide ((k : Int) < 4000) = false := decide_eq_false (by omega)
        go_wp2
        go_ret
        exact ⟨w.heap.size, rfl, Nat.le_refl _, HC.out.cursor c h, (Below.refl _ _).alloc (Nat.le_refl _) _⟩
    · go_wp2
      go_ret
      exact ⟨w.heap.size, rfl, Nat.le_refl _, HC.out.cursor c h, (Below.refl _ _).alloc (Nat.le_refl _) _⟩
theorem below_of_grown {B : Nat} {a w w' : World} {p : Nat} (h : Below B a w) (hg : w.grownBy w' (some p)) (hB : B ≤ w.heap.size) (hp : B ≤ p) : Below B a w' :=
  h.grown hg hB (fun k e => by rw [← Option.some.inj e]; exact hp)
set_option maxHeartbeats 1000000 in
theorem l28New_any (A : Option Addr) (n c : Nat) (m : Int) (w : World) (hcode : CodeAt w A n) (hm : m ≤ 1000000) :
    Calls Try.prog 51 #[.slice A n c, .int .i64 m] w (NewCursor w) := by
  have C := Lib.hid (l01New_any A n c w hcode)
  clear hcode
  go_enter Try.func51, Try.ntmps51
  go_wp2_with fail
  refine C.out.mono ?_
  rintro e w1 ⟨p, rfl, hp, hcur, hb⟩
  have HC := Lib.hid hcur
  clear hcur
  go_wp2
  go_loopw [6] (fun i wr => ∃ k : Nat, (k : Int) ≤ 1000000 ∧ i = .int .i64 k ∧ Hid (Cursor wr p) ∧ Below w.heap.size w wr) (fun i _ => 1000001 - (intOf i).toNat)
  case atStart => exact ⟨0, by omega, rfl, HC, hb⟩
  case round =>
    obtain ⟨k, hk, rfl, hcu, hbr⟩ := hrel
    have hbs := hbr.size
    by_cases hlt : (k : Int) < m
    · go_wp2_with (go_at_call 52; refine (l01Byte_any p _ hcu.out).mono ?_; rintro e w2 ⟨x, rfl, x0, x1, hc2, hg2⟩; have HC2 := Lib.hid hc2; have HB2 := Lib.hid (below_of_grown hbr hg2 hbs hp); clear hc2 hg2)
      go_roundw
      case rel => exact ⟨k + 1, by omega, by go_num, HC2, HB2.out⟩
      case measure => simp [intOf]; omega
    · go_wp2
      go_ret
      exact ⟨p, rfl, hp, hcu.out, hbr⟩
/-- A number from 0 up to lim, out of new memory alone. -/
def NewNum (lim : Int) (w : World) (e : Ending) (w' : World) : Prop := ∃ x : Int, e = .returned (.int .i64 x) ∧ 0 ≤ x ∧ x < lim ∧ Below w.heap.size w w'
set_option maxHeartbeats 1000000 in
theorem makeNum_any (A : Option Addr) (n c : Nat) (m : Int) (w : World) (hcode : CodeAt w A n) (hm : m ≤ 1000000) :
    Calls Try.prog 11 #[.slice A n c, .int .i64 m] w (NewNum 65536 w) := by
  have C := Lib.hid (l28New_any A n c m w hcode hm)
  clear hcode
  go_enter Try.func11, Try.ntmps11
  go_wp2_with fail
  refine C.out.mono ?_
  rintro e w1 ⟨p, rfl, hp, hcur, hb⟩
  have HC := Lib.hid hcur
  have hbs := hb.size
  clear hcur
  go_wp2_with fail
  refine (l01Byte_any p _ HC.out).mono ?_
  rintro e w2 ⟨x, rfl, x0, x1, hc2, hg2⟩
  have HC2 := Lib.hid hc2
  have hB2 := below_of_grown hb hg2 hbs hp
  have hbs2 := hB2.size
  clear hc2 hg2
  go_wp2_with fail
  refine (l01Byte_any p _ HC2.out).mono ?_
  rintro e w3 ⟨y, rfl, y0, y1, hc3, hg3⟩
  have hB3 := below_of_grown hB2 hg3 hbs2 hp
  clear hc3 hg3
  go_wp2
  go_ret
  exact ⟨x * 256 + y, rfl, by omega, by omega, hB3⟩
end Go.Proofs.Ytooeikimoheecaa
namespace Go.Proofs.Ytooeikimoheecaa
open Go.RowKit
/-- A block that is known whole, and may be written. -/
def Blk (w : World) (b : Nat) (cs : Array Value) (t : TypeId) : Prop := w.heap[b]? = some (.cells cs t (0, 0))
theorem Blk.new (w : World) (cs : Array Value) (t : TypeId) : Blk (w.alloc (.cells cs t)) w.heap.size cs t := heap_alloc_new w _
theorem Blk.newAt {w : World} {b : Nat} (h : b = w.heap.size) (cs : Array Value) (t : TypeId) : Blk (w.alloc (.cells cs t)) b cs t := by subst h; exact Blk.new w cs t
theorem Blk.lt {w : World} {b : Nat} {cs : Array Value} {t : TypeId} (h : Blk w b cs t) : b < w.heap.size := by
  rcases Nat.lt_or_ge b w.heap.size with hlt | hge
  · exact hlt
  · unfold Blk at h; rw [Array.getElem?_eq_none hge] at h; cases h
theorem Blk.grown {w w' : World} {b : Nat} {cs : Array Value} {t : TypeId} {row : Option Nat} (h : Blk w b cs t) (hg : w.grownBy w' row) (hne : some b ≠ row) : Blk w' b cs t := (hg.block b h.lt hne).trans h
theorem Blk.below {w w' : World} {b : Nat} {cs : Array Value} {t : TypeId} (h : Blk w b cs t) (hb : Below w.heap.size w w') : Blk w' b cs t := (hb.block b h.lt).trans h
theorem Blk.cell {w : World} {b : Nat} {cs : Array Value} {t : TypeId} (h : Blk w b cs t) (i : Nat) : w.cell? ⟨b, i, none⟩ = cs[i]? := Joins.cell_of_block h i
theorem Blk.free {w : World} {b : Nat} {cs : Array Value} {t : TypeId} (h : Blk w b cs t) (i : Nat) : w.frozen? ⟨b, i, none⟩ = false := Joins.unfrozen_of_block h i
theorem Blk.set {w : World} {b : Nat} {cs : Array Value} {t : TypeId} (h : Blk w b cs t) (j : Nat) (u : Value) : Blk (w.setCell ⟨b, j, none⟩ u) b (cs.setIfInBounds j u) t := Joins.block_setCell h u
theorem Blk.other {w : World} {b : Nat} {cs : Array Value} {t : TypeId} (h : Blk w b cs t) {b' : Nat} (hne : b ≠ b') (j : Nat) (u : Value) : Blk (w.setCell ⟨b', j, none⟩ u) b cs t := (Below.heap_setCell w ⟨b', j, none⟩ u b hne).trans h
theorem Blk.drewN {w : World} {b : Nat} {cs : Array Value} {t : TypeId} (h : Blk w b cs t) (n : Nat) : Blk (w.drewN n) b cs t := h
theorem Blk.drew {w : World} {b : Nat} {cs : Array Value} {t : TypeId} (h : Blk w b cs t) : Blk w.drew b cs t := h
end Go.Proofs.Ytooeikimoheecaa
namespace Go.Proofs.Ytooeikimoheecaa
open Go.RowKit
def perB (p : Int) : Bool := decide (4 ≤ p ∧ p ≤ 2880 ∧ p % 4 = 0)
def crest (x h : Int) : Int := 40000 * x * (h - x) / (h * h)
def waveI (n p : Int) : Int := if perB p = true then (if n % p < p / 2 then crest (n % p) (p / 2) else -crest (n % p - p / 2) (p / 2)) else 0
theorem perB_true {p : Int} (h : perB p = true) : 4 ≤ p ∧ p ≤ 2880 ∧ p % 4 = 0 := of_decide_eq_true h
theorem perB_mk {p : Int} (h : 4 ≤ p ∧ p ≤ 2880 ∧ p % 4 = 0) : perB p = true := decide_eq_true h
theorem perB_no {p : Int} (h : ¬ (4 ≤ p ∧ p ≤ 2880 ∧ p % 4 = 0)) : perB p = false := decide_eq_false h
theorem crest_num {x h : Int} (h0 : 0 ≤ x) (h1 : x ≤ h) (h2 : h ≤ 1440) : 0 ≤ 40000 * x * (h - x) ∧ 40000 * x * (h - x) ≤ 82944000000 := by
  have a : 0 ≤ x * (h - x) := Int.mul_nonneg h0 (by omega)
  have b : x * (h - x) ≤ 1440 * 1440 := Int.mul_le_mul (by omega) (by omega) (by omega) (by omega)
  have e : 40000 * x * (h - x) = 40000 * (x * (h - x)) := Int.mul_assoc _ _ _
  rw [e]; omega
theorem crest_den {h : Int} (h0 : 1 ≤ h) (h2 : h ≤ 1440) : 1 ≤ h * h ∧ h * h ≤ 2073600 := by
  have a : 1 * 1 ≤ h * h := Int.mul_le_mul h0 h0 (by omega) (by omega)
  have b : h * h ≤ 1440 * 1440 := Int.mul_le_mul h2 h2 (by omega) (by omega)
  omega
/-- 4 x (h - x) is at most h * h. -/
theorem crest_le {x h : Int} (h0 : 1 ≤ h) (x0 : 0 ≤ x) (x1 : x ≤ h) : 0 ≤ crest x h ∧ crest x h ≤ 10000 := by
  have hp : 0 < h * h := Int.mul_pos (by omega) (by omega)
  unfold crest
  refine ⟨Int.ediv_nonneg (Int.mul_nonneg (by omega) (by omega)) (Int.le_of_lt hp), ?_⟩
  refine Int.ediv_le_of_le_mul hp ?_
  have sq : 0 ≤ (h - 2 * x) * (h - 2 * x) := by
    rcases Int.le_total 0 (h - 2 * x) with g | g
    · exact Int.mul_nonneg g g
    · have := Int.mul_nonneg (a := -(h - 2 * x)) (b := -(h - 2 * x)) (by omega) (by omega)
      rwa [Int.neg_mul_neg] at this
  have e1 : (h - 2 * x) * (h - 2 * x) = h * h - 4 * (x * (h - x)) := by
    simp only [Int.mul_sub, Int.sub_mul]
    have c1 : h * (2 * x) = 2 * (x * h) := by rw [Int.mul_left_comm, Int.mul_comm h x]
    have c2 : 2 * x * h = 2 * (x * h) := Int.mul_assoc _ _ _
    have c3 : 2 * x * (2 * x) = 4 * (x * x) := by rw [Int.mul_assoc, Int.mul_left_comm x 2 x]; omega
    rw [c1, c2, c3]; omega
  have e2 : 40000 * x * (h - x) = 40000 * (x * (h - x)) := Int.mul_assoc _ _ _
  rw [e2]
  omega
theorem waveI_no {n p : Int} (h : perB p = false) : waveI n p = 0 := by unfold waveI; rw [h]; rfl
theorem waveI_up {n p : Int} (h : perB p = true) (hx : n % p < p / 2) : waveI n p = crest (n % p) (p / 2) := by unfold waveI; rw [if_pos h, if_pos hx]
theorem waveI_down {n p : Int} (h : perB p = true) (hx : ¬ n % p < p / 2) : waveI n p = -crest (n % p - p / 2) (p / 2) := by unfold waveI; rw [if_pos h, if_neg hx]
theorem waveI_le (n p : Int) : -10000 ≤ waveI n p ∧ waveI n p ≤ 10000 := by
  cases h : perB p with
  | false => rw [waveI_no h]; omega
  | true =>
    obtain ⟨a, b, c⟩ := perB_true h
    have m0 := Int.emod_nonneg n (b := p) (by omega)
    have m1 := Int.emod_lt_of_pos n (b := p) (by omega)
    by_cases hx : n % p < p / 2
    · rw [waveI_up h hx]
      have := crest_le (x := n % p) (h := p / 2) (by omega) m0 (by omega)
      omega
    · rw [waveI_down h hx]
      have := crest_le (x := n % p - p / 2) (h := p / 2) (by omega) (by omega) (by omega)
      omega
theorem tmod_neg {n p : Int} (hp : 0 < p) (h : n.tmod p < 0) : n.tmod p + p = n % p := by
  rcases Int.le_total 0 n with g | g
  · rw [Int.tmod_eq_emod_of_nonneg g] at h
    have := Int.emod_nonneg n (b := p) (by omega)
    omega
  · have m0 := Int.emod_nonneg n (b := p) (by omega)
    have m1 := Int.emod_lt_of_pos n (b := p) hp
    have t0 := Int.tmod_add_mul_tdiv n p
    have e0 := Int.emod_add_mul_ediv n p
    have tb : -p < n.tmod p := by
      have := Int.lt_tmod_of_pos n hp
      omega
    have hm : (n.tmod p + p) % p = n.tmod p + p := Int.emod_eq_of_lt (by omega) (by omega)
    rw [← hm, Int.add_emod_right]
    have : n % p = (n.tmod p + p * n.tdiv p) % p := by rw [t0]
    rw [this, Int.add_mul_emod_self_left]
theorem tmod_pos {n p : Int} (hp : 0 < p) (h : ¬ n.tmod p < 0) : n.tmod p = n % p := by
  have t0 := Int.tmod_add_mul_tdiv n p
  have tb := Int.tmod_lt_of_pos n hp
  have hm : (n.tmod p) % p = n.tmod p := Int.emod_eq_of_lt (by omega) (by omega)
  rw [← hm]
  have : n % p = (n.tmod p + p * n.tdiv p) % p := by rw [t0]
  rw [this, Int.add_mul_emod_self_left]
theorem isPeriod_any (p : Int) (w : World) : Calls Try.prog 154 #[.int .i64 p] w fun e w' => e = .returned (.bool (perB p)) ∧ w = w' := by
  by_cases h1 : 4 ≤ p
  · by_cases h2 : p ≤ 2880
    · by_cases h3 : p % 4 = 0
      · have H := Lib.hid (perB_mk ⟨h1, h2, h3⟩)
        have h4 : (p % 4 == 0) = true := by simpa using h3
        clear h3
        go_enter Try.func154, Try.ntmps154
        go_wp2
        go_ret
        exact ⟨ret_bool H.out.symm, rfl⟩
      · have H := Lib.hid (perB_no (p := p) (by omega))
        have h4 : (p % 4 == 0) = false := by simpa using h3
        clear h3
        go_enter Try.func154, Try.ntmps154
        go_wp2
        go_ret
        exact ⟨ret_bool H.out.symm, rfl⟩
    · have H := Lib.hid (perB_no (p := p) (by omega))
      have h4 : decide (p ≤ 2880) = false := decide_eq_false h2
      go_enter Try.func154, Try.ntmps154
      go_wp2
      go_ret
      exact ⟨ret_bool H.out.symm, rfl⟩
  · have H := Lib.hid (perB_no (p := p) (by omega))
    have h4 : decide (4 ≤ p) = false := decide_eq_false h1
    go_enter Try.func154, Try.ntmps154
    go_wp2
    go_ret
    exact ⟨ret_bool H.out.symm, rfl⟩
theorem remainder_any (n p : Int) (w : World) (h0 : 0 < p) (h1 : p ≤ 2880) : Calls Try.prog 158 #[.int .i64 n, .int .i64 p] w fun e w' => e = .returned (.int .i64 (n % p)) ∧ w = w' := by
  have b0 := Int.tmod_lt_of_pos n h0
  have b1 := Int.lt_tmod_of_pos n h0
  have hz : p ≠ 0 := by omega
  by_cases hs : n.tmod p < 0
  · have H := Lib.hid (tmod_neg h0 hs)
    go_enter Try.func158, Try.ntmps158
    go_wp2
    go_ret
    exact ⟨ret_int H.out, rfl⟩
  · have H := Lib.hid (tmod_pos h0 hs)
    go_enter Try.func158, Try.ntmps158
    go_wp2
    go_ret
    exact ⟨ret_int H.out, rfl⟩
theorem waveCrest_any (x h : Int) (w : World) (h0 : 1 ≤ h) (h1 : h ≤ 1440) (x0 : 0 ≤ x) (x1 : x ≤ h) : Calls Try.prog 159 #[.int .i64 x, .int .i64 h] w fun e w' => e = .returned (.int .i64 (crest x h)) ∧ w = w' := by
  obtain ⟨a0, a1⟩ := crest_num x0 x1 h1
  obtain ⟨d0, d1⟩ := crest_den h0 h1
  go_enter Try.func159, Try.ntmps159
  go_wp2
  go_ret
  exact ⟨rfl, rfl⟩
theorem implWave (n p : Int) (w : World) : Calls Try.prog 157 #[.int .i64 n, .int .i64 p] w fun e w' => e = .returned (.int .i64 (waveI n p)) ∧ w = w' := by
  cases hp : perB p with
  | false =>
    have H := Lib.hid (waveI_no (n := n) hp)
    have C := Lib.hid (isPeriod_any p w)
    rw [hp] at C
    clear hp
    go_enter Try.func157, Try.ntmps157
    go_wp2_with fail
    refine C.out.mono ?_
    rintro e w1 ⟨rfl, rfl⟩
    go_wp2
    go_ret
    exact ⟨ret_int H.out.symm, rfl⟩
  | true =>
    obtain ⟨p0, p1, p2⟩ := perB_true hp
    have C := Lib.hid (isPeriod_any p w)
    rw [hp] at C
    have HP := Lib.hid hp
    have HQ := Lib.hid p2
    have m0 := Int.emod_nonneg n (b := p) (by omega)
    have m1 := Int.emod_lt_of_pos n (b := p) (by omega)
    clear hp p2
    by_cases hx : n % p < p / 2
    · have H := Lib.hid (waveI_up HP.out hx)
      go_enter Try.func157, Try.ntmps157
      go_wp2_with fail
      refine C.out.mono ?_
      rintro e w1 ⟨rfl, rfl⟩
      go_wp2_with fail
      refine (remainder_any n p _ (by omega) p1).mono ?_
      rintro e w1 ⟨rfl, rfl⟩
      go_wp2_with fail
      refine (waveCrest_any _ _ _ (by omega) (by omega) m0 (by omega)).mono ?_
      rintro e w1 ⟨rfl, rfl⟩
      go_wp2
      go_ret
      exact ⟨ret_int H.out.symm, rfl⟩
    · have H := Lib.hid (waveI_down HP.out hx)
      have hb := crest_le (x := n % p - p / 2) (h := p / 2) (by omega) (by omega) (by omega)
      obtain ⟨hb0, hb1⟩ := hb
      go_enter Try.func157, Try.ntmps157
      go_wp2_with fail
      refine C.out.mono ?_
      rintro e w1 ⟨rfl, rfl⟩
      go_wp2_with fail
      refine (remainder_any n p _ (by omega) p1).mono ?_
      rintro e w1 ⟨rfl, rfl⟩
      go_wp2_with fail
      refine (waveCrest_any _ _ _ (by omega) (by omega) (by omega) (by omega)).mono ?_
      rintro e w1 ⟨rfl, rfl⟩
      go_wp2
      go_ret
      exact ⟨ret_int H.out.symm, rfl⟩
end Go.Proofs.Ytooeikimoheecaa
