
/- What ExactRivalDuties and Dilworth and CoversLaw rests on, part 2: contracts and mathematics. -/
import Derived.Test.YtfofbnpgjdagkaaCv0
import Derived.Laws.OwnMore
namespace Go.Proofs.Ytfofbnpgjdagkaa
open Go.RowKit
set_option maxRecDepth 100000
theorem flat_setAt {α : Type} {k : Nat} {cs : α → List Value} (hk : ∀ x, (cs x).length = k) : ∀ (l : List α) (i : Nat) (x : α), l[i]? = some x → ∀ (j : Nat) (u : Value) (x' : α), j < k → cs x' = (cs x).set j u → (l.flatMap cs).set (i * k + j) u = (l.set i x').flatMap cs := by
  intro l
  induction l with
  | nil => intro i x h; simp at h
  | cons y l ih =>
    intro i x h j u x' hj hx
    cases i with
    | zero =>
      simp only [List.getElem?_cons_zero, Option.some.injEq] at h
      subst h
      rw [List.flatMap_cons, List.set_cons_zero, List.flatMap_cons, hx, Nat.zero_mul, Nat.zero_add, List.set_append_left _ _ (by rw [hk]; exact hj)]
    | succ i =>
      rw [List.getElem?_cons_succ] at h
      rw [List.flatMap_cons, List.set_cons_succ, List.flatMap_cons, List.set_append_right _ _ (by rw [hk, Nat.succ_mul]; omega), hk, show (i + 1) * k + j - k = i * k + j by rw [Nat.succ_mul]; omega, ih i x h j u x' hj hx]
theorem own_set {α : Type} {k : Nat} {cs : α → List Value} {t : TypeId} {w : World} {base g c : Nat} {l : List α} (hk : ∀ x, (cs x).length = k) (h : OwnOf k cs t w base (.slice (some ⟨g, 0, none⟩) l.length c) l) {i j : Nat} {x x' : α} {u : Value} (hx : l[i]? = some x) (hj : j < k) (e : cs x' = (cs x).set j u) :
    OwnOf k cs t (w.setCell ⟨g, i * k + j, none⟩ u) base (.slice (some ⟨g, 0, none⟩) (l.set i x').length c) (l.set i x') := by
  have hs := (World.ownsRow.stored h (i * k + j) u).1
  rw [flat_setAt hk l i x hx j u x' hj e] at hs
  unfold OwnOf
  rw [List.length_set]
  exact hs
theorem own_at {α : Type} {k : Nat} {cs : α → List Value} {t : TypeId} {w : World} {base g n c : Nat} {l : List α} (hk : ∀ x, (cs x).length = k) (h : OwnOf k cs t w base (.slice (some ⟨g, 0, none⟩) n c) l) (hn : l.length = n) {i j : Nat} {x : α} {u : Value} (hx : l[i]? = some x) (hj : (cs x)[j]? = some u) : w.cell? ⟨g, i * k + j, none⟩ = some u := by
  have hi := (List.getElem?_eq_some_iff.1 hx).1
  have hjk : j < k := by have := (List.getElem?_eq_some_iff.1 hj).1; rw [hk] at this; exact this
  subst hn
  have hlt : i * k + j < l.length * k := by
    have h1 : (i + 1) * k ≤ l.length * k := Nat.mul_le_mul_right k (by omega)
    rw [Nat.succ_mul] at h1
    omega
  exact (World.ownsRow.cellAt h (i * k + j) hlt).trans (flat_at hk l i x hx j u hj)
end Go.Proofs.Ytfofbnpgjdagkaa
namespace Go.Proofs.Ytfofbnpgjdagkaa
open Go.RowKit
theorem and_mask (x : Int) (m : Nat) (hm : m ≤ 4611686018427387904) : 0 ≤ bits .and .i64 x (m : Int) ∧ bits .and .i64 x (m : Int) ≤ m := by
  have e : (BitVec.ofInt 64 (m : Int)).toNat = m := by
    rw [BitVec.ofInt_natCast, BitVec.toNat_ofNat]; exact Nat.mod_eq_of_lt (by omega)
  have h : (BitVec.ofInt 64 x &&& BitVec.ofInt 64 (m : Int)).toNat ≤ m := by
    rw [BitVec.toNat_and, e]; exact Nat.and_le_right
  show 0 ≤ IntKind.i64.wrap ((BitVec.ofInt 64 x &&& BitVec.ofInt 64 (m : Int)).toNat : Int) ∧ IntKind.i64.wrap ((BitVec.ofInt 64 x &&& BitVec.ofInt 64 (m : Int)).toNat : Int) ≤ m
  rw [IntKind.wrap_i64]
  omega
theorem and_255 (x : Int) : 0 ≤ bits .and .i64 x 255 ∧ bits .and .i64 x 255 ≤ 255 := and_mask x 255 (by omega)
def top30 : Int := 1073741823
theorem and_30 (x : Int) : 0 ≤ bits .and .i64 x 1073741823 ∧ bits .and .i64 x 1073741823 ≤ top30 := by
  have h := and_mask x 1073741823 (by omega)
  simp only [Int.cast_ofNat_Int] at h
  exact h
/-- The cursor's block: the bytes, how many are spent, a number. -/
def CurAt (w : World) (p : Nat) (A : Option Addr) (n c : Nat) (i h : Int) : Prop := w.heap[p]? = some (.cells #[.slice A n c, .int .i64 i, .int .i64 h] 80 (0, 0))
/-- The bytes lie elsewhere: they lay there before the cursor. -/
def BytesAt (w : World) (p : Nat) (A : Option Addr) (n : Nat) : Prop :=
  n ≤ 1048576 ∧ (0 < n → ∃ g o, A = some ⟨g, o, none⟩ ∧ g < p ∧ ∀ j, j < n → ∃ x : Int, 0 ≤ x ∧ x ≤ 255 ∧ w.cell? ⟨g, o + j, none⟩ = some (.int .u8 x))
def Cursor (w : World) (p : Nat) : Prop := ∃ A n c i h, CurAt w p A n c i h ∧ 0 ≤ i ∧ i ≤ (n : Int) ∧ BytesAt w p A n
/-- What a draw below lim leaves. -/
def Draws (p : Nat) (lim : Int) (w : World) (e : Ending) (w' : World) : Prop := ∃ x : Int, e = .returned (.int .i64 x) ∧ 0 ≤ x ∧ x < lim ∧ Cursor w' p ∧ w.grownBy w' (some p)
theorem CurAt.cell {w : World} {p : Nat} {A : Option Addr} {n c : Nat} {i h : Int} (hc : CurAt w p A n c i h) (j : Nat) : w.cell? ⟨p, j, none⟩ = (#[Value.slice A n c, .int .i64 i, .int .i64 h] : Array Value)[j]? := cell_of_row w p j _ _ (0, 0) hc
theorem CurAt.unfrozen {w : World} {p : Nat} {A : Option Addr} {n c : Nat} {i h : Int} (hc : CurAt w p A n c i h) (j : Nat) : w.frozen? ⟨p, j, none⟩ = false := by
  unfold CurAt at hc
  simp [World.frozen?, hc]
theorem CurAt.lt {w : World} {p : Nat} {A : Option Addr} {n c : Nat} {i h : Int} (hc : CurAt w p A n c i h) : p < w.heap.size := by
  rcases Nat.lt_or_ge p w.heap.size with hlt | hge
  · exact hlt
  · unfold CurAt at hc; rw [Array.getElem?_eq_none hge] at hc; cases hc
theorem CurAt.set1 {w : World} {p : Nat} {A : Option Addr} {n c : Nat} {i h : Int} (hc : CurAt w p A n c i h) (i' : Int) : CurAt (w.setCell ⟨p, 1, none⟩ (.int .i64 i')) p A n c i' h := by
  unfold CurAt at hc ⊢
  simp [World.setCell, Array.getElem?_modify, hc]
theorem CurAt.set2 {w : World} {p : Nat} {A : Option Addr} {n c : Nat} {i h : Int} (hc : CurAt w p A n c i h) (h' : Int) : CurAt (w.setCell ⟨p, 2, none⟩ (.int .i64 h')) p A n c i h' := by
  unfold CurAt at hc ⊢
  simp [World.setCell, Array.getElem?_modify, hc]
theorem CurAt.drewN {w : World} {p : Nat} {A : Option Addr} {n c : Nat} {i h : Int} (hc : CurAt w p A n c i h) (k : Nat) : CurAt (w.drewN k) p A n c i h := hc
theorem grown_setP {a w : World} {p j : Nat} (h : a.grownBy w (some p)) (u : Value) : a.grownBy (w.setCell ⟨p, j, none⟩ u) (some p) :=
  ⟨h.os, h.tape, h.output, by simpa [World.setCell] using h.size, fun i hi hne => (Below.heap_setCell w _ u i (by rintro rfl; exact hne rfl)).trans (h.block i hi hne)⟩
theorem grown_drewN {a w : World} {row : Option Nat} (h : a.grownBy w row) (n : Nat) : a.grownBy (w.drewN n) row := ⟨h.os, h.tape, h.output, h.size, h.block⟩
theorem grown_trans {a b c : World} {row : Option Nat} (h : a.grownBy b row) (k : b.grownBy c row) : a.grownBy c row :=
  ⟨k.os.trans h.os, k.tape.trans h.tape, k.output.trans h.output, Nat.le_trans h.size k.size, fun i hi hn => (k.block i (Nat.lt_of_lt_of_le hi h.size) hn).trans (h.block i hi hn)⟩
theorem BytesAt.grown {w w' : World} {p : Nat} {A : Option Addr} {n : Nat} (h : BytesAt w p A n) (hg : w.grownBy w' (some p)) : BytesAt w' p A n := by
  refine ⟨h.1, fun h0 => ?_⟩
  obtain ⟨g, o, rfl, hne, hx⟩ := h.2 h0
  refine ⟨g, o, rfl, hne, fun j hj => ?_⟩
  obtain ⟨x, x0, x1, hc⟩ := hx j hj
  exact ⟨x, x0, x1, hg.cell hc (fun e => Nat.ne_of_lt hne (Option.some.inj e))⟩
/-- A cursor stays one while its own block and its bytes stay. -/
theorem Cursor.below {w w' : World} {p : Nat} (h : Cursor w p) (hb : Below w.heap.size w w') : Cursor w' p := by
  obtain ⟨A, n, c, i, q, hc, h0, h1, hB⟩ := h
  refine ⟨A, n, c, i, q, (hb.block p hc.lt).trans hc, h0, h1, hB.1, fun hn => ?_⟩
  obtain ⟨g, o, rfl, hne, hx⟩ := hB.2 hn
  refine ⟨g, o, rfl, hne, fun j hj => ?_⟩
  obtain ⟨x, x0, x1, hc⟩ := hx j hj
  exact ⟨x, x0, x1, (hb.cell (World.block_lt_of_cell? w _ hc)).trans hc⟩
set_option maxHeartbeats 2000000 in
theorem l01Byte_any (p : Nat) (w : World) (hcur : Cursor w p) :
    Calls Try.prog 59 #[.pointer (some ⟨p, 0, none⟩)] w (Draws p 256 w) := by
  obtain ⟨A, n, c, i, h, hc, hi0, hi1, hB⟩ := hcur
  have h0 : w.cell? ⟨p, 0, none⟩ = some (.slice A n c) := hc.cell 0
  have h1 : w.cell? ⟨p, 1, none⟩ = some (.int .i64 i) := hc.cell 1
  have h2 : w.cell? ⟨p, 2, none⟩ = some (.int .i64 h) := hc.cell 2
  have f1 := hc.unfrozen 1
  have f2 := hc.unfrozen 2
  have hn := hB.1
  have HC := Lib.hid hc
  have HB := Lib.hid hB
  clear hc hB
  by_cases hlt : i < (n : Int)
  · obtain ⟨g, o, rfl, hne, hx⟩ := HB.out.2 (by omega)
    obtain ⟨k, rfl⟩ : ∃ k : Nat, i = (k : Int) := ⟨i.toNat, by omega⟩
    obtain ⟨x, x0, x1, hcell⟩ := hx k (by omega)
    have HX := Lib.hid hx
    clear hx
    go_enter Try.func59, Try.ntmps59
    go_wp2
    go_quiet (fail)
    go_wp2
    obtain ⟨y, hy⟩ : ∃ y, bits .and .i64 (bits .xor .i64 (wrap64 (wrap64 (h * 6364136223846793005) + 1442695040888963407) / 8589934592) (wrap64 (wrap64 (h * 6364136223846793005) + 1442695040888963407) / 35184372088832)) 255 = y := ⟨_, rfl⟩
    have hyb := and_255 (bits .xor .i64 (wrap64 (wrap64 (h * 6364136223846793005) + 1442695040888963407) / 8589934592) (wrap64 (wrap64 (h * 6364136223846793005) + 1442695040888963407) / 35184372088832))
    rw [hy] at hyb ⊢
    clear hy
    obtain ⟨hy0, hy1⟩ := hyb
    go_quiet (fail)
    go_wp2
    have hw : IntKind.i64.wrap (y + x) = y + x := IntWalk.i64_in _ (by omega)
    go_quiet (fail)
    clear hw
    go_wp2
    go_ret
    obtain ⟨hz0, hz1⟩ := and_255 (y + x)
    refine ⟨bits .and .i64 (y + x) 255, rfl, hz0, by omega, ?_⟩
    have hg : ∀ m : Nat, w.grownBy (((w.setCell ⟨p, 2, none⟩ (.int .i64 (wrap64 (wrap64 (h * 6364136223846793005) + 1442695040888963407)))).setCell ⟨p, 1, none⟩ (.int .i64 ((k : Int) + 1))).drewN m) (some p) := fun m => grown_drewN (grown_setP (grown_setP (World.grownBy.refl _ _) _) _) m
    exact ⟨⟨_, n, c, (k : Int) + 1, _, ((HC.out.set2 _).set1 _).drewN _, by omega, by omega, HB.out.grown (hg _)⟩, hg _⟩
  · have hge : (n : Int) ≤ i := by omega
    go_enter Try.func59, Try.ntmps59
    go_wp2
    go_quiet (fail)
    go_wp2
    obtain ⟨y, hy⟩ : ∃ y, bits .and .i64 (bits .xor .i64 (wrap64 (wrap64 (h * 6364136223846793005) + 1442695040888963407) / 8589934592) (wrap64 (wrap64 (h * 6364136223846793005) + 1442695040888963407) / 35184372088832)) 255 = y := ⟨_, rfl⟩
    have hyb := and_255 (bits .xor .i64 (wrap64 (wrap64 (h * 6364136223846793005) + 1442695040888963407) / 8589934592) (wrap64 (wrap64 (h * 6364136223846793005) + 1442695040888963407) / 35184372088832))
    rw [hy] at hyb ⊢
    clear hy
    obtain ⟨hy0, hy1⟩ := hyb
    go_quiet (fail)
    go_wp2
    go_ret
    refine ⟨y, rfl, hy0, by omega, ?_⟩
    have hg : ∀ m : Nat, w.grownBy ((w.setCell ⟨p, 2, none⟩ (.int .i64 (wrap64 (wrap64 (h * 6364136223846793005) + 1442695040888963407)))).drewN m) (some p) := fun m => grown_drewN (grown_setP (World.grownBy.refl _ _) _) m
    exact ⟨⟨A, n, c, i, _, ((HC.out.set2 _).drewN _).drewN _, hi0, hi1, HB.out.grown (grown_drewN (hg _) _)⟩, grown_drewN (hg _) _⟩
/-- A draw below n, for n from 1 to 1000000. -/
theorem l01Below_any (p : Nat) (n : Int) (w : World) (h0 : 0 < n) (h1 : n ≤ 1000000) (hcur : Cursor w p) :
    Calls Try.prog 40 #[.pointer (some ⟨p, 0, none⟩), .int .i64 n] w (Draws p n w) := by
  by_cases hs : n ≤ 256
  · have C := Lib.hid (l01Byte_any p w hcur)
    clear hcur
    go_enter Try.func40, Try.ntmps40
    go_wp2_with fail
    refine C.out.mono ?_
    rintro e w1 ⟨x, rfl, x0, x1, hc1, hg1⟩
    have HC := Lib.hid hc1
    have HG := Lib.hid hg1
    clear hc1 hg1
    go_wp2
    go_ret
    exact ⟨x % n, rfl, Int.emod_nonneg _ (by omega), Int.emod_lt_of_pos _ h0, HC.out, HG.out⟩
  · have HC := Lib.hid hcur
    clear hcur
    go_enter Try.func40, Try.ntmps40
    go_wp2_with fail
    refine (l01Byte_any p w HC.out).mono ?_
    rintro e w1 ⟨x, rfl, x0, x1, hc1, hg1⟩
    have HC1 := Lib.hid hc1
    have HG1 := Lib.hid hg1
    clear hc1 hg1
    go_wp2_with fail
    refine (l01Byte_any p w1 HC1.out).mono ?_
    rintro e w2 ⟨y, rfl, y0, y1, hc2, hg2⟩
    have HC2 := Lib.hid hc2
    have HG2 := Lib.hid (grown_trans HG1.out hg2)
    clear hc2 hg2
    go_wp2_with fail
    refine (l01Byte_any p w2 HC2.out).mono ?_
    rintro e w3 ⟨z, rfl, z0, z1, hc3, hg3⟩
    have HC3 := Lib.hid hc3
    have HG3 := Lib.hid (grown_trans HG2.out hg3)
    clear hc3 hg3
    go_wp2_with fail
    refine (l01Byte_any p w3 HC3.out).mono ?_
    rintro e w4 ⟨u, rfl, u0, u1, hc4, hg4⟩
    have HC4 := Lib.hid hc4
    have HG4 := Lib.hid (grown_trans HG3.out hg4)
    clear hc4 hg4
    go_wp2
    go_ret
    exact ⟨(x * 16777216 + y * 65536 + z * 256 + u) % n, rfl, Int.emod_nonneg _ (by omega), Int.emod_lt_of_pos _ h0, HC4.out, HG4.out⟩
/-- Bytes that came in. -/
def CodeAt (w : World) (A : Option Addr) (n : Nat) : Prop :=
  n ≤ 1048576 ∧ (0 < n → ∃ g o, A = some ⟨g, o, none⟩ ∧ g < w.heap.size ∧ ∀ j, j < n → ∃ x : Int, 0 ≤ x ∧ x ≤ 255 ∧ w.cell? ⟨g, o + j, none⟩ = some (.int .u8 x))
theorem CodeAt.below {w w' : World} {A : Option Addr} {n : Nat} (h : CodeAt w A n) (hb : Below w.heap.size w w') : CodeAt w' A n := by
  refine ⟨h.1, fun hn => ?_⟩
  obtain ⟨g, o, rfl, hlt, hx⟩ := h.2 hn
  refine ⟨g, o, rfl, Nat.lt_of_lt_of_le hlt hb.size, fun j hj => ?_⟩
  obtain ⟨x, x0, x1, hc⟩ := hx j hj
  exact ⟨x, x0, x1, (hb.cell (World.block_lt_of_cell? w _ hc)).trans hc⟩
theorem CodeAt.cursor {w : World} {A : Option Addr} {n : Nat} (h : CodeAt w A n) (c : Nat) (q : Int) : Cursor (w.alloc (.cells #[.slice A n c, .int .i64 0, .int .i64 q] 80)) w.heap.size := by
  refine ⟨A, n, c, 0, q, heap_alloc_new w _, Int.le_refl _, by omega, h.1, fun hn => ?_⟩
  obtain ⟨g, o, rfl, hlt, hx⟩ := h.2 hn
  refine ⟨g, o, rfl, by omega, fun j hj => ?_⟩
  obtain ⟨x, x0, x1, hc⟩ := hx j hj
  exact ⟨x, x0, x1, (World.cell?_alloc_lt w _ _ hlt).trans hc⟩
/-- A new cursor. -/
def NewCursor (w : World) (e : Ending) (w' : World) : Prop := ∃ p, e = .returned (.pointer (some ⟨p, 0, none⟩)) ∧ w.heap.size ≤ p ∧ Cursor w' p ∧ Below w.heap.size w w'
set_option maxHeartbeats 2000000 in
set_option maxRecDepth 100000 in
theorem l01New_any (A : Option Addr) (n c : Nat) (w : World) (hcode : CodeAt w A n) :
    Calls Try.prog 37 #[.slice A n c] w (NewCursor w) := by
  have HC := Lib.hid hcode
  have hn := hcode.1
  clear hcode
  go_enter Try.func37, Try.ntmps37
  go_wp2
  go_loop [3, 4] (fun q i => ∃ (k : Nat) (h : Int), k ≤ n ∧ 0 ≤ h ∧ h ≤ 1073741823 ∧ i = .int .i64 k ∧ q = .int .i64 h) (fun _ i => n - (intOf i).toNat)
  case atStart => exact ⟨0, _, Nat.zero_le _, by omega, by omega, rfl, rfl⟩
  case round =>
    obtain ⟨k, h, hk, h0, h1, rfl, rfl⟩ := hrel
    by_cases hlt : k < n
    · by_cases h4 : k < 4000
      · obtain ⟨g, o, rfl, hgl, hx⟩ := HC.out.2 (by omega)
        obtain ⟨x, x0, x1, hcell⟩ := hx k hlt
        have HX := Lib.hid hx
        clear hx
        go_wp2
        go_round
        case rel =>
          obtain ⟨hm0, hm1⟩ := and_30 (h * 79 + x + 7)
          unfold top30 at hm1
          exact ⟨k + 1, _, by omega, hm0, hm1, by go_num, rfl⟩
        case measure => simp [intOf]; omega
      · have hd : decide ((k : Int) < 4000) = false := decide_eq_false (by omega)
        go_wp2
        go_ret
        exact ⟨w.heap.size, rfl, Nat.le_refl _, HC.out.cursor c h, (Below.refl _ _).alloc (Nat.le_refl _) _⟩
    · go_wp2
      go_ret
      exact ⟨w.heap.size, rfl, Nat.le_refl _, HC.out.cursor c h, (Below.refl _ _).alloc (Nat.le_refl _) _⟩
end Go.Proofs.Ytfofbnpgjdagkaa
