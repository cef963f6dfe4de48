
/- What LocksLaw rests on, part 1: contracts and mathematics. -/
import Derived.Test.YtlddampjbmklkaaLk0
import Derived.Deep.Slices
import Derived.Deep.Fields
import Derived.ChangeSame
import Derived.Lib.SmallJoins
import Derived.Deep.AppendLies
namespace Go.Proofs.Ytlddampjbmklkaa
open Go.RowKit
/-- A block that is known whole, and may be written. -/
def Blk (w : World) (b : Nat) (cs : Array Value) (t : TypeId) : Prop := w.heap[b]? = some (.cells cs t (0, 0))
theorem Blk.new (w : World) (cs : Array Value) (t : TypeId) : Blk (w.alloc (.cells cs t)) w.heap.size cs t := heap_alloc_new w _
theorem Blk.lt {w : World} {b : Nat} {cs : Array Value} {t : TypeId} (h : Blk w b cs t) : b < w.heap.size := by
  rcases Nat.lt_or_ge b w.heap.size with hlt | hge
  · exact hlt
  · unfold Blk at h; rw [Array.getElem?_eq_none hge] at h; cases h
theorem Blk.grown {w w' : World} {b : Nat} {cs : Array Value} {t : TypeId} {row : Option Nat} (h : Blk w b cs t) (hg : w.grownBy w' row) (hne : some b ≠ row) : Blk w' b cs t := (hg.block b h.lt hne).trans h
theorem Blk.below {w w' : World} {b : Nat} {cs : Array Value} {t : TypeId} (h : Blk w b cs t) (hb : Below w.heap.size w w') : Blk w' b cs t := (hb.block b h.lt).trans h
theorem Blk.cell {w : World} {b : Nat} {cs : Array Value} {t : TypeId} (h : Blk w b cs t) (i : Nat) : w.cell? ⟨b, i, none⟩ = cs[i]? := Joins.cell_of_block h i
theorem Blk.free {w : World} {b : Nat} {cs : Array Value} {t : TypeId} (h : Blk w b cs t) (i : Nat) : w.frozen? ⟨b, i, none⟩ = false := Joins.unfrozen_of_block h i
theorem Blk.set {w : World} {b : Nat} {cs : Array Value} {t : TypeId} (h : Blk w b cs t) (j : Nat) (u : Value) : Blk (w.setCell ⟨b, j, none⟩ u) b (cs.setIfInBounds j u) t := Joins.block_setCell h u
theorem Blk.drewN {w : World} {b : Nat} {cs : Array Value} {t : TypeId} (h : Blk w b cs t) (n : Nat) : Blk (w.drewN n) b cs t := h
theorem Blk.drew {w : World} {b : Nat} {cs : Array Value} {t : TypeId} (h : Blk w b cs t) : Blk w.drew b cs t := h
end Go.Proofs.Ytlddampjbmklkaa
namespace Go.Proofs.Ytlddampjbmklkaa
open Go.RowKit
set_option maxRecDepth 100000
section
variable {α : Type} {k : Nat} {cs : α → List Value} {t : TypeId}
theorem own_kept {W w3 : World} {base : Nat} {v : Value} {l : List α} {row : Option Nat} (h : OwnOf k cs t W base v l) (hg : W.grownBy w3 row) (hne : ∀ b, v.ownBlock = some b → row ≠ some b) : OwnOf k cs t w3 base v l := by
  refine World.ownsRow.kept h hg ?_
  cases hv : v.ownBlock with
  | none => exact .inl rfl
  | some g => right; intro e; exact hne g hv e.symm
theorem own_ge {W : World} {base : Nat} {v : Value} {l : List α} (h : OwnOf k cs t W base v l) {b : Nat} (hv : v.ownBlock = some b) : base ≤ b ∧ b < W.heap.size := World.ownsRow.lt h b hv
end
/-- A growth into a block that is younger than the first world. -/
theorem grown_young {a w w' : World} {row row' : Option Nat} (h : a.grownBy w row) (hg : w.grownBy w' row') (hy : ∀ b, row' = some b → a.heap.size ≤ b) : a.grownBy w' row :=
  ⟨hg.os.trans h.os, hg.tape.trans h.tape, hg.output.trans h.output, Nat.le_trans h.size hg.size, fun i hi hne => (hg.block i (Nat.lt_of_lt_of_le hi h.size) (fun e => Nat.lt_irrefl _ (Nat.lt_of_lt_of_le hi (hy i e.symm)))).trans (h.block i hi hne)⟩
end Go.Proofs.Ytlddampjbmklkaa
namespace Go.Proofs.Ytlddampjbmklkaa
open Go.RowKit
/-- Two slices in different blocks. -/
def ApartV (v u : Value) : Prop := ∀ g, v.ownBlock = some g → u.ownBlock ≠ some g
theorem cell_onV {a b : World} {p : Addr} {v : Value} (h : a.cell? p = some v) (hb : Below a.heap.size a b) : b.cell? p = some v := (hb.cell (World.block_lt_of_cell? a _ h)).trans h
/-- A slice whose block nothing has frozen. -/
def FreeV (w : World) (v : Value) : Prop := ∀ g, v.ownBlock = some g → (∀ j, w.frozen? ⟨g, j, none⟩ = false) ∧ g < w.heap.size
theorem FreeV.below {w w' : World} {v : Value} (h : FreeV w v) (hb : Below w.heap.size w w') : FreeV w' v := fun g hg =>
  ⟨fun j => (hb.frozen (p := ⟨g, j, none⟩) (h g hg).2).trans ((h g hg).1 j), Nat.lt_of_lt_of_le (h g hg).2 hb.size⟩
theorem FreeV.grown {w w' : World} {v : Value} {row : Option Nat} (h : FreeV w v) (hg : w.grownBy w' row) (hne : v.ownBlock = none ∨ v.ownBlock ≠ row) : FreeV w' v := fun g hgv => by
  have e := hg.block g (h g hgv).2 (fun e => by
    rcases hne with hn | hn
    · rw [hgv] at hn; cases hn
    · exact hn (hgv.trans e))
  refine ⟨fun j => ?_, Nat.lt_of_lt_of_le (h g hgv).2 hg.size⟩
  have := (h g hgv).1 j
  simpa [World.frozen?, e] using this
theorem own_freeV {α : Type} {k : Nat} {cs : α → List Value} {t : TypeId} {w : World} {base : Nat} {v : Value} {l : List α} (h : OwnOf k cs t w base v l) : FreeV w v := by
  intro g hg
  rcases Joins.ownsRow_forms h with ⟨rfl, _⟩ | ⟨g', cap, rfl⟩
  · simp [Value.ownBlock] at hg
  · have e : g' = g := by simpa [Value.ownBlock] using hg
    subst e
    exact ⟨fun j => World.ownsRow.frozenAt h _, (World.ownsRow.lt h g' hg).2⟩
end Go.Proofs.Ytlddampjbmklkaa
namespace Go.Proofs.Ytlddampjbmklkaa
open Go.ChangeShapes Go.WideShapes Go.Deep Go.RowKit
section
variable {H : Type} {enc : TypeId × Value → H} {P : Program} {w : World} {base : Nat} {spare : Nat → Bool} {held : Bool}
/-- A list out of what is known of each place. -/
theorem list_of {α : Type} (n : Nat) (R : Nat → α → Prop) (h : ∀ i, i < n → ∃ d, R i d) : ∃ l : List α, l.length = n ∧ ∀ i x, l[i]? = some x → R i x := by
  induction n with
  | zero => exact ⟨[], rfl, fun i x hx => by simp at hx⟩
  | succ n ih =>
    obtain ⟨l, hl, hr⟩ := ih (fun i hi => h i (by omega))
    obtain ⟨d, hd⟩ := h n (by omega)
    refine ⟨l ++ [d], by simp [hl], fun i x hx => ?_⟩
    rcases Nat.lt_or_ge i l.length with hi | hi
    · rw [List.getElem?_append_left hi] at hx
      exact hr i x hx
    · rw [List.getElem?_append_right hi] at hx
      have : i - l.length = 0 := by
        rcases Nat.eq_zero_or_pos (i - l.length) with h | h
        · exact h
        · rw [List.getElem?_eq_none (by simp; omega)] at hx; cases hx
      rw [this] at hx
      simp at hx
      subst hx
      have : i = n := by omega
      rw [this]; exact hd
/-- A slice that came in, element by element: each element's cells are those of a datum of which Q holds. -/
theorem open_elems {α : Type} (cells : α → List Value) (k : Nat) (Q : α → Prop) {t e : TypeId} {fuel : Nat} {v : Value} {x : DataW H × List MemPlace} (ht : P.underlying t = some (.slice e)) (hC : P.cellsOf e = k) (hlen : ∀ d, (cells d).length = k) (hk0 : 0 < k)
    (dec : ∀ n cs y, DataW.trod enc P w base (fun _ => true) held n e cs = some y → ∃ d, cs = cells d ∧ Q d)
    (h : DataW.trod enc P w base (fun _ => true) held fuel t [v] = some x) :
    ∃ A c l, v = .slice A l.length c ∧ l.length ≤ maxLen ∧ (l.length ≤ 1000000000 → SlOf k cells w (.slice A l.length c) l) ∧ ∀ d ∈ l, Q d := by
  rcases open_slice ht h with ⟨hcs, _⟩ | ⟨a, len, cap, m, n, D, Pl, hcs, _, hl, hm, hmm, _, hi⟩
  · simp at hcs
    subst hcs
    exact ⟨none, 0, [], rfl, by simp, fun h => ⟨h, .inl ⟨rfl, _, _, rfl⟩⟩, by simp⟩
  · simp at hcs
    subst hcs
    simp only [if_true] at hmm
    rw [hmm] at hi
    clear hmm
    rw [hC] at hi
    obtain ⟨l, hll, hr⟩ := list_of len (fun i d => Q d ∧ w.cells? base (a.add (i * k)) k = some (cells d)) (fun i hil => by
      obtain ⟨cs, hc, ht'⟩ := hi i (by omega)
      obtain ⟨d, rfl, hq⟩ := dec _ _ _ ht'
      exact ⟨d, hq, hc⟩)
    subst hll
    refine ⟨some a, cap, l, rfl, by omega, fun h => ⟨h, ?_⟩, fun d hd => ?_⟩
    · rcases Nat.eq_zero_or_pos l.length with h0 | h0
      · exact .inl ⟨List.eq_nil_of_length_eq_zero h0, some a, cap, by rw [h0]⟩
      · right
        obtain ⟨b, off, spot⟩ := a
        have hspot : spot = none := by
          have hq := (hr 0 l[0] (List.getElem?_eq_getElem h0)).2
          obtain ⟨_, hcl, hat⟩ := World.cells?_some hq
          have := hat 0 hk0
          rw [List.getElem?_eq_getElem (by omega)] at this
          simpa [Addr.add] using World.cell?_spot this
        subst hspot
        have hadd : ∀ j, (⟨b, off, none⟩ : Addr).add j = ⟨b, off + j, none⟩ := fun j => by unfold Addr.add; split <;> simp_all
        refine ⟨b, off, cap, rfl, h0, hl, fun i d hd j u hu => ?_⟩
        obtain ⟨_, hcl, hat⟩ := World.cells?_some (hr i d hd).2
        have hj : j < k := by have := (List.getElem?_eq_some_iff.1 hu).1; rw [hlen] at this; exact this
        have := hat j hj
        rw [hadd, hu] at this
        have hadd2 : (⟨b, off + i * k, none⟩ : Addr).add j = ⟨b, off + i * k + j, none⟩ := by unfold Addr.add; split <;> simp_all
        rw [hadd2] at this
        exact this
    · obtain ⟨i, hi⟩ := List.getElem?_of_mem hd
      exact (hr i d hi).1
end
end Go.Proofs.Ytlddampjbmklkaa
namespace Go.Proofs.Ytlddampjbmklkaa
open Go.RowKit
def inB (x lo hi : Int) : Bool := decide (lo ≤ x ∧ x ≤ hi)
theorem inB_mk {x lo hi : Int} (h1 : lo ≤ x) (h2 : x ≤ hi) : inB x lo hi = true := decide_eq_true ⟨h1, h2⟩
theorem inB_no {x lo hi : Int} (h : x < lo ∨ hi < x) : inB x lo hi = false := decide_eq_false (by omega)
theorem l01In_any (x lo hi : Int) (w : World) : Calls Try.prog 56 #[.int .i64 x, .int .i64 lo, .int .i64 hi] w fun e w' => e = .returned (.bool (inB x lo hi)) ∧ w = w' := by
  by_cases h1 : lo ≤ x
  · by_cases h2 : x ≤ hi
    · have H := Lib.hid (inB_mk h1 h2)
      go_enter Try.func56, Try.ntmps56
      go_wp2
      go_ret
      exact ⟨ret_bool H.out.symm, rfl⟩
    · have H := Lib.hid (inB_no (x := x) (lo := lo) (hi := hi) (.inr (by omega)))
      have h3 : decide (x ≤ hi) = false := decide_eq_false h2
      go_enter Try.func56, Try.ntmps56
      go_wp2
      go_ret
      exact ⟨ret_bool H.out.symm, rfl⟩
  · have H := Lib.hid (inB_no (x := x) (lo := lo) (hi := hi) (.inl (by omega)))
    have h3 : decide (lo ≤ x) = false := decide_eq_false h1
    go_enter Try.func56, Try.ntmps56
    go_wp2
    go_ret
    exact ⟨ret_bool H.out.symm, rfl⟩
end Go.Proofs.Ytlddampjbmklkaa
namespace Go.Proofs.Ytlddampjbmklkaa
open Go.RowKit
theorem isDigit_any (r : Int) (w : World) :
    Calls Try.prog 90 #[.int .i32 r] w fun e w' => e = .returned (.bool (dgI r)) ∧ w = w' := by
  by_cases h1 : 48 ≤ r
  · by_cases h2 : r ≤ 57
    · have hn := Lib.hid (dgI_true h1 h2)
      go_enter Try.func90, Try.ntmps90
      go_wp2
      go_ret
      exact ⟨ret_bool hn.out.symm, rfl⟩
    · have hn := Lib.hid (dgI_false (.inr (by omega : 57 < r)))
      go_enter Try.func90, Try.ntmps90
      go_wp2
      go_ret
      exact ⟨ret_bool hn.out.symm, rfl⟩
  · have hn := Lib.hid (dgI_false (.inl (by omega : r < 48)))
    go_enter Try.func90, Try.ntmps90
    go_wp2
    go_ret
    exact ⟨ret_bool hn.out.symm, rfl⟩
end Go.Proofs.Ytlddampjbmklkaa
namespace Go.Proofs.Ytlddampjbmklkaa
open Go.RowKit
variable {α : Type} {k : Nat} {cs : α → List Value} {t : TypeId}
/-- The value v is a list over memory that is new since w; what w held is as it was. -/
def GathO (k : Nat) (cs : α → List Value) (t : TypeId) (w : World) (v : Value) (acc : List α) (wr : World) : Prop := OwnOf k cs t wr w.heap.size v acc ∧ Below w.heap.size w wr
theorem GathO.size {w wr : World} {v : Value} {acc : List α} (h : GathO k cs t w v acc wr) : w.heap.size ≤ wr.heap.size := h.2.size
theorem GathO.empty {w wr : World} (hb : Below w.heap.size w wr) : GathO k cs t w (.slice none 0 0) [] wr := ⟨⟨by simp, .inl ⟨rfl, rfl⟩⟩, hb⟩
theorem GathO.made {w wr : World} (hb : Below w.heap.size w wr) : GathO k cs t w (.slice (some ⟨wr.heap.size, 0, none⟩) 0 0) [] (wr.alloc (.cells #[] t)) :=
  ⟨⟨by simp, .inr ⟨wr.heap.size, 0, #[], rfl, hb.size, heap_alloc_new wr _, Nat.le_refl _, by omega, by simp, by simp⟩⟩, hb.alloc hb.size _⟩
theorem GathO.below {w wr W : World} {v : Value} {acc : List α} (h : GathO k cs t w v acc wr) (hb : Below wr.heap.size wr W) : GathO k cs t w v acc W :=
  ⟨own_below h.1 hb, h.2.trans (hb.mono h.size)⟩
theorem GathO.next {w W w4 : World} {v : Value} {acc : List α} {x : α} {g4 cap4 : Nat} (h : GathO k cs t w v acc W)
    (hown : w4.ownsRow w.heap.size t k (.slice (some ⟨g4, 0, none⟩) (acc.length + 1) cap4) (acc.length + 1) (acc.flatMap cs ++ cs x)) (hgr : W.grownBy w4 v.ownBlock) :
    GathO k cs t w (.slice (some ⟨g4, 0, none⟩) (acc.length + 1) cap4) (acc ++ [x]) w4 := by
  refine ⟨?_, h.2.grown hgr h.size (fun b hb => (World.ownsRow.lt h.1 b hb).1)⟩
  simpa [OwnOf] using hown
theorem GathO.form {w wr : World} {v : Value} {acc : List α} (h : GathO k cs t w v acc wr) : ∃ A c, v = .slice A acc.length c := own_form h.1
end Go.Proofs.Ytlddampjbmklkaa
namespace Go.Proofs.Ytlddampjbmklkaa
open Go.RowKit
set_option maxRecDepth 100000
/-- A list from k on, in the same cells. -/
theorem SlOf.dropP {α : Type} {n : Nat} {cs : α → List Value} {w : World} {g o c : Nat} {l : List α} (h : SlOf n cs w (.slice (some ⟨g, o, none⟩) l.length c) l) {k : Nat} (hk : k ≤ l.length) : SlOf n cs w (.slice (some ⟨g, o + k * n, none⟩) (l.length - k) (c - k)) (l.drop k) := by
  obtain ⟨hl, h⟩ := h
  refine ⟨by rw [List.length_drop]; omega, ?_⟩
  rcases Nat.lt_or_ge k l.length with hk | hk'
  rotate_left
  · left
    have : l.length - k = 0 := by omega
    rw [this]
    exact ⟨List.drop_eq_nil_of_le hk', _, _, rfl⟩
  right
  rcases h with ⟨he, _⟩ | ⟨g', o', c', e, hp, hc, hx⟩
  · rw [he] at hk; simp at hk
  · injection e with e1 e2 e3
    injection e1 with e4
    injection e4 with e5 e6 _
    subst e3 e5 e6
    refine ⟨g, o + k * n, c - k, by rw [List.length_drop], by rw [List.length_drop]; omega, by rw [List.length_drop]; omega, fun i x hi j u hu => ?_⟩
    rw [List.getElem?_drop] at hi
    have := hx (k + i) x hi j u hu
    rw [Nat.add_mul] at this
    rw [show o + k * n + i * n + j = o + (k * n + i * n) + j by omega]
    exact this
/-- The first k of a list, in the same cells. -/
theorem SlOf.takeP {α : Type} {n : Nat} {cs : α → List Value} {w : World} {A : Option Addr} {c : Nat} {l : List α} (h : SlOf n cs w (.slice A l.length c) l) {k : Nat} (hk : k ≤ l.length) : SlOf n cs w (.slice A k c) (l.take k) := by
  obtain ⟨hl, h⟩ := h
  have hlen : (l.take k).length = k := by rw [List.length_take]; omega
  refine ⟨by omega, ?_⟩
  by_cases hk0 : k = 0
  · left
    subst hk0
    exact ⟨rfl, _, _, rfl⟩
  · right
    rcases h with ⟨he, _⟩ | ⟨g, o, c', e, hp, hc, hx⟩
    · rw [he] at hk; simp at hk; exact absurd hk hk0
    · injection e with e1 e2 e3
      refine ⟨g, o, c', by rw [hlen, e1, e3], by omega, by omega, fun i x hi => ?_⟩
      have hik : i < k := by have := (List.getElem?_eq_some_iff.1 hi).1; omega
      rw [List.getElem?_take_of_lt hik] at hi
      exact hx i x hi
end Go.Proofs.Ytlddampjbmklkaa
namespace Go.Proofs.Ytlddampjbmklkaa
open Go.ChangeShapes Go.WideShapes Go.ChangeAt Go.RowKit
theorem cells_u8 : Try.prog.cellsOf 5 = 1 := by kernel_rfl
set_option maxRecDepth 100000 in
theorem open_code_arg {H : Type} {enc : TypeId × Value → H} {W : World} {r : Reach} {b0 : Nat} {v : Value} {d : DataW H} {ps : List MemPlace}
    (hval : Value.okWide Try.prog W r b0 22 v) (hd : DataW.Trod enc Try.prog W 0 (fun _ => true) true 22 v d ps) :
    ∃ A n c, v = .slice A n c ∧ n ≤ maxLen ∧ (n ≤ 1048576 → CodeAt W A n) := by
  obtain ⟨A, len, cap, rfl⟩ := okWide_slice Try.underlying22 hval
  obtain ⟨fuel, hf⟩ := hd
  rcases open_ints Try.underlying22 Try.underlying5 cells_u8 hf with ⟨hcs, _⟩ | ⟨a, len', cap', zs, hcs, _, hl, hm, hz, _, hcell, hwf⟩
  · simp [Value.cells] at hcs
    obtain ⟨rfl, rfl, rfl⟩ := hcs
    exact ⟨none, 0, 0, rfl, by decide, fun h => ⟨h, fun h0 => absurd h0 (by omega)⟩⟩
  · simp [Value.cells] at hcs
    obtain ⟨rfl, rfl, rfl⟩ := hcs
    simp only [if_true] at hz
    refine ⟨some a, len, cap, rfl, by omega, fun h => ⟨h, fun h0 => ?_⟩⟩
    obtain ⟨b, off, spot⟩ := a
    have hspot : spot = none := by simpa [Addr.add] using World.cell?_spot (hcell 0 (by omega))
    subst hspot
    have hadd : ∀ j, (⟨b, off, none⟩ : Addr).add j = ⟨b, off + j, none⟩ := fun j => by unfold Addr.add; split <;> simp_all
    refine ⟨b, off, rfl, ?_, fun j hj => ?_⟩
    · have := World.block_lt_of_cell? W _ (hcell 0 (by omega))
      rwa [hadd] at this
    · have hc := hcell j (by omega)
      rw [hadd] at hc
      have hw : (Lit.int .u8 (zs.getD j 0)).wf = true := by
        have hjz : j < zs.length := by omega
        rw [List.getD_eq_getElem?_getD, List.getElem?_eq_getElem hjz]
        exact hwf _ (List.getElem_mem hjz)
      obtain ⟨x0, x1⟩ := bounds_u8 hw
      exact ⟨_, x0, x1, hc⟩
end Go.Proofs.Ytlddampjbmklkaa
