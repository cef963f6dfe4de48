
/- What changes only blocks within a range, and values whose memory lies in a range. Over any program. -/
import Derived.Test.YtfofbnpgjdagkaaBox
import Derived.Test.YtfofbnpgjdagkaaBlk0
namespace Go.Proofs.Ytfofbnpgjdagkaa
open Go.RowKit

/-- From w to w' only blocks from a up to b have changed, and new ones have come. -/
structure TouchR (w w' : World) (a b : Nat) : Prop where
  os : w'.os = w.os
  tape : w'.tape = w.tape
  output : w'.output = w.output
  size : w.heap.size ≤ w'.heap.size
  block : ∀ i, i < w.heap.size → ¬ (a ≤ i ∧ i < b) → w'.heap[i]? = w.heap[i]?
/-- The value's own block lies from a up to b. -/
def RangeV (v : Value) (a b : Nat) : Prop := ∀ g, v.ownBlock = some g → a ≤ g ∧ g < b
theorem RangeV.wide {v : Value} {a b a' b' : Nat} (h : RangeV v a b) (ha : a' ≤ a) (hb : b ≤ b') : RangeV v a' b' := fun g hg => by have := h g hg; omega
theorem own_range {α : Type} {k : Nat} {cs : α → List Value} {t : TypeId} {w : World} {base : Nat} {v : Value} {l : List α} (h : OwnOf k cs t w base v l) : RangeV v base w.heap.size := fun g hg => World.ownsRow.lt h g hg
theorem RangeV.apart {v u : Value} {a b c d : Nat} (h : RangeV v a b) (h' : RangeV u c d) (hd : b ≤ c ∨ d ≤ a) : ApartV v u := fun g hg hg' => by have := h g hg; have := h' g hg'; omega
theorem touch_refl (w : World) (a b : Nat) : TouchR w w a b := ⟨rfl, rfl, rfl, Nat.le_refl _, fun _ _ _ => rfl⟩
theorem touch_below {w w' : World} (h : Below w.heap.size w w') (a b : Nat) : TouchR w w' a b := ⟨h.os, h.tape, h.output, h.size, fun i hi _ => h.block i hi⟩
theorem touch_grown {w w' : World} {v : Value} {a b : Nat} (h : w.grownBy w' v.ownBlock) (hr : RangeV v a b) : TouchR w w' a b :=
  ⟨h.os, h.tape, h.output, h.size, fun i hi hn => h.block i hi (fun e => hn (hr i e.symm))⟩
theorem TouchR.trans {w w1 w2 : World} {a b : Nat} (h : TouchR w w1 a b) (k : TouchR w1 w2 a b) : TouchR w w2 a b :=
  ⟨k.os.trans h.os, k.tape.trans h.tape, k.output.trans h.output, Nat.le_trans h.size k.size, fun i hi hn => (k.block i (Nat.lt_of_lt_of_le hi h.size) hn).trans (h.block i hi hn)⟩
theorem TouchR.wide {w w' : World} {a b a' b' : Nat} (h : TouchR w w' a b) (ha : a' ≤ a) (hb : b ≤ b') : TouchR w w' a' b' := ⟨h.os, h.tape, h.output, h.size, fun i hi hn => h.block i hi (by omega)⟩
theorem TouchR.cell {w w' : World} {a b : Nat} (h : TouchR w w' a b) {p : Addr} {v : Value} (hc : w.cell? p = some v) (hp : ¬ (a ≤ p.block ∧ p.block < b)) : w'.cell? p = some v := by
  have e := h.block p.block (World.block_lt_of_cell? w p hc) hp
  have : w'.cell? p = w.cell? p := by simp [World.cell?, e]
  rw [this]; exact hc
theorem TouchR.frozen {w w' : World} {a b : Nat} (h : TouchR w w' a b) {p : Addr} (hlt : p.block < w.heap.size) (hp : ¬ (a ≤ p.block ∧ p.block < b)) : w'.frozen? p = w.frozen? p := by
  have e := h.block p.block hlt hp
  simp [World.frozen?, e]
theorem TouchR.below {w0 w w' : World} {base a b : Nat} (hb : Below base w0 w) (h : TouchR w w' a b) (h0 : base ≤ w.heap.size) (ha : base ≤ a) : Below base w0 w' :=
  ⟨h.os.trans hb.os, h.tape.trans hb.tape, h.output.trans hb.output, Nat.le_trans hb.size h.size, fun i hi => (h.block i (by omega) (by omega)).trans (hb.block i hi)⟩
theorem SlOf.touch {α : Type} {k : Nat} {cs : α → List Value} {w w' : World} {v : Value} {l : List α} {a b c d : Nat} (h : SlOf k cs w v l) (ht : TouchR w w' a b) (hr : RangeV v c d) (hd : b ≤ c ∨ d ≤ a) : SlOf k cs w' v l := by
  refine ⟨h.1, ?_⟩
  rcases h.2 with ⟨rfl, A, n, rfl⟩ | ⟨g, o, n, rfl, hp, hcap, hc⟩
  · exact .inl ⟨rfl, A, n, rfl⟩
  · refine .inr ⟨g, o, n, rfl, hp, hcap, fun i x hx j u hu => ht.cell (hc i x hx j u hu) ?_⟩
    have := hr g rfl
    show ¬ (a ≤ g ∧ g < b)
    omega
theorem MarkedV.touch {w w' : World} {v : Value} {N : Nat} {mv : Nat → Value} {a b c d : Nat} (h : MarkedV w v N mv) (ht : TouchR w w' a b) (hr : RangeV v c d) (hd : b ≤ c ∨ d ≤ a) : MarkedV w' v N mv := by
  rcases h with h | ⟨g, o, len, n, rfl, hc⟩
  · exact .inl h
  · refine .inr ⟨g, o, len, n, rfl, fun j hj => ht.cell (hc j hj) ?_⟩
    have := hr g rfl
    show ¬ (a ≤ g ∧ g < b)
    omega
theorem FreeV.touch {w w' : World} {v : Value} {a b c d : Nat} (h : FreeV w v) (ht : TouchR w w' a b) (hr : RangeV v c d) (hd : b ≤ c ∨ d ≤ a) : FreeV w' v := fun g hg => by
  have := hr g hg
  refine ⟨fun j => (ht.frozen (p := ⟨g, j, none⟩) (h g hg).2 (by show ¬ (a ≤ g ∧ g < b); omega)).trans ((h g hg).1 j), Nat.lt_of_lt_of_le (h g hg).2 ht.size⟩
theorem Blk.touch {w w' : World} {a b p : Nat} {cs : Array Value} {t : TypeId} (h : Blk w p cs t) (ht : TouchR w w' a b) (hp : ¬ (a ≤ p ∧ p < b)) : Blk w' p cs t := (ht.block p h.lt hp).trans h
end Go.Proofs.Ytfofbnpgjdagkaa
