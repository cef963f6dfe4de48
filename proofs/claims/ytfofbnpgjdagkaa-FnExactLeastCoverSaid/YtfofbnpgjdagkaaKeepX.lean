
/- What leaves all blocks but some as they were. Over any program. -/
import Derived.Test.YtfofbnpgjdagkaaOwnVar
import Derived.Test.YtfofbnpgjdagkaaRows2
namespace Go.Proofs.Ytfofbnpgjdagkaa
open Go.RowKit
set_option maxRecDepth 100000

/-- From w to w' only blocks of ex have changed, and new ones have come. -/
structure KeepX (ex : Nat → Prop) (w w' : World) : Prop where
  os : w'.os = w.os
  tape : w'.tape = w.tape
  output : w'.output = w.output
  size : w.heap.size ≤ w'.heap.size
  block : ∀ i, i < w.heap.size → ¬ ex i → w'.heap[i]? = w.heap[i]?
theorem KeepX.refl (ex : Nat → Prop) (w : World) : KeepX ex w w := ⟨rfl, rfl, rfl, Nat.le_refl _, fun _ _ _ => rfl⟩
theorem KeepX.trans {ex : Nat → Prop} {a b c : World} (h : KeepX ex a b) (k : KeepX ex b c) : KeepX ex a c :=
  ⟨k.os.trans h.os, k.tape.trans h.tape, k.output.trans h.output, Nat.le_trans h.size k.size, fun i hi hn => (k.block i (Nat.lt_of_lt_of_le hi h.size) hn).trans (h.block i hi hn)⟩
/-- Only blocks that were there count. -/
theorem KeepX.weak {ex ex' : Nat → Prop} {a b : World} (h : KeepX ex a b) (hx : ∀ i, i < a.heap.size → ex i → ex' i) : KeepX ex' a b :=
  ⟨h.os, h.tape, h.output, h.size, fun i hi hn => h.block i hi (fun e => hn (hx i hi e))⟩
theorem KeepX.join {ex ex1 ex2 : Nat → Prop} {a b c : World} (h : KeepX ex1 a b) (k : KeepX ex2 b c) (h1 : ∀ i, i < a.heap.size → ex1 i → ex i) (h2 : ∀ i, i < a.heap.size → ex2 i → ex i) : KeepX ex a c :=
  ⟨k.os.trans h.os, k.tape.trans h.tape, k.output.trans h.output, Nat.le_trans h.size k.size, fun i hi hn => (k.block i (Nat.lt_of_lt_of_le hi h.size) (fun e => hn (h2 i hi e))).trans (h.block i hi (fun e => hn (h1 i hi e)))⟩
theorem KeepX.below {ex : Nat → Prop} {a b : World} (h : Below a.heap.size a b) : KeepX ex a b := ⟨h.os, h.tape, h.output, h.size, fun i hi _ => h.block i hi⟩
theorem KeepX.grown {ex : Nat → Prop} {a b : World} {row : Option Nat} (h : a.grownBy b row) (hr : ∀ g, row = some g → ex g) : KeepX ex a b := ⟨h.os, h.tape, h.output, h.size, fun i hi hn => h.block i hi (fun e => hn (hr i e.symm))⟩
theorem KeepX.alloc {ex : Nat → Prop} (a : World) (o : Obj) : KeepX ex a (a.alloc o) := .below ((Below.refl _ a).alloc (Nat.le_refl _) o)
theorem KeepX.drew {ex : Nat → Prop} (a : World) : KeepX ex a a.drew := ⟨rfl, rfl, rfl, Nat.le_refl _, fun _ _ _ => rfl⟩
/-- Where only blocks from base on change, it is a Below. -/
theorem KeepX.toBelow {ex : Nat → Prop} {base : Nat} {w0 a b : World} (h : KeepX ex a b) (h0 : Below base w0 a) (hb : base ≤ w0.heap.size) (hx : ∀ i, i < base → ¬ ex i) : Below base w0 b :=
  ⟨h.os.trans h0.os, h.tape.trans h0.tape, h.output.trans h0.output, Nat.le_trans h0.size h.size, fun i hi => (h.block i (Nat.lt_of_lt_of_le (Nat.lt_of_lt_of_le hi hb) h0.size) (hx i hi)).trans (h0.block i hi)⟩
theorem own_keep {α : Type} {k : Nat} {cs : α → List Value} {t : TypeId} {ex : Nat → Prop} {w w' : World} {base : Nat} {v : Value} {l : List α} (h : OwnOf k cs t w base v l) (hk : KeepX ex w w') (hv : ∀ g, v.ownBlock = some g → ¬ ex g) : OwnOf k cs t w' base v l := by
  refine ⟨h.1, ?_⟩
  rcases h.2 with hn | ⟨g, cap, cur, rfl, hb, hgg, rest⟩
  · exact .inl hn
  · exact .inr ⟨g, cap, cur, rfl, hb, (hk.block g (Array.getElem?_eq_some_iff.1 hgg).1 (hv g rfl)).trans hgg, rest⟩
end Go.Proofs.Ytfofbnpgjdagkaa
