
/- The builtin copy over elements of several cells; lists laid over lists; rows that are owned, by their block. Over any program. -/
import Derived.Test.YtgjappjlnkdpnaaRows2
import Derived.Test.YtgjappjlnkdpnaaBlk0
import Derived.Laws.CopyOwn
import Derived.Shelf.Spec.SlicesInsertGrow
namespace Go.Proofs.Ytgjappjlnkdpnaa
open Go.RowKit

section
variable {P : Program}
theorem run_copy_rowK (w : World) (dT sT ty elem : TypeId) (g o dLen dCap : Nat) (a : Addr) (sLen sCap : Nat) (cur : Array Value) (t : TypeId) (cs : List Value) (size : Nat)
    (hu : P.underlying dT = some (.slice elem)) (hs : (P.info? elem).map (·.size) = some size)
    (hg : w.heap[g]? = some (.cells cur t (0, 0))) (hn : cs.length = Nat.min sLen dLen * size)
    (hsrc : ∀ j v, cs[j]? = some v → w.cell? (a.add j) = some v) (hfit : o + cs.length ≤ cur.size) (h1 : ∀ v ∈ cs, v.oneCell' = true) :
    (Builtin.copy_ #[dT, sT] ty #[.slice (some ⟨g, o, none⟩) dLen dCap, .slice (some a) sLen sCap]).run P w =
      .ok (goInt (Nat.min sLen dLen)) (w.setRow g (splice cur.toList o cs).toArray) := by
  have hl := run_loadCells_list (P := P) w a cs hsrc
  have hst := run_storeCells_at P g o t cs 0 cur w hg (by simpa using hfit) h1
  cases hq : P.info? elem with
  | none => simp [hq] at hs
  | some i =>
    have hi : i.size = size := by simpa [hq] using hs
    simp [Builtin.copy_, run_underlying hu, Builtin.lenOf, Builtin.firstCells, sizeOf, typeInfo, hq, hi, ← hn, hl, hst, splice]
end

theorem splice_mid {α : Type} (A B C cs : List α) (off : Nat) (hA : off = A.length) (hB : cs.length = B.length) : splice (A ++ (B ++ C)) off cs = A ++ (cs ++ C) := by
  subst hA
  unfold splice
  rw [List.take_left, hB, ← List.append_assoc A B C, show A.length + B.length = (A ++ B).length by simp, List.drop_left]

theorem oneCell_flat {α : Type} {cs : α → List Value} (h : ∀ x, ∀ v ∈ cs x, v.oneCell' = true) (l : List α) : ∀ v ∈ l.flatMap cs, v.oneCell' = true := by
  intro v hv
  obtain ⟨x, _, hx⟩ := List.mem_flatMap.1 hv
  exact h x v hx

/-- An owned row that is not empty lies in a block whose cells begin with it. -/
theorem own_block {α : Type} {k : Nat} {cs : α → List Value} {t : TypeId} {w : World} {base : Nat} {v : Value} {l : List α} (h : OwnOf k cs t w base v l) (hl : 0 < l.length) :
    ∃ g cap R, v = .slice (some ⟨g, 0, none⟩) l.length cap ∧ base ≤ g ∧ w.heap[g]? = some (.cells (l.flatMap cs ++ R).toArray t (0, 0)) ∧ l.length ≤ cap ∧ cap ≤ maxLen ∧ (l.flatMap cs ++ R).length = cap * k := by
  obtain ⟨hx, h | ⟨g, cap, cur, rfl, hb, hg, h1, h2, h3, h4⟩⟩ := h
  · omega
  · refine ⟨g, cap, cur.toList.drop (l.length * k), rfl, hb, ?_, h1, h2, ?_⟩
    · rw [← h4, List.take_append_drop]; exact hg
    · rw [← h4, List.take_append_drop]; simpa using h3
theorem own_of_block {α : Type} {k : Nat} {cs : α → List Value} {t : TypeId} {w : World} {base g cap : Nat} {l : List α} {R : List Value} (hk : ∀ x, (cs x).length = k) (hb : base ≤ g) (hg : w.heap[g]? = some (.cells (l.flatMap cs ++ R).toArray t (0, 0))) (h1 : l.length ≤ cap) (h2 : cap ≤ maxLen) (h3 : (l.flatMap cs ++ R).length = cap * k) :
    OwnOf k cs t w base (.slice (some ⟨g, 0, none⟩) l.length cap) l := by
  refine ⟨flat_len hk l, .inr ⟨g, cap, _, rfl, hb, hg, h1, h2, by simpa using h3, ?_⟩⟩
  rw [List.take_append_of_le_length (by rw [flat_len hk]; exact Nat.le_refl _), List.take_of_length_le (by rw [flat_len hk]; exact Nat.le_refl _)]

theorem grown_setRow (w : World) (g : Nat) (cs : Array Value) : w.grownBy (w.setRow g cs) (some g) :=
  ⟨rfl, rfl, rfl, by simp [World.setRow], fun i _ hne => setRow_other w g i cs (fun e => hne (by rw [e]))⟩

/-- What slices.Insert gives of a row. -/
def insL {α : Type} (l : List α) (i : Nat) (x : α) : List α := l.take i ++ x :: l.drop i
theorem insL_length {α : Type} (l : List α) (i : Nat) (x : α) (hi : i ≤ l.length) : (insL l i x).length = l.length + 1 := by unfold insL; simp; omega
theorem insL_flat {α : Type} (cs : α → List Value) (l : List α) (i : Nat) (x : α) : (insL l i x).flatMap cs = (l.take i).flatMap cs ++ (cs x ++ (l.drop i).flatMap cs) := by unfold insL; simp

end Go.Proofs.Ytgjappjlnkdpnaa
