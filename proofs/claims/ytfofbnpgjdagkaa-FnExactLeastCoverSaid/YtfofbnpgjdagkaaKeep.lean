
/- What leaves all blocks but some as they were; lists of lists that are appended. Over any program. -/
import Derived.Test.YtfofbnpgjdagkaaIntSS
import Derived.Test.YtfofbnpgjdagkaaAppendKeeps
import Derived.Test.YtfofbnpgjdagkaaKeepX
namespace Go.Proofs.Ytfofbnpgjdagkaa
open Go.RowKit
set_option maxRecDepth 100000

theorem Both.imp_mem {α β : Type} {R S : α → β → Prop} {l : List α} {m : List β} (h : Both R l m) (f : ∀ x ∈ l, ∀ y, R x y → S x y) : Both S l m := by
  induction h with
  | nil => exact .nil
  | cons h _ ih => exact .cons (f _ (by simp) _ h) (ih fun x hx y => f x (by simp [hx]) y)
theorem Both.append {α β : Type} {R : α → β → Prop} {l l' : List α} {m m' : List β} (h : Both R l m) (h' : Both R l' m') : Both R (l ++ l') (m ++ m') := by
  induction h with
  | nil => exact h'
  | cons h _ ih => exact .cons h ih
/-- A list of lists from base on, below top. -/
def LLIn (w : World) (base top : Nat) (v : Value) (ll : List (List Int)) : Prop :=
  ∃ vs, OwnOf 1 headCells 23 w base v vs ∧ Both (OwnInt w base) vs ll ∧ vs.Pairwise ApartV ∧ (∀ u ∈ vs, ApartV v u) ∧ RangeV v base top ∧ ∀ u ∈ vs, RangeV u base top
theorem OwnLL.in {w : World} {base : Nat} {v : Value} {ll : List (List Int)} (h : OwnLL w base v ll) : LLIn w base w.heap.size v ll := by
  obtain ⟨vs, ho, hB, hp, hv⟩ := h
  exact ⟨vs, ho, hB, hp, hv, own_range ho, fun u hu => by obtain ⟨l, _, h⟩ := hB.mem hu; exact own_range h⟩
theorem LLIn.own {w : World} {base top : Nat} {v : Value} {ll : List (List Int)} (h : LLIn w base top v ll) : OwnLL w base v ll := by
  obtain ⟨vs, ho, hB, hp, hv, _⟩ := h
  exact ⟨vs, ho, hB, hp, hv⟩
theorem LLIn.keep {ex : Nat → Prop} {w w' : World} {base top : Nat} {v : Value} {ll : List (List Int)} (h : LLIn w base top v ll) (hk : KeepX ex w w') (hx : ∀ g, base ≤ g → g < top → ¬ ex g) : LLIn w' base top v ll := by
  obtain ⟨vs, ho, hB, hp, hv, hr, hrs⟩ := h
  exact ⟨vs, own_keep ho hk (fun g hg => hx g (hr g hg).1 (hr g hg).2), hB.imp_mem (fun u hu l h => own_keep h hk (fun g hg => hx g (hrs u hu g hg).1 (hrs u hu g hg).2)), hp, hv, hr, hrs⟩
theorem LLIn.wide {w : World} {base top top' : Nat} {v : Value} {ll : List (List Int)} (h : LLIn w base top v ll) (ht : top ≤ top') : LLIn w base top' v ll := by
  obtain ⟨vs, ho, hB, hp, hv, hr, hrs⟩ := h
  exact ⟨vs, ho, hB, hp, hv, fun g hg => ⟨(hr g hg).1, Nat.lt_of_lt_of_le (hr g hg).2 ht⟩, fun u hu g hg => ⟨(hrs u hu g hg).1, Nat.lt_of_lt_of_le (hrs u hu g hg).2 ht⟩⟩
theorem LLIn.nil (w : World) (base top : Nat) : LLIn w base top (.slice none 0 0) [] :=
  ⟨[], ⟨by simp, .inl ⟨rfl, rfl⟩⟩, .nil, List.Pairwise.nil, fun u hu => by simp at hu, fun g hg => by simp [Value.ownBlock] at hg, fun u hu => by simp at hu⟩
theorem LLIn.range {w : World} {base top : Nat} {v : Value} {ll : List (List Int)} (h : LLIn w base top v ll) : ∀ g, v.ownBlock = some g → base ≤ g ∧ g < top := by
  obtain ⟨_, _, _, _, _, hr, _⟩ := h
  exact hr
theorem LLIn.form {w : World} {base top : Nat} {v : Value} {ll : List (List Int)} (h : LLIn w base top v ll) : ∃ A c, v = .slice A ll.length c ∧ ll.length ≤ c := by
  obtain ⟨vs, ho, hB, _⟩ := h
  rw [← (forall2_at hB).1]
  rcases ho.2 with ⟨rfl, h0⟩ | ⟨g, cap, cur, rfl, _, _, hc, _⟩
  · exact ⟨none, 0, by rw [h0], by omega⟩
  · exact ⟨_, cap, rfl, hc⟩
theorem info_intS : ∃ i0, Try.prog.info? 23 = some i0 ∧ i0.zero = some (.slice none 0 0) ∧ i0.size = 1 ∧ i0.bytes = 24 := by
  have h : (Try.prog.info? 23).map (fun i => (i.zero, i.size, i.bytes)) = some (some (.slice none 0 0), 1, 24) := by kernel_rfl
  exact info_parts h
theorem flat_head (vs : List Value) : vs.flatMap headCells = vs := by
  induction vs with
  | nil => rfl
  | cons x l ih => rw [List.flatMap_cons, ih]; rfl
theorem LLIn.one {w : World} {base top : Nat} {u : Value} {l : List Int} (h : OwnInt w base u l) (hb : base ≤ w.heap.size) (hr : RangeV u base w.heap.size) (ht : w.heap.size < top) : LLIn (w.alloc (.cells #[u] 23)) base top (.slice (some ⟨w.heap.size, 0, none⟩) 1 1) [l] := by
  have h1 := World.ownsRow_lit (base := base) (e := 23) (size := 1) w #[u] 1 hb (by unfold maxLen; omega) (by simp)
  refine ⟨[u], ?_, .cons (own_below h (Joins.below_alloc1 w _)) .nil, by simp, fun x hx => ?_, fun g hg => ?_, fun x hx g hg => ?_⟩
  · simpa [OwnOf, headCells] using h1
  · simp at hx; subst hx
    intro g hg hg'
    simp [Value.ownBlock] at hg
    have := hr g hg'
    omega
  · simp [Value.ownBlock] at hg
    omega
  · simp at hx; subst hx
    have := hr g hg
    omega

theorem LLIn.lo {w : World} {base base' top : Nat} {v : Value} {ll : List (List Int)} (h : LLIn w base top v ll) (hb : base' ≤ base) : LLIn w base' top v ll := by
  obtain ⟨vs, ho, hB, hp, hv, hr, hrs⟩ := h
  exact ⟨vs, own_lo ho hb, hB.imp fun u l h => own_lo h hb, hp, hv, fun g hg => ⟨Nat.le_trans hb (hr g hg).1, (hr g hg).2⟩, fun u hu g hg => ⟨Nat.le_trans hb (hrs u hu g hg).1, (hrs u hu g hg).2⟩⟩

section
variable (w : World)
end
end Go.Proofs.Ytfofbnpgjdagkaa
