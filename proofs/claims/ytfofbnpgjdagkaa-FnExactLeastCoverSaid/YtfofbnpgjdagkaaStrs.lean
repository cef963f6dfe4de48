
/- A slice value that reads as a list of strings, and one that is new: what they are good for. -/
import Derived.Test.YtfofbnpgjdagkaaText
namespace Go.Proofs.Ytfofbnpgjdagkaa
open Go.RowKit

/-! ### A slice value that reads as a list of strings -/
def SlS (w : World) (v : Value) (l : List ByteArray) : Prop :=
  l.length ≤ 1000000000 ∧ ((l = [] ∧ ∃ A c, v = .slice A 0 c) ∨
    ∃ g o c, v = .slice (some ⟨g, o, none⟩) l.length c ∧ 0 < l.length ∧ l.length ≤ c ∧ ∀ j x, l[j]? = some x → w.cell? ⟨g, o + j, none⟩ = some (.string x))

theorem SlS.grown {w w' : World} {v : Value} {l : List ByteArray} {row : Option Nat} (h : SlS w v l) (hg : w.grownBy w' row) (hne : v.ownBlock = none ∨ v.ownBlock ≠ row) : SlS w' v l := by
  obtain ⟨hl, h⟩ := h
  refine ⟨hl, ?_⟩
  rcases h with h | ⟨g, o, c, rfl, hp, hcap, hc⟩
  · exact .inl h
  · refine .inr ⟨g, o, c, rfl, hp, hcap, fun j x hx => hg.cell (hc j x hx) ?_⟩
    rcases hne with hne | hne
    · simp [Value.ownBlock] at hne
    · exact hne
theorem SlS.below {w w' : World} {v : Value} {l : List ByteArray} (h : SlS w v l) (hb : Below w.heap.size w w') : SlS w' v l := by
  obtain ⟨hl, h⟩ := h
  refine ⟨hl, ?_⟩
  rcases h with h | ⟨g, o, c, rfl, hp, hcap, hc⟩
  · exact .inl h
  · exact .inr ⟨g, o, c, rfl, hp, hcap, fun j x hx => (hb.cell (World.block_lt_of_cell? w _ (hc j x hx))).trans (hc j x hx)⟩

theorem info_str : (Try.prog.info? 9).map (fun i => (i.zero, i.size, i.bytes)) = some (some (.string ⟨#[]⟩), 1, 16) := by kernel_rfl

def OwnStrs (w : World) (base : Nat) (v : Value) (l : List ByteArray) : Prop := w.ownsRow base 9 1 v l.length (l.map Value.string)

/-- What a splitting function leaves: a new list. -/
def NewStrs (l : List ByteArray) (w : World) (e : Ending) (w' : World) : Prop := ∃ v, e = .returned v ∧ OwnStrs w' w.heap.size v l ∧ Below w.heap.size w w'

theorem own_next {w2 : World} {base : Nat} {v : Value} {l : List ByteArray} {x : ByteArray} (h : w2.ownsRow base 9 1 v (l.length + 1) (l.map Value.string ++ [.string x])) : OwnStrs w2 base v (l ++ [x]) := by
  unfold OwnStrs
  simpa using h

theorem own_lower {w : World} {base base' : Nat} {v : Value} {l : List ByteArray} (h : OwnStrs w base v l) (hb : base' ≤ base) : OwnStrs w base' v l := by
  obtain ⟨h1, h2⟩ := h
  refine ⟨h1, ?_⟩
  rcases h2 with h2 | ⟨g, cap, cur, e, hg, r⟩
  · exact .inl h2
  · exact .inr ⟨g, cap, cur, e, Nat.le_trans hb hg, r⟩

theorem own_drewN {w : World} {base : Nat} {v : Value} {l : List ByteArray} (h : OwnStrs w base v l) (n : Nat) : OwnStrs (w.drewN n) base v l := h
/-! ### What a new list is good for -/
theorem own_sls {w : World} {base : Nat} {v : Value} {l : List ByteArray} (h : OwnStrs w base v l) (hl : l.length ≤ 1000000000) : SlS w v l := by
  refine ⟨hl, ?_⟩
  have hc : ∀ g, v.ownBlock = some g → ∀ j u, (l.map Value.string)[j]? = some u → w.cell? ((⟨g, 0, none⟩ : Addr).add j) = some u := fun g hg => World.ownsRow.cells h hg
  obtain ⟨_, h2⟩ := h
  rcases Nat.eq_zero_or_pos l.length with h0 | h0
  · left
    refine ⟨List.eq_nil_of_length_eq_zero h0, ?_⟩
    rcases h2 with ⟨rfl, _⟩ | ⟨g, cap, cur, rfl, _⟩
    · exact ⟨_, _, rfl⟩
    · exact ⟨_, _, by rw [h0]⟩
  · right
    rcases h2 with ⟨_, hn⟩ | ⟨g, cap, cur, rfl, _, _, hle, _⟩
    · omega
    · refine ⟨g, 0, cap, rfl, h0, hle, fun j x hx => ?_⟩
      have := hc g rfl j (.string x) (by simp [hx])
      have hadd : (⟨g, 0, none⟩ : Addr).add j = ⟨g, 0 + j, none⟩ := by unfold Addr.add; split <;> simp_all
      rw [hadd] at this
      exact this
theorem own_unfrozen {w : World} {base : Nat} {v : Value} {l : List ByteArray} (h : OwnStrs w base v l) : ∀ g, v.ownBlock = some g → ∀ j, w.frozen? ⟨g, j, none⟩ = false := by
  intro g hg j
  obtain ⟨_, h2⟩ := h
  rcases h2 with ⟨rfl, _⟩ | ⟨g', cap, cur, rfl, _, hh, _⟩
  · simp [Value.ownBlock] at hg
  · simp [Value.ownBlock] at hg
    subst hg
    simp [World.frozen?, hh]
theorem own_apart {w w' : World} {base base' : Nat} {v v' : Value} {l l' : List ByteArray} (h : OwnStrs w base v l) (h' : OwnStrs w' base' v' l') (hb : w.heap.size ≤ base') : v.ownBlock = none ∨ v.ownBlock ≠ v'.ownBlock := by
  cases hv : v.ownBlock with
  | none => exact .inl rfl
  | some k =>
    right
    intro e
    have h1 := (World.ownsRow.lt h k hv).2
    have h2 := (World.ownsRow.lt h' k e.symm).1
    omega

end Go.Proofs.Ytfofbnpgjdagkaa
