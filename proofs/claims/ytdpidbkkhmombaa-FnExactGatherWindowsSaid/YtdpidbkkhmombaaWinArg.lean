
/- Windows as a law's argument, and values over memory of their own that lie still while others are marked. -/
import Derived.Test.YtdpidbkkhmombaaWindows
import Derived.Test.YtdpidbkkhmombaaKit
namespace Go.Proofs.Ytdpidbkkhmombaa
open Go.ChangeShapes Go.WideShapes Go.ChangeAt Go.Deep Go.RowKit
set_option maxRecDepth 100000

/-- A list of windows that came in. -/
def WinIn (w : World) (A : Option Addr) (c : Nat) (l : List WindowD) : Prop :=
  l.length ≤ maxLen ∧ (l.length ≤ 1000000000 → SlWindow w (.slice A l.length c) l) ∧ ∀ d ∈ l, WindowD.wf d
theorem open_windows_arg {H : Type} {enc : TypeId × Value → H} {W : World} {r : Reach} {b0 : Nat} {v : Value} {d : DataW H} {ps : List MemPlace}
    (hval : Value.okWide Try.prog W r b0 47 v) (hd : DataW.Trod enc Try.prog W 0 (fun _ => true) true 47 v d ps) :
    ∃ A c l, v = .slice A l.length c ∧ WinIn W A c l := by
  obtain ⟨A, len, cap, rfl⟩ := okWide_slice Try.underlying47 hval
  obtain ⟨fuel, hf⟩ := hd
  obtain ⟨A', c', l, hv, h1, h2, h3⟩ := open_windows hf
  exact ⟨A', c', l, hv, h1, h2, h3⟩

/-- A value that reads as a list of windows over memory of its own, in blocks from N up to M, that can be written. -/
def KeptW (w : World) (N M : Nat) (v : Value) (l : List WindowD) : Prop :=
  SlWindow w v l ∧ (∀ g, v.ownBlock = some g → N ≤ g ∧ g < M ∧ ∀ j, w.frozen? ⟨g, j, none⟩ = false) ∧ M ≤ w.heap.size
theorem KeptW.of_own {w : World} {N : Nat} {v : Value} {l : List WindowD} (h : OwnWindow w N v l) (hl : l.length ≤ 1000000000) : KeptW w N w.heap.size v l := by
  refine ⟨OwnWindow.sl h hl, fun g hg => ?_, Nat.le_refl _⟩
  have h1 := World.ownsRow.lt h g hg
  refine ⟨h1.1, h1.2, fun j => ?_⟩
  obtain ⟨A, c, rfl⟩ := own_form h
  obtain ⟨_, h2⟩ := h
  rcases h2 with ⟨hv, _⟩ | ⟨g', cap, cur, hv, hx⟩
  · rw [hv] at hg; simp [Value.ownBlock] at hg
  · rw [hv] at hg
    simp only [Value.ownBlock, Option.some.injEq] at hg
    subst hg
    unfold World.frozen?
    rw [hx.2.1]
    simp
theorem KeptW.below {w w' : World} {N M : Nat} {v : Value} {l : List WindowD} (h : KeptW w N M v l) (hb : Below w.heap.size w w') : KeptW w' N M v l :=
  ⟨h.1.below hb, fun g hg => ⟨(h.2.1 g hg).1, (h.2.1 g hg).2.1, fun j => (hb.frozen (p := ⟨g, j, none⟩) (Nat.lt_of_lt_of_le (h.2.1 g hg).2.1 h.2.2)).trans ((h.2.1 g hg).2.2 j)⟩, Nat.le_trans h.2.2 hb.size⟩
theorem frozen_grown {w w' : World} {row : Option Nat} (hg : w.grownBy w' row) {g : Nat} (hl : g < w.heap.size) (hne : some g ≠ row) (j : Nat) : w'.frozen? ⟨g, j, none⟩ = w.frozen? ⟨g, j, none⟩ := by
  unfold World.frozen?
  rw [hg.block g hl (fun e => hne e)]
theorem KeptW.grown {w w' : World} {N M : Nat} {v : Value} {l : List WindowD} {row : Option Nat} (h : KeptW w N M v l) (hg : w.grownBy w' row) (hr : ∀ g, row = some g → g < N ∨ M ≤ g) : KeptW w' N M v l := by
  have hne : ∀ g, v.ownBlock = some g → some g ≠ row := fun g hv e => by
    have h1 := h.2.1 g hv
    have h2 := hr g e.symm
    omega
  refine ⟨SlOf.grown h.1 hg ?_, fun g hv => ⟨(h.2.1 g hv).1, (h.2.1 g hv).2.1, fun j => ?_⟩, Nat.le_trans h.2.2 hg.size⟩
  · cases hv : v.ownBlock with
    | none => exact .inl rfl
    | some g => exact .inr (hne g hv)
  · rw [frozen_grown hg (Nat.lt_of_lt_of_le (h.2.1 g hv).2.1 h.2.2) (hne g hv)]
    exact (h.2.1 g hv).2.2 j
theorem KeptW.free {w : World} {N M : Nat} {v : Value} {l : List WindowD} (h : KeptW w N M v l) : ∀ g, v.ownBlock = some g → ∀ j, w.frozen? ⟨g, j, none⟩ = false := fun g hg => (h.2.1 g hg).2.2
theorem KeptW.lo {w : World} {N M : Nat} {v : Value} {l : List WindowD} (h : KeptW w N M v l) : ∀ g, v.ownBlock = some g → N ≤ g := fun g hg => (h.2.1 g hg).1
theorem KeptW.hi {w : World} {N M : Nat} {v : Value} {l : List WindowD} (h : KeptW w N M v l) : ∀ g, v.ownBlock = some g → g < M := fun g hg => (h.2.1 g hg).2.1
theorem new_kept {l : List WindowD} {w w' : World} {e : Ending} (h : NewWindow l w e w') (hl : l.length ≤ 1000000000) : ∃ A c, e = .returned (.slice A l.length c) ∧ KeptW w' w.heap.size w'.heap.size (.slice A l.length c) l ∧ Below w.heap.size w w' := by
  obtain ⟨v, he, ho, hb⟩ := h
  obtain ⟨A, c, rfl⟩ := own_form ho
  exact ⟨A, c, he, KeptW.of_own ho hl, hb⟩
end Go.Proofs.Ytdpidbkkhmombaa
