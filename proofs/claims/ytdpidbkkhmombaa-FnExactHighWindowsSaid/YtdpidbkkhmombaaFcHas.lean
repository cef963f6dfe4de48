
/- A forecast over two lists of its own, in a range of blocks. -/
import Derived.Test.YtdpidbkkhmombaaForecast
import Derived.Test.YtdpidbkkhmombaaFcMarks
namespace Go.Proofs.Ytdpidbkkhmombaa
open Go.RowKit
set_option maxRecDepth 100000

/-- A forecast over two lists of its own, in blocks from base to top. -/
def FHas (base top : Nat) (v u : Value) (l : List PartD) (s : List SurgeD) (w : World) : Prop :=
  OwnP w base v l ∧ OwnSurge w base u s ∧ Apart v u ∧ (∀ g, v.ownBlock = some g → base ≤ g ∧ g < top) ∧ (∀ g, u.ownBlock = some g → base ≤ g ∧ g < top) ∧ top ≤ w.heap.size
theorem FHas.mk' {base : Nat} {v u : Value} {l : List PartD} {s : List SurgeD} {w : World} (h1 : OwnP w base v l) (h2 : OwnSurge w base u s) (h3 : Apart v u) : FHas base w.heap.size v u l s w :=
  ⟨h1, h2, h3, World.ownsRow.lt h1, World.ownsRow.lt h2, Nat.le_refl _⟩
theorem FHas.below {base top : Nat} {v u : Value} {l : List PartD} {s : List SurgeD} {w w' : World} (h : FHas base top v u l s w) (hb : Below w.heap.size w w') : FHas base top v u l s w' :=
  ⟨own_below h.1 hb, own_below h.2.1 hb, h.2.2.1, h.2.2.2.1, h.2.2.2.2.1, Nat.le_trans h.2.2.2.2.2 hb.size⟩
theorem FHas.slp {base top : Nat} {v u : Value} {l : List PartD} {s : List SurgeD} {w : World} (h : FHas base top v u l s w) (hl : l.length ≤ 1000000000) : SlP w v l := own_sl partLen h.1 hl
theorem FHas.sls {base top : Nat} {v u : Value} {l : List PartD} {s : List SurgeD} {w : World} (h : FHas base top v u l s w) (hl : s.length ≤ 1000000000) : SlSurge w u s := own_sl surgeLen h.2.1 hl
theorem free_own' {k : Nat} {w : World} {base : Nat} {e : TypeId} {v : Value} {n : Nat} {xs : List Value} (h : w.ownsRow base e k v n xs) : Free w v := by
  intro g hg j
  obtain ⟨_, ⟨rfl, _⟩ | ⟨g', cap, cur, rfl, _, hb, _⟩⟩ := h
  · cases hg
  · simp [Value.ownBlock] at hg
    subst hg
    exact Joins.unfrozen_of_block hb j
theorem NewFc.fhas {m : Int} {l : List PartD} {s : List SurgeD} {w w' : World} {e : Ending} (h : NewFc m l s w e w') :
    ∃ A c A' c', e = .returned (.agg #[.int .i64 m, .slice A l.length c, .slice A' s.length c']) ∧ FHas w.heap.size w'.heap.size (.slice A l.length c) (.slice A' s.length c') l s w' ∧ Below w.heap.size w w' := by
  obtain ⟨v, u, rfl, h1, h2, h3, hb⟩ := h
  obtain ⟨A, c, rfl⟩ := own_form h1
  obtain ⟨A', c', rfl⟩ := own_form h2
  exact ⟨A, c, A', c', rfl, FHas.mk' h1 h2 h3, hb⟩
end Go.Proofs.Ytdpidbkkhmombaa
