
/- How an argument is opened that holds slices of structs: an element's cells one by one, and the whole slice as a list. Over any program. -/
import Derived.Test.YtfofbnpgjdagkaaRows2
import Derived.Deep.Slices
import Derived.Deep.Fields
import Derived.ChangeSame
namespace Go.Proofs.Ytfofbnpgjdagkaa
open Go.ChangeShapes Go.WideShapes Go.Deep Go.RowKit

section
variable {H : Type} {enc : TypeId × Value → H} {P : Program} {w : World} {base : Nat} {spare : Nat → Bool} {held : Bool}

/-- The cells of a struct of one-cell fields: each is read by its field's own type. -/
theorem struct_cells {t : TypeId} {fs : Array Field} {fuel : Nat} {cs : List Value} {x : DataW H × List MemPlace} (ht : P.underlying t = some (.struct fs)) (hone : oneCellFields P fs = true) (hC : P.cellsOf t = fs.size)
    (h : DataW.trod enc P w base spare held fuel t cs = some x) :
    cs.length = fs.size ∧ ∀ (j : Nat) (f : Field), fs[j]? = some f → ∃ v n y, cs[j]? = some v ∧ DataW.trod enc P w base spare held n f.type [v] = some y := by
  obtain ⟨xs, n, _, _, hlen, hxl, hf⟩ := DataW.trod_struct ht h
  rw [hC] at hlen
  refine ⟨hlen, fun j f hj => ?_⟩
  have hjl : j < fs.size := (Array.getElem?_eq_some_iff.1 hj).1
  obtain ⟨ho, hk⟩ := hone_of hone j f hj
  have hg := hf j f hj
  rw [ho, hk] at hg
  have hcj : j < cs.length := by omega
  have hxj : j < xs.length := by omega
  have e : (cs.drop j).take 1 = [cs[j]] := by
    rw [List.drop_eq_getElem_cons hcj]; rfl
  rw [e, List.getElem?_eq_getElem hxj] at hg
  exact ⟨cs[j], n, xs[j], List.getElem?_eq_getElem hcj, hg⟩

/-- A list out of what is known of each place. -/
theorem list_of {α : Type} (n : Nat) (R : Nat → α → Prop) (h : ∀ i, i < n → ∃ d, R i d) : ∃ l : List α, l.length = n ∧ ∀ i x, l[i]? = some x → R i x := by
  induction n with
  | zero => exact ⟨[], rfl, fun i x hx => by simp at hx⟩
  | succ n ih =>
    obtain ⟨l, hl, hr⟩ := ih (fun i hi => h i (by omega))
    obtain ⟨d, hd⟩ := h n (by omega)
    refine ⟨l ++ [d], by simp [hl], fun i x hx => ?_⟩
    rcases Nat.lt_or_ge i l.length with hi | hi
    · rw [List.getElem?_append_left hi] at hx
      exact hr i x hx
    · rw [List.getElem?_append_right hi] at hx
      have : i - l.length = 0 := by
        rcases Nat.eq_zero_or_pos (i - l.length) with h | h
        · exact h
        · rw [List.getElem?_eq_none (by simp; omega)] at hx; cases hx
      rw [this] at hx
      simp at hx
      subst hx
      have : i = n := by omega
      rw [this]; exact hd

/-- A slice that came in, element by element: each element's cells are those of a datum of which Q holds. -/
theorem open_elems {α : Type} (cells : α → List Value) (k : Nat) (Q : α → Prop) {t e : TypeId} {fuel : Nat} {v : Value} {x : DataW H × List MemPlace} (ht : P.underlying t = some (.slice e)) (hC : P.cellsOf e = k) (hlen : ∀ d, (cells d).length = k) (hk0 : 0 < k)
    (dec : ∀ n cs y, DataW.trod enc P w base (fun _ => true) held n e cs = some y → ∃ d, cs = cells d ∧ Q d)
    (h : DataW.trod enc P w base (fun _ => true) held fuel t [v] = some x) :
    ∃ A c l, v = .slice A l.length c ∧ l.length ≤ maxLen ∧ (l.length ≤ 1000000000 → SlOf k cells w (.slice A l.length c) l) ∧ ∀ d ∈ l, Q d := by
  rcases open_slice ht h with ⟨hcs, _⟩ | ⟨a, len, cap, m, n, D, Pl, hcs, _, hl, hm, hmm, _, hi⟩
  · simp at hcs
    subst hcs
    exact ⟨none, 0, [], rfl, by simp, fun h => ⟨h, .inl ⟨rfl, _, _, rfl⟩⟩, by simp⟩
  · simp at hcs
    subst hcs
    simp only [if_true] at hmm
    rw [hmm] at hi
    clear hmm
    rw [hC] at hi
    obtain ⟨l, hll, hr⟩ := list_of len (fun i d => Q d ∧ w.cells? base (a.add (i * k)) k = some (cells d)) (fun i hil => by
      obtain ⟨cs, hc, ht'⟩ := hi i (by omega)
      obtain ⟨d, rfl, hq⟩ := dec _ _ _ ht'
      exact ⟨d, hq, hc⟩)
    subst hll
    refine ⟨some a, cap, l, rfl, by omega, fun h => ⟨h, ?_⟩, fun d hd => ?_⟩
    · rcases Nat.eq_zero_or_pos l.length with h0 | h0
      · exact .inl ⟨List.eq_nil_of_length_eq_zero h0, some a, cap, by rw [h0]⟩
      · right
        obtain ⟨b, off, spot⟩ := a
        have hspot : spot = none := by
          have hq := (hr 0 l[0] (List.getElem?_eq_getElem h0)).2
          obtain ⟨_, hcl, hat⟩ := World.cells?_some hq
          have := hat 0 hk0
          rw [List.getElem?_eq_getElem (by omega)] at this
          simpa [Addr.add] using World.cell?_spot this
        subst hspot
        have hadd : ∀ j, (⟨b, off, none⟩ : Addr).add j = ⟨b, off + j, none⟩ := fun j => by unfold Addr.add; split <;> simp_all
        refine ⟨b, off, cap, rfl, h0, hl, fun i d hd j u hu => ?_⟩
        obtain ⟨_, hcl, hat⟩ := World.cells?_some (hr i d hd).2
        have hj : j < k := by have := (List.getElem?_eq_some_iff.1 hu).1; rw [hlen] at this; exact this
        have := hat j hj
        rw [hadd, hu] at this
        have hadd2 : (⟨b, off + i * k, none⟩ : Addr).add j = ⟨b, off + i * k + j, none⟩ := by unfold Addr.add; split <;> simp_all
        rw [hadd2] at this
        exact this
    · obtain ⟨i, hi⟩ := List.getElem?_of_mem hd
      exact (hr i d hi).1
end

end Go.Proofs.Ytfofbnpgjdagkaa
