
/- What ExactRivalDuties and Dilworth and CoversLaw rests on, part 1: contracts and mathematics. -/
import Derived.Test.YtfofbnpgjdagkaaCv0
import Derived.Deep.Slices
import Derived.Deep.Fields
import Derived.ChangeSame
import Derived.Lib.SmallJoins
import Derived.Test.YtfofbnpgjdagkaaChecked
namespace Go.Proofs.Ytfofbnpgjdagkaa
open Go.ChangeShapes Go.WideShapes Go.Deep Go.RowKit
section
variable {H : Type} {enc : TypeId × Value → H} {P : Program} {w : World} {base : Nat} {spare : Nat → Bool} {held : Bool}
/-- The cells of a struct of one-cell fields: each is read by its field's own type. -/
theorem struct_cells {t : TypeId} {fs : Array Field} {fuel : Nat} {cs : List Value} {x : DataW H × List MemPlace} (ht : P.underlying t = some (.struct fs)) (hone : oneCellFields P fs = true) (hC : P.cellsOf t = fs.size)
    (h : DataW.trod enc P w base spare held fuel t cs = some x) :
    cs.length = fs.size ∧ ∀ (j : Nat) (f : Field), fs[j]? = some f → ∃ v n y, cs[j]? = some v ∧ DataW.trod enc P w base spare held n f.type [v] = some y := by
  obtain ⟨xs, n, _, _, hlen, hxl, hf⟩ := DataW.trod_struct ht h
  rw [hC] at hlen
  refine ⟨hlen, fun j f hj => ?_⟩
  have hjl : j < fs.size := (Array.getElem?_eq_some_iff.1 hj).1
  obtain ⟨ho, hk⟩ := hone_of hone j f hj
  have hg := hf j f hj
  rw [ho, hk] at hg
  have hcj : j < cs.length := by omega
  have hxj : j < xs.length := by omega
  have e : (cs.drop j).take 1 = [cs[j]] := by
    rw [List.drop_eq_getElem_cons hcj]; rfl
  rw [e, List.getElem?_eq_getElem hxj] at hg
  exact ⟨cs[j], n, xs[j], List.getElem?_eq_getElem hcj, hg⟩
/-- A list out of what is known of each place. -/
theorem list_of {α : Type} (n : Nat) (R : Nat → α → Prop) (h : ∀ i, i < n → ∃ d, R i d) : ∃ l : List α, l.length = n ∧ ∀ i x, l[i]? = some x → R i x := by
  induction n with
  | zero => exact ⟨[], rfl, fun i x hx => by simp at hx⟩
  | succ n ih =>
    obtain ⟨l, hl, hr⟩ := ih (fun i hi => h i (by omega))
    obtain ⟨d, hd⟩ := h n (by omega)
    refine ⟨l ++ [d], by simp [hl], fun i x hx => ?_⟩
    rcases Nat.lt_or_ge i l.length with hi | hi
    · rw [List.getElem?_append_left hi] at hx
      exact hr i x hx
    · rw [List.getElem?_append_right hi] at hx
      have : i - l.length = 0 := by
        rcases Nat.eq_zero_or_pos (i - l.length) with h | h
        · exact h
        · rw [List.getElem?_eq_none (by simp; omega)] at hx; cases hx
      rw [this] at hx
      simp at hx
      subst hx
      have : i = n := by omega
      rw [this]; exact hd
/-- A slice that came in, element by element: each element's cells are those of a datum of which Q holds. -/
theorem open_elems {α : Type} (cells : α → List Value) (k : Nat) (Q : α → Prop) {t e : TypeId} {fuel : Nat} {v : Value} {x : DataW H × List MemPlace} (ht : P.underlying t = some (.slice e)) (hC : P.cellsOf e = k) (hlen : ∀ d, (cells d).length = k) (hk0 : 0 < k)
    (dec : ∀ n cs y, DataW.trod enc P w base (fun _ => true) held n e cs = some y → ∃ d, cs = cells d ∧ Q d)
    (h : DataW.trod enc P w base (fun _ => true) held fuel t [v] = some x) :
    ∃ A c l, v = .slice A l.length c ∧ l.length ≤ maxLen ∧ (l.length ≤ 1000000000 → SlOf k cells w (.slice A l.length c) l) ∧ ∀ d ∈ l, Q d := by
  rcases open_slice ht h with ⟨hcs, _⟩ | ⟨a, len, cap, m, n, D, Pl, hcs, _, hl, hm, hmm, _, hi⟩
  · simp at hcs
    subst hcs
    exact ⟨none, 0, [], rfl, by simp, fun h => ⟨h, .inl ⟨rfl, _, _, rfl⟩⟩, by simp⟩
  · simp at hcs
    subst hcs
    simp only [if_true] at hmm
    rw [hmm] at hi
    clear hmm
    rw [hC] at hi
    obtain ⟨l, hll, hr⟩ := list_of len (fun i d => Q d ∧ w.cells? base (a.add (i * k)) k = some (cells d)) (fun i hil => by
      obtain ⟨cs, hc, ht'⟩ := hi i (by omega)
      obtain ⟨d, rfl, hq⟩ := dec _ _ _ ht'
      exact ⟨d, hq, hc⟩)
    subst hll
    refine ⟨some a, cap, l, rfl, by omega, fun h => ⟨h, ?_⟩, fun d hd => ?_⟩
    · rcases Nat.eq_zero_or_pos l.length with h0 | h0
      · exact .inl ⟨List.eq_nil_of_length_eq_zero h0, some a, cap, by rw [h0]⟩
      · right
        obtain ⟨b, off, spot⟩ := a
        have hspot : spot = none := by
          have hq := (hr 0 l[0] (List.getElem?_eq_getElem h0)).2
          obtain ⟨_, hcl, hat⟩ := World.cells?_some hq
          have := hat 0 hk0
          rw [List.getElem?_eq_getElem (by omega)] at this
          simpa [Addr.add] using World.cell?_spot this
        subst hspot
        have hadd : ∀ j, (⟨b, off, none⟩ : Addr).add j = ⟨b, off + j, none⟩ := fun j => by unfold Addr.add; split <;> simp_all
        refine ⟨b, off, cap, rfl, h0, hl, fun i d hd j u hu => ?_⟩
        obtain ⟨_, hcl, hat⟩ := World.cells?_some (hr i d hd).2
        have hj : j < k := by have := (List.getElem?_eq_some_iff.1 hu).1; rw [hlen] at this; exact this
        have := hat j hj
        rw [hadd, hu] at this
        have hadd2 : (⟨b, off + i * k, none⟩ : Addr).add j = ⟨b, off + i * k + j, none⟩ := by unfold Addr.add; split <;> simp_all
        rw [hadd2] at this
        exact this
    · obtain ⟨i, hi⟩ := List.getElem?_of_mem hd
      exact (hr i d hi).1
end
end Go.Proofs.Ytfofbnpgjdagkaa
namespace Go.Proofs.Ytfofbnpgjdagkaa
open Go.RowKit
theorem grown_below {a b c : World} {row : Option Nat} (h : a.grownBy b row) (hb : Below b.heap.size b c) : a.grownBy c row :=
  ⟨hb.os.trans h.os, hb.tape.trans h.tape, hb.output.trans h.output, Nat.le_trans h.size hb.size, fun i hi hn => (hb.block i (Nat.lt_of_lt_of_le hi h.size)).trans (h.block i hi hn)⟩
theorem grown_set {a w : World} {g o : Nat} (h : a.grownBy w (some g)) (u : Value) : a.grownBy (w.setCell ⟨g, o, none⟩ u) (some g) :=
  ⟨h.os, h.tape, h.output, by simpa [World.setCell] using h.size, fun i hi hne => (Below.heap_setCell w _ u i (by rintro rfl; exact hne rfl)).trans (h.block i hi hne)⟩
theorem setCell_frozen (w : World) (a b : Addr) (u : Value) (h : w.frozen? b = false) : (w.setCell a u).frozen? b = false := by
  rw [World.frozen?_setCell]; exact h
end Go.Proofs.Ytfofbnpgjdagkaa
namespace Go.Proofs.Ytfofbnpgjdagkaa
def runB {α : Type} (p : List α → α → Bool) : List α → List α → Bool
  | _, [] => true
  | done, x :: l => p done x && runB p (done ++ [x]) l
section
variable {α : Type} {p : List α → α → Bool} {l : List α} {i : Nat} {x : α}
theorem runB_app : ∀ (a b d : List α), runB p d (a ++ b) = (runB p d a && runB p (d ++ a) b)
  | [], b, d => by simp [runB]
  | y :: a, b, d => by
    show (p d y && runB p (d ++ [y]) (a ++ b)) = ((p d y && runB p (d ++ [y]) a) && _)
    rw [runB_app a b (d ++ [y]), Bool.and_assoc, List.append_assoc]
    rfl
theorem runB_snoc (l : List α) (x : α) : runB p [] (l ++ [x]) = (runB p [] l && p l x) := by
  rw [runB_app]
  simp [runB]
/-- The first i elements hold. -/
def RunTo (p : List α → α → Bool) (l : List α) (i : Nat) : Prop := runB p [] (l.take i) = true
theorem RunTo.zero (p : List α → α → Bool) (l : List α) : RunTo p l 0 := rfl
theorem runB_part (a b : List α) (h : runB p [] (a ++ b) = true) : runB p [] a = true := by
  rw [runB_app, Bool.and_eq_true] at h
  exact h.1
theorem run_no (hx : l[i]? = some x) (hp : p (l.take i) x = false) : runB p [] l = false := by
  cases h : runB p [] l with
  | false => rfl
  | true =>
    have h2 : runB p [] (l.take (i + 1)) = true := runB_part (l.take (i + 1)) (l.drop (i + 1)) (by rw [List.take_append_drop]; exact h)
    rw [take_snoc' l i x hx, runB_snoc, hp, Bool.and_false] at h2
    cases h2
theorem RunTo.next (h : RunTo p l i) (hx : l[i]? = some x) (hp : p (l.take i) x = true) : RunTo p l (i + 1) := by
  unfold RunTo at h ⊢
  rw [take_snoc' l i x hx, runB_snoc, h, hp]
  rfl
theorem RunTo.all (h : RunTo p l l.length) : runB p [] l = true := by
  unfold RunTo at h
  rwa [List.take_length] at h
end
end Go.Proofs.Ytfofbnpgjdagkaa
namespace Go.Proofs.Ytfofbnpgjdagkaa
/-- The duty behind who may be given to n. -/
def fitsP (B : Nat → Nat → Bool) (who : List Nat) (n : Nat) : Bool := (List.range who.length).all (fun k => !(who[k]? == some n) || B who.length k)
def usedP (who : List Nat) : Nat := who.foldl (fun u n => max u (n + 1)) 0
def searchR (B : Nat → Nat → Bool) (most : Nat) : Nat → List Nat → Option (List Nat)
  | 0, who => some who
  | k + 1, who => (List.range (min (usedP who + 1) most)).findSome? (fun n => if fitsP B who n = true then searchR B most k (who ++ [n]) else none)
theorem usedP_snoc (who : List Nat) (n : Nat) : usedP (who ++ [n]) = max (usedP who) (n + 1) := by unfold usedP; rw [List.foldl_append]; rfl
theorem usedP_le {who : List Nat} : ∀ n ∈ who, n < usedP who := by
  intro n hn
  have : ∀ (l : List Nat) (u : Nat), (∀ x ∈ l, x < l.foldl (fun u n => max u (n + 1)) u) ∧ u ≤ l.foldl (fun u n => max u (n + 1)) u := by
    intro l
    induction l with
    | nil => intro u; exact ⟨fun x hx => by simp at hx, Nat.le_refl _⟩
    | cons y l ih =>
      intro u
      obtain ⟨h1, h2⟩ := ih (max u (y + 1))
      refine ⟨fun x hx => ?_, by rw [List.foldl_cons]; omega⟩
      rw [List.foldl_cons]
      rcases List.mem_cons.1 hx with rfl | hx
      · omega
      · exact h1 x hx
  exact (this who 0).1 n hn
theorem fits_at {B : Nat → Nat → Bool} {who : List Nat} {n : Nat} : fitsP B who n = true ↔ ∀ k, who[k]? = some n → B who.length k = true := by
  unfold fitsP
  rw [List.all_eq_true]
  constructor
  · intro h k hk
    have hlt := (List.getElem?_eq_some_iff.1 hk).1
    have := h k (List.mem_range.2 hlt)
    rw [hk] at this
    simpa using this
  · intro h k _
    by_cases e : who[k]? = some n
    · rw [h k e, Bool.or_true]
    · have : (who[k]? == some n) = false := by simpa using e
      rw [this]
      rfl
/-- Numbers in the order of their first use; two duties of one person can be performed by one. -/
structure CovOk (B : Nat → Nat → Bool) (most : Nat) (who : List Nat) : Prop where
  lt : ∀ n ∈ who, n < most
  both : ∀ i k n, k < i → who[i]? = some n → who[k]? = some n → B i k = true
  all : ∀ n, n < usedP who → n ∈ who
theorem CovOk.nil (B : Nat → Nat → Bool) (most : Nat) : CovOk B most [] := ⟨fun n hn => by simp at hn, fun i k n _ hi => by simp at hi, fun n hn => by simp [usedP] at hn⟩
theorem CovOk.snoc {B : Nat → Nat → Bool} {most : Nat} {who : List Nat} {n : Nat} (h : CovOk B most who) (h1 : n < most) (h2 : n ≤ usedP who) (h3 : fitsP B who n = true) : CovOk B most (who ++ [n]) := by
  refine ⟨fun x hx => ?_, fun i k x hk hi hkk => ?_, fun x hx => ?_⟩
  · rcases List.mem_append.1 hx with hx | hx
    · exact h.lt x hx
    · simp at hx; omega
  · have hil : i < who.length + 1 := by have := (List.getElem?_eq_some_iff.1 hi).1; simpa using this
    have hkl : k < who.length := by omega
    rw [List.getElem?_append_left hkl] at hkk
    by_cases e : i < who.length
    · rw [List.getElem?_append_left e] at hi
      exact h.both i k x hk hi hkk
    · have e : i = who.length := by omega
      subst e
      rw [List.getElem?_append_right (Nat.le_refl _)] at hi
      simp at hi
      subst hi
      exact fits_at.1 h3 k hkk
  · rw [usedP_snoc] at hx
    by_cases e : x < usedP who
    · exact List.mem_append_left _ (h.all x e)
    · have : x = n := by omega
      simp [this]
theorem search_ok {B : Nat → Nat → Bool} {most : Nat} : ∀ {k : Nat} {who out : List Nat}, CovOk B most who → searchR B most k who = some out → CovOk B most out ∧ out.length = who.length + k
  | 0, who, out, h, e => by injection e with e; subst e; exact ⟨h, rfl⟩
  | k + 1, who, out, h, e => by
    unfold searchR at e
    rw [List.findSome?_eq_some_iff] at e
    obtain ⟨l1, n, l2, hr, hn, -⟩ := e
    have hm : n ∈ List.range (min (usedP who + 1) most) := by rw [hr]; simp
    rw [List.mem_range] at hm
    split at hn
    · rename_i hf
      obtain ⟨h1, h2⟩ := search_ok (h.snoc (by omega) (by omega) hf) hn
      exact ⟨h1, by rw [h2]; simp; omega⟩
    · cases hn
/-- A cover f, told by its numbers below most, is found (or another one). -/
theorem search_some {B : Nat → Nat → Bool} {most : Nat} {f : Nat → Nat} : ∀ {k : Nat} {who : List Nat} {σ : Nat → Nat}, (∀ i, i < who.length + k → f i < most) → (∀ i j, j < i → i < who.length + k → f i = f j → B i j = true) →
    (∀ i n, who[i]? = some n → f i = σ n) → (∀ a b, a < usedP who → b < usedP who → σ a = σ b → a = b) → (∀ a, a < usedP who → a ∈ who) → usedP who ≤ most → (searchR B most k who).isSome = true
  | 0, _, _, _, _, _, _, _, _ => rfl
  | k + 1, who, σ, h1, h2, h3, h4, h5, h6 => by
    unfold searchR
    rw [List.findSome?_isSome_iff]
    have hlt : ∀ a, a < usedP who → σ a < most := fun a ha => by
      obtain ⟨i, hi⟩ := List.getElem?_of_mem (h5 a ha)
      rw [← h3 i a hi]
      exact h1 i (by have := (List.getElem?_eq_some_iff.1 hi).1; omega)
    by_cases hex : ∃ n, n < usedP who ∧ σ n = f who.length
    · obtain ⟨n, hn, he⟩ := hex
      refine ⟨n, List.mem_range.2 (by omega), ?_⟩
      have hfit : fitsP B who n = true := fits_at.2 (fun j hj => h2 who.length j ((List.getElem?_eq_some_iff.1 hj).1) (by omega) (by rw [h3 j n hj, he]))
      rw [if_pos hfit]
      have hu : usedP (who ++ [n]) = usedP who := by rw [usedP_snoc]; omega
      refine search_some (σ := σ) (fun i hi => h1 i (by simp at hi; omega)) (fun i j hj hi => h2 i j hj (by simp at hi; omega)) (fun i x hx => ?_) (by rw [hu]; exact h4) (fun a ha => ?_) (by rw [hu]; exact h6)
      · rw [List.getElem?_append] at hx
        split at hx
        · exact h3 i x hx
        · rename_i hil
          cases e : i - who.length with
          | zero => rw [e] at hx; simp at hx; subst hx; rw [he]; congr 1; omega
          | succ m => rw [e] at hx; simp at hx
      · rw [hu] at ha; exact List.mem_append_left _ (h5 a ha)
    · have hnew : ∀ a, a < usedP who → σ a ≠ f who.length := fun a ha e => hex ⟨a, ha, e⟩
      -- the used numbers and the new one are different and below most
      have hroom : usedP who < most := by
        have pig : ∀ (u M : Nat) (g : Nat → Nat), (∀ a, a ≤ u → g a < M) → (∀ a b, a ≤ u → b ≤ u → g a = g b → a = b) → u < M := by
          intro u
          induction u with
          | zero => intro M g hg _; have := hg 0 (Nat.le_refl _); omega
          | succ u ih =>
            intro M g hg hi
            -- take the value of the last one out
            have hM : 0 < M := by have := hg 0 (Nat.zero_le _); omega
            have := ih (M - 1) (fun a => if g a = M - 1 then g (u + 1) else g a) (fun a ha => by
              show (if g a = M - 1 then g (u + 1) else g a) < M - 1
              split
              · rename_i e
                have h1 := hg (u + 1) (Nat.le_refl _)
                have h2 : g (u + 1) ≠ M - 1 := fun e2 => by have := hi a (u + 1) (by omega) (Nat.le_refl _) (by rw [e, e2]); omega
                omega
              · rename_i e
                have := hg a (by omega)
                omega) (fun a b ha hb e => by
              have e : (if g a = M - 1 then g (u + 1) else g a) = (if g b = M - 1 then g (u + 1) else g b) := e
              by_cases e1 : g a = M - 1
              · by_cases e2 : g b = M - 1
                · exact hi a b (by omega) (by omega) (by rw [e1, e2])
                · rw [if_pos e1, if_neg e2] at e
                  have := hi (u + 1) b (Nat.le_refl _) (by omega) e
                  omega
              · by_cases e2 : g b = M - 1
                · rw [if_neg e1, if_pos e2] at e
                  have := hi a (u + 1) (by omega) (Nat.le_refl _) e
                  omega
                · rw [if_neg e1, if_neg e2] at e
                  exact hi a b (by omega) (by omega) e)
            omega
        refine pig (usedP who) most (fun a => if a < usedP who then σ a else f who.length) (fun a ha => ?_) (fun a b ha hb e => ?_)
        · show (if a < usedP who then σ a else f who.length) < most
          split
          · exact hlt a (by assumption)
          · exact h1 _ (by omega)
        · have e : (if a < usedP who then σ a else f who.length) = (if b < usedP who then σ b else f who.length) := e
          by_cases ea : a < usedP who
          · by_cases eb : b < usedP who
            · rw [if_pos ea, if_pos eb] at e; exact h4 a b ea eb e
            · rw [if_pos ea, if_neg eb] at e; exact absurd e (hnew a ea)
          · by_cases eb : b < usedP who
            · rw [if_neg ea, if_pos eb] at e; exact absurd e.symm (hnew b eb)
            · omega
      refine ⟨usedP who, List.mem_range.2 (by omega), ?_⟩
      have hfit : fitsP B who (usedP who) = true := fits_at.2 (fun j hj => absurd (usedP_le _ (List.mem_of_getElem? hj)) (Nat.lt_irrefl _))
      rw [if_pos hfit]
      have hu : usedP (who ++ [usedP who]) = usedP who + 1 := by rw [usedP_snoc]; omega
      refine search_some (σ := fun a => if a < usedP who then σ a else f who.length) (fun i hi => h1 i (by simp at hi; omega)) (fun i j hj hi => h2 i j hj (by simp at hi; omega)) (fun i x hx => ?_) (fun a b ha hb e => ?_) (fun a ha => ?_) (by rw [hu]; omega)
      · rw [List.getElem?_append] at hx
        split at hx
        · have hxl := usedP_le _ (List.mem_of_getElem? hx)
          show f i = if x < usedP who then σ x else f who.length
          rw [if_pos hxl]; exact h3 i x hx
        · rename_i hil
          cases e : i - who.length with
          | zero =>
            rw [e] at hx; simp at hx; subst hx
            show f i = if usedP who < usedP who then _ else f who.length
            rw [if_neg (Nat.lt_irrefl _)]; congr 1; omega
          | succ m => rw [e] at hx; simp at hx
      · rw [hu] at ha hb
        have e : (if a < usedP who then σ a else f who.length) = (if b < usedP who then σ b else f who.length) := e
        by_cases ea : a < usedP who
        · by_cases eb : b < usedP who
          · rw [if_pos ea, if_pos eb] at e; exact h4 a b ea eb e
          · rw [if_pos ea, if_neg eb] at e; exact absurd e (hnew a ea)
        · by_cases eb : b < usedP who
          · rw [if_neg ea, if_pos eb] at e; exact absurd e.symm (hnew b eb)
          · omega
      · rw [hu] at ha
        by_cases ea : a < usedP who
        · exact List.mem_append_left _ (h5 a ea)
        · have : a = usedP who := by omega
          simp [this]
/-- A cover with numbers below most is found. -/
theorem search_all {B : Nat → Nat → Bool} {most m : Nat} (f : Nat → Nat) (h1 : ∀ i, i < m → f i < most) (h2 : ∀ i j, j < i → i < m → f i = f j → B i j = true) : (searchR B most m []).isSome = true :=
  search_some (f := f) (σ := fun a => a) (by simpa using h1) (by simpa using h2) (fun i n hi => by simp at hi) (fun a b ha => by simp [usedP] at ha) (fun a ha => by simp [usedP] at ha) (Nat.zero_le _)
theorem free_color : ∀ (r : Nat) (L : List Nat), L.length < r → ∃ c, c < r ∧ c ∉ L
  | 0, L, h => by omega
  | r + 1, L, h => by
    by_cases e : r ∈ L
    · obtain ⟨c, hc, hn⟩ := free_color r (L.erase r) (by rw [List.length_erase_of_mem e]; have := List.length_pos_of_mem e; omega)
      exact ⟨c, by omega, fun hm => hn ((List.mem_erase_of_ne (by omega)).2 hm)⟩
    · exact ⟨r, by omega, e⟩
theorem most_of (g : Nat → Int) : ∀ (S : List Nat), S ≠ [] → ∃ i ∈ S, ∀ j ∈ S, g j ≤ g i
  | [], h => absurd rfl h
  | [a], _ => ⟨a, by simp, fun j hj => by simp at hj; rw [hj]; exact Int.le_refl _⟩
  | a :: b :: S, _ => by
    obtain ⟨i, hi, h⟩ := most_of g (b :: S) (by simp)
    by_cases e : g i ≤ g a
    · refine ⟨a, by simp, fun j hj => ?_⟩
      rcases List.mem_cons.1 hj with rfl | hj
      · exact Int.le_refl _
      · have := h j hj; omega
    · refine ⟨i, List.mem_cons_of_mem _ hi, fun j hj => ?_⟩
      rcases List.mem_cons.1 hj with rfl | hj
      · omega
      · exact h j hj
/-- If no more than r of the intervals meet one another, r numbers do for all of them. -/
theorem color (fr en : Nat → Int) (r : Nat) : ∀ (n : Nat) (S : List Nat), S.length = n → S.Nodup → (∀ i ∈ S, fr i < en i) →
    (∀ A : List Nat, A.Nodup → (∀ i ∈ A, i ∈ S) → (∀ i ∈ A, ∀ j ∈ A, fr i < en j) → A.length ≤ r) → ∃ f : Nat → Nat, (∀ i ∈ S, f i < r) ∧ ∀ i ∈ S, ∀ j ∈ S, i ≠ j → fr i < en j → fr j < en i → f i ≠ f j
  | 0, S, hl, _, _, _ => by
    have : S = [] := List.eq_nil_of_length_eq_zero hl
    subst this
    exact ⟨fun _ => 0, fun i hi => by simp at hi, fun i hi => by simp at hi⟩
  | n + 1, S, hl, hn, hf, hA => by
    obtain ⟨i, hi, hmax⟩ := most_of fr S (by intro e; rw [e] at hl; simp at hl)
    have hne : (S.erase i).Nodup := hn.erase i
    have hsub : ∀ j ∈ S.erase i, j ∈ S ∧ j ≠ i := fun j hj => ⟨List.mem_of_mem_erase hj, fun e => by subst e; exact (List.Nodup.mem_erase_iff hn).1 hj |>.1 rfl⟩
    obtain ⟨f, f1, f2⟩ := color fr en r n (S.erase i) (by rw [List.length_erase_of_mem hi, hl]; rfl) hne (fun j hj => hf j (hsub j hj).1) (fun A a1 a2 a3 => hA A a1 (fun j hj => (hsub j (a2 j hj)).1) a3)
    let N := (S.erase i).filter (fun j => decide (fr i < en j))
    have hN : ∀ j ∈ N, j ∈ S ∧ j ≠ i ∧ fr i < en j := fun j hj => by
      obtain ⟨h1, h2⟩ := List.mem_filter.1 hj
      exact ⟨(hsub j h1).1, (hsub j h1).2, of_decide_eq_true h2⟩
    have hlen : (i :: N).length ≤ r := by
      refine hA (i :: N) (List.nodup_cons.2 ⟨fun h => (hN i h).2.1 rfl, hne.filter _⟩) (fun j hj => ?_) (fun a ha b hb => ?_)
      · rcases List.mem_cons.1 hj with rfl | hj
        · exact hi
        · exact (hN j hj).1
      · have hb2 : fr i < en b := by
          rcases List.mem_cons.1 hb with rfl | hb
          · exact hf b hi
          · exact (hN b hb).2.2
        have ha2 : fr a ≤ fr i := by
          rcases List.mem_cons.1 ha with rfl | ha
          · exact Int.le_refl _
          · exact hmax a (hN a ha).1
        omega
    obtain ⟨c, hc, hcn⟩ := free_color r (N.map f) (by rw [List.length_map]; simp at hlen; omega)
    refine ⟨fun j => if j = i then c else f j, fun j hj => ?_, fun a ha b hb hab h1 h2 => ?_⟩
    · show (if j = i then c else f j) < r
      split
      · exact hc
      · exact f1 j ((List.mem_erase_of_ne (by assumption)).2 hj)
    · show (if a = i then c else f a) ≠ (if b = i then c else f b)
      have use : ∀ x, x ∈ S → x ≠ i → fr i < en x → c ≠ f x := fun x hx hxi hm e => hcn (List.mem_map.2 ⟨x, List.mem_filter.2 ⟨(List.mem_erase_of_ne hxi).2 hx, decide_eq_true hm⟩, e.symm⟩)
      by_cases ea : a = i
      · subst ea
        rw [if_pos rfl, if_neg (fun e => hab e.symm)]
        exact use b hb (fun e => hab e.symm) h1
      · by_cases eb : b = i
        · subst eb
          rw [if_neg ea, if_pos rfl]
          exact (use a ha ea h2).symm
        · rw [if_neg ea, if_neg eb]
          exact f2 a ((List.mem_erase_of_ne ea).2 ha) b ((List.mem_erase_of_ne eb).2 hb) hab h1 h2
end Go.Proofs.Ytfofbnpgjdagkaa
namespace Go.Proofs.Ytfofbnpgjdagkaa
open Go.RowKit
def inB (x lo hi : Int) : Bool := decide (lo ≤ x ∧ x ≤ hi)
theorem inB_mk {x lo hi : Int} (h1 : lo ≤ x) (h2 : x ≤ hi) : inB x lo hi = true := decide_eq_true ⟨h1, h2⟩
theorem inB_no {x lo hi : Int} (h : x < lo ∨ hi < x) : inB x lo hi = false := decide_eq_false (by omega)
theorem l01In_any (x lo hi : Int) (w : World) : Calls Try.prog 54 #[.int .i64 x, .int .i64 lo, .int .i64 hi] w fun e w' => e = .returned (.bool (inB x lo hi)) ∧ w = w' := by
  by_cases h1 : lo ≤ x
  · by_cases h2 : x ≤ hi
    · have H := Lib.hid (inB_mk h1 h2)
      go_enter Try.func54, Try.ntmps54
      go_wp2
      go_ret
      exact ⟨ret_bool H.out.symm, rfl⟩
    · have H := Lib.hid (inB_no (x := x) (lo := lo) (hi := hi) (.inr (by omega)))
      have h3 : decide (x ≤ hi) = false := decide_eq_false h2
      go_enter Try.func54, Try.ntmps54
      go_wp2
      go_ret
      exact ⟨ret_bool H.out.symm, rfl⟩
  · have H := Lib.hid (inB_no (x := x) (lo := lo) (hi := hi) (.inl (by omega)))
    have h3 : decide (lo ≤ x) = false := decide_eq_false h1
    go_enter Try.func54, Try.ntmps54
    go_wp2
    go_ret
    exact ⟨ret_bool H.out.symm, rfl⟩
end Go.Proofs.Ytfofbnpgjdagkaa
namespace Go.Proofs.Ytfofbnpgjdagkaa
open Go.RowKit
/-- A block that is known whole, and may be written. -/
def Blk (w : World) (b : Nat) (cs : Array Value) (t : TypeId) : Prop := w.heap[b]? = some (.cells cs t (0, 0))
theorem Blk.new (w : World) (cs : Array Value) (t : TypeId) : Blk (w.alloc (.cells cs t)) w.heap.size cs t := heap_alloc_new w _
theorem Blk.lt {w : World} {b : Nat} {cs : Array Value} {t : TypeId} (h : Blk w b cs t) : b < w.heap.size := by
  rcases Nat.lt_or_ge b w.heap.size with hlt | hge
  · exact hlt
  · unfold Blk at h; rw [Array.getElem?_eq_none hge] at h; cases h
theorem Blk.grown {w w' : World} {b : Nat} {cs : Array Value} {t : TypeId} {row : Option Nat} (h : Blk w b cs t) (hg : w.grownBy w' row) (hne : some b ≠ row) : Blk w' b cs t := (hg.block b h.lt hne).trans h
theorem Blk.below {w w' : World} {b : Nat} {cs : Array Value} {t : TypeId} (h : Blk w b cs t) (hb : Below w.heap.size w w') : Blk w' b cs t := (hb.block b h.lt).trans h
theorem Blk.cell {w : World} {b : Nat} {cs : Array Value} {t : TypeId} (h : Blk w b cs t) (i : Nat) : w.cell? ⟨b, i, none⟩ = cs[i]? := Joins.cell_of_block h i
theorem Blk.set {w : World} {b : Nat} {cs : Array Value} {t : TypeId} (h : Blk w b cs t) (j : Nat) (u : Value) : Blk (w.setCell ⟨b, j, none⟩ u) b (cs.setIfInBounds j u) t := Joins.block_setCell h u
theorem Blk.drewN {w : World} {b : Nat} {cs : Array Value} {t : TypeId} (h : Blk w b cs t) (n : Nat) : Blk (w.drewN n) b cs t := h
theorem Blk.drew {w : World} {b : Nat} {cs : Array Value} {t : TypeId} (h : Blk w b cs t) : Blk w.drew b cs t := h
end Go.Proofs.Ytfofbnpgjdagkaa
namespace Go.Proofs.Ytfofbnpgjdagkaa
open Go.RowKit
set_option maxRecDepth 100000
@[reducible] def boolCells (b : Bool) : List Value := [.bool b]
theorem boolLen (b : Bool) : (boolCells b).length = 1 := rfl
theorem bool_one (x : Bool) : ∀ v ∈ boolCells x, v.oneCell' = true := fun v hv => by simp at hv; rw [hv]; rfl
def SlBool : World → Value → List Bool → Prop := SlOf 1 boolCells
theorem info_bool : (Try.prog.info? 4).map (fun i => (i.zero, i.size, i.bytes)) = some (some (.bool false), 1, 1) := by kernel_rfl
end Go.Proofs.Ytfofbnpgjdagkaa
namespace Go.Proofs.Ytfofbnpgjdagkaa
open Go.RowKit
set_option maxRecDepth 100000
section
variable {α : Type} {k : Nat} {cs : α → List Value} {t : TypeId}
theorem own_kept {W w3 : World} {base : Nat} {v : Value} {l : List α} {row : Option Nat} (h : OwnOf k cs t W base v l) (hg : W.grownBy w3 row) (hne : ∀ b, v.ownBlock = some b → row ≠ some b) : OwnOf k cs t w3 base v l := by
  refine World.ownsRow.kept h hg ?_
  cases hv : v.ownBlock with
  | none => exact .inl rfl
  | some g => right; intro e; exact hne g hv e.symm
theorem own_blk (g n c : Nat) : (Value.slice (some ⟨g, 0, none⟩) n c).ownBlock = some g := by simp [Value.ownBlock]
theorem own_ge {W : World} {base : Nat} {v : Value} {l : List α} (h : OwnOf k cs t W base v l) {b : Nat} (hv : v.ownBlock = some b) : base ≤ b ∧ b < W.heap.size := World.ownsRow.lt h b hv
end
/-- A growth into a block that is younger than the first world. -/
theorem grown_young {a w w' : World} {row row' : Option Nat} (h : a.grownBy w row) (hg : w.grownBy w' row') (hy : ∀ b, row' = some b → a.heap.size ≤ b) : a.grownBy w' row :=
  ⟨hg.os.trans h.os, hg.tape.trans h.tape, hg.output.trans h.output, Nat.le_trans h.size hg.size, fun i hi hne => (hg.block i (Nat.lt_of_lt_of_le hi h.size) (fun e => Nat.lt_irrefl _ (Nat.lt_of_lt_of_le hi (hy i e.symm)))).trans (h.block i hi hne)⟩
end Go.Proofs.Ytfofbnpgjdagkaa
namespace Go.Proofs.Ytfofbnpgjdagkaa
open Go.RowKit
set_option maxRecDepth 100000
theorem bits_and_nat {a b : Nat} (ha : a < 4611686018427387904) (hb : b < 4611686018427387904) : bits BinOp.and IntKind.i64 (a : Int) (b : Int) = ((a &&& b : Nat) : Int) := by
  show IntKind.i64.wrap (((BitVec.ofInt 64 (a : Int)) &&& (BitVec.ofInt 64 (b : Int))).toNat : Int) = _
  rw [BitVec.ofInt_natCast, BitVec.ofInt_natCast, BitVec.toNat_and, BitVec.toNat_ofNat, BitVec.toNat_ofNat, Nat.mod_eq_of_lt (by omega), Nat.mod_eq_of_lt (by omega), IntKind.wrap_i64]
  have : a &&& b ≤ a := Nat.and_le_left
  omega
theorem bit_atL (b k : Nat) (hb : b < 4611686018427387904) : (bits BinOp.and IntKind.i64 ((b : Int) / 2 ^ k) 1 == 1) = decide (b / 2 ^ k % 2 = 1) := by
  have e1 : (b : Int) / 2 ^ k = ((b / 2 ^ k : Nat) : Int) := by rw [Int.natCast_ediv, Int.natCast_pow]; rfl
  have h1 : b / 2 ^ k ≤ b := Nat.div_le_self _ _
  have e2 := bits_and_nat (a := b / 2 ^ k) (b := 1) (by omega) (by omega)
  rw [e1, show (1 : Int) = ((1 : Nat) : Int) from rfl, e2, Nat.and_one_is_mod]
  rcases Nat.mod_two_eq_zero_or_one (b / 2 ^ k) with h | h <;> rw [h] <;> rfl
end Go.Proofs.Ytfofbnpgjdagkaa
namespace Go.Proofs.Ytfofbnpgjdagkaa
open Go.RowKit
set_option maxRecDepth 100000
/-- The first k of a list, in the same cells. -/
theorem SlOf.takeP {α : Type} {n : Nat} {cs : α → List Value} {w : World} {A : Option Addr} {c : Nat} {l : List α} (h : SlOf n cs w (.slice A l.length c) l) {k : Nat} (hk : k ≤ l.length) : SlOf n cs w (.slice A k c) (l.take k) := by
  obtain ⟨hl, h⟩ := h
  have hlen : (l.take k).length = k := by rw [List.length_take]; omega
  refine ⟨by omega, ?_⟩
  by_cases hk0 : k = 0
  · left
    subst hk0
    exact ⟨rfl, _, _, rfl⟩
  · right
    rcases h with ⟨he, _⟩ | ⟨g, o, c', e, hp, hc, hx⟩
    · rw [he] at hk; simp at hk; exact absurd hk hk0
    · injection e with e1 e2 e3
      refine ⟨g, o, c', by rw [hlen, e1, e3], by omega, by omega, fun i x hi => ?_⟩
      have hik : i < k := by have := (List.getElem?_eq_some_iff.1 hi).1; omega
      rw [List.getElem?_take_of_lt hik] at hi
      exact hx i x hi
end Go.Proofs.Ytfofbnpgjdagkaa
