
/- Covers by least numbers of persons: the search, and what it finds. Over no program. -/
import Derived.Test.YtfofbnpgjdagkaaRows2
namespace Go.Proofs.Ytfofbnpgjdagkaa

/-! ### The search -/
/-- The duty behind who may be given to n. -/
def fitsP (B : Nat → Nat → Bool) (who : List Nat) (n : Nat) : Bool := (List.range who.length).all (fun k => !(who[k]? == some n) || B who.length k)
def usedP (who : List Nat) : Nat := who.foldl (fun u n => max u (n + 1)) 0
def searchR (B : Nat → Nat → Bool) (most : Nat) : Nat → List Nat → Option (List Nat)
  | 0, who => some who
  | k + 1, who => (List.range (min (usedP who + 1) most)).findSome? (fun n => if fitsP B who n = true then searchR B most k (who ++ [n]) else none)
theorem usedP_snoc (who : List Nat) (n : Nat) : usedP (who ++ [n]) = max (usedP who) (n + 1) := by unfold usedP; rw [List.foldl_append]; rfl
theorem usedP_le {who : List Nat} : ∀ n ∈ who, n < usedP who := by
  intro n hn
  have : ∀ (l : List Nat) (u : Nat), (∀ x ∈ l, x < l.foldl (fun u n => max u (n + 1)) u) ∧ u ≤ l.foldl (fun u n => max u (n + 1)) u := by
    intro l
    induction l with
    | nil => intro u; exact ⟨fun x hx => by simp at hx, Nat.le_refl _⟩
    | cons y l ih =>
      intro u
      obtain ⟨h1, h2⟩ := ih (max u (y + 1))
      refine ⟨fun x hx => ?_, by rw [List.foldl_cons]; omega⟩
      rw [List.foldl_cons]
      rcases List.mem_cons.1 hx with rfl | hx
      · omega
      · exact h1 x hx
  exact (this who 0).1 n hn
theorem fits_at {B : Nat → Nat → Bool} {who : List Nat} {n : Nat} : fitsP B who n = true ↔ ∀ k, who[k]? = some n → B who.length k = true := by
  unfold fitsP
  rw [List.all_eq_true]
  constructor
  · intro h k hk
    have hlt := (List.getElem?_eq_some_iff.1 hk).1
    have := h k (List.mem_range.2 hlt)
    rw [hk] at this
    simpa using this
  · intro h k _
    by_cases e : who[k]? = some n
    · rw [h k e, Bool.or_true]
    · have : (who[k]? == some n) = false := by simpa using e
      rw [this]
      rfl
/-- Numbers in the order of their first use; two duties of one person can be performed by one. -/
structure CovOk (B : Nat → Nat → Bool) (most : Nat) (who : List Nat) : Prop where
  lt : ∀ n ∈ who, n < most
  both : ∀ i k n, k < i → who[i]? = some n → who[k]? = some n → B i k = true
  all : ∀ n, n < usedP who → n ∈ who
theorem CovOk.nil (B : Nat → Nat → Bool) (most : Nat) : CovOk B most [] := ⟨fun n hn => by simp at hn, fun i k n _ hi => by simp at hi, fun n hn => by simp [usedP] at hn⟩
theorem CovOk.snoc {B : Nat → Nat → Bool} {most : Nat} {who : List Nat} {n : Nat} (h : CovOk B most who) (h1 : n < most) (h2 : n ≤ usedP who) (h3 : fitsP B who n = true) : CovOk B most (who ++ [n]) := by
  refine ⟨fun x hx => ?_, fun i k x hk hi hkk => ?_, fun x hx => ?_⟩
  · rcases List.mem_append.1 hx with hx | hx
    · exact h.lt x hx
    · simp at hx; omega
  · have hil : i < who.length + 1 := by have := (List.getElem?_eq_some_iff.1 hi).1; simpa using this
    have hkl : k < who.length := by omega
    rw [List.getElem?_append_left hkl] at hkk
    by_cases e : i < who.length
    · rw [List.getElem?_append_left e] at hi
      exact h.both i k x hk hi hkk
    · have e : i = who.length := by omega
      subst e
      rw [List.getElem?_append_right (Nat.le_refl _)] at hi
      simp at hi
      subst hi
      exact fits_at.1 h3 k hkk
  · rw [usedP_snoc] at hx
    by_cases e : x < usedP who
    · exact List.mem_append_left _ (h.all x e)
    · have : x = n := by omega
      simp [this]
theorem search_ok {B : Nat → Nat → Bool} {most : Nat} : ∀ {k : Nat} {who out : List Nat}, CovOk B most who → searchR B most k who = some out → CovOk B most out ∧ out.length = who.length + k
  | 0, who, out, h, e => by injection e with e; subst e; exact ⟨h, rfl⟩
  | k + 1, who, out, h, e => by
    unfold searchR at e
    rw [List.findSome?_eq_some_iff] at e
    obtain ⟨l1, n, l2, hr, hn, -⟩ := e
    have hm : n ∈ List.range (min (usedP who + 1) most) := by rw [hr]; simp
    rw [List.mem_range] at hm
    split at hn
    · rename_i hf
      obtain ⟨h1, h2⟩ := search_ok (h.snoc (by omega) (by omega) hf) hn
      exact ⟨h1, by rw [h2]; simp; omega⟩
    · cases hn
/-- A cover f, told by its numbers below most, is found (or another one). -/
theorem search_some {B : Nat → Nat → Bool} {most : Nat} {f : Nat → Nat} : ∀ {k : Nat} {who : List Nat} {σ : Nat → Nat}, (∀ i, i < who.length + k → f i < most) → (∀ i j, j < i → i < who.length + k → f i = f j → B i j = true) →
    (∀ i n, who[i]? = some n → f i = σ n) → (∀ a b, a < usedP who → b < usedP who → σ a = σ b → a = b) → (∀ a, a < usedP who → a ∈ who) → usedP who ≤ most → (searchR B most k who).isSome = true
  | 0, _, _, _, _, _, _, _, _ => rfl
  | k + 1, who, σ, h1, h2, h3, h4, h5, h6 => by
    unfold searchR
    rw [List.findSome?_isSome_iff]
    have hlt : ∀ a, a < usedP who → σ a < most := fun a ha => by
      obtain ⟨i, hi⟩ := List.getElem?_of_mem (h5 a ha)
      rw [← h3 i a hi]
      exact h1 i (by have := (List.getElem?_eq_some_iff.1 hi).1; omega)
    by_cases hex : ∃ n, n < usedP who ∧ σ n = f who.length
    · obtain ⟨n, hn, he⟩ := hex
      refine ⟨n, List.mem_range.2 (by omega), ?_⟩
      have hfit : fitsP B who n = true := fits_at.2 (fun j hj => h2 who.length j ((List.getElem?_eq_some_iff.1 hj).1) (by omega) (by rw [h3 j n hj, he]))
      rw [if_pos hfit]
      have hu : usedP (who ++ [n]) = usedP who := by rw [usedP_snoc]; omega
      refine search_some (σ := σ) (fun i hi => h1 i (by simp at hi; omega)) (fun i j hj hi => h2 i j hj (by simp at hi; omega)) (fun i x hx => ?_) (by rw [hu]; exact h4) (fun a ha => ?_) (by rw [hu]; exact h6)
      · rw [List.getElem?_append] at hx
        split at hx
        · exact h3 i x hx
        · rename_i hil
          cases e : i - who.length with
          | zero => rw [e] at hx; simp at hx; subst hx; rw [he]; congr 1; omega
          | succ m => rw [e] at hx; simp at hx
      · rw [hu] at ha; exact List.mem_append_left _ (h5 a ha)
    · have hnew : ∀ a, a < usedP who → σ a ≠ f who.length := fun a ha e => hex ⟨a, ha, e⟩
      -- the used numbers and the new one are different and below most
      have hroom : usedP who < most := by
        have pig : ∀ (u M : Nat) (g : Nat → Nat), (∀ a, a ≤ u → g a < M) → (∀ a b, a ≤ u → b ≤ u → g a = g b → a = b) → u < M := by
          intro u
          induction u with
          | zero => intro M g hg _; have := hg 0 (Nat.le_refl _); omega
          | succ u ih =>
            intro M g hg hi
            -- take the value of the last one out
            have hM : 0 < M := by have := hg 0 (Nat.zero_le _); omega
            have := ih (M - 1) (fun a => if g a = M - 1 then g (u + 1) else g a) (fun a ha => by
              show (if g a = M - 1 then g (u + 1) else g a) < M - 1
              split
              · rename_i e
                have h1 := hg (u + 1) (Nat.le_refl _)
                have h2 : g (u + 1) ≠ M - 1 := fun e2 => by have := hi a (u + 1) (by omega) (Nat.le_refl _) (by rw [e, e2]); omega
                omega
              · rename_i e
                have := hg a (by omega)
                omega) (fun a b ha hb e => by
              have e : (if g a = M - 1 then g (u + 1) else g a) = (if g b = M - 1 then g (u + 1) else g b) := e
              by_cases e1 : g a = M - 1
              · by_cases e2 : g b = M - 1
                · exact hi a b (by omega) (by omega) (by rw [e1, e2])
                · rw [if_pos e1, if_neg e2] at e
                  have := hi (u + 1) b (Nat.le_refl _) (by omega) e
                  omega
              · by_cases e2 : g b = M - 1
                · rw [if_neg e1, if_pos e2] at e
                  have := hi a (u + 1) (by omega) (Nat.le_refl _) e
                  omega
                · rw [if_neg e1, if_neg e2] at e
                  exact hi a b (by omega) (by omega) e)
            omega
        refine pig (usedP who) most (fun a => if a < usedP who then σ a else f who.length) (fun a ha => ?_) (fun a b ha hb e => ?_)
        · show (if a < usedP who then σ a else f who.length) < most
          split
          · exact hlt a (by assumption)
          · exact h1 _ (by omega)
        · have e : (if a < usedP who then σ a else f who.length) = (if b < usedP who then σ b else f who.length) := e
          by_cases ea : a < usedP who
          · by_cases eb : b < usedP who
            · rw [if_pos ea, if_pos eb] at e; exact h4 a b ea eb e
            · rw [if_pos ea, if_neg eb] at e; exact absurd e (hnew a ea)
          · by_cases eb : b < usedP who
            · rw [if_neg ea, if_pos eb] at e; exact absurd e.symm (hnew b eb)
            · omega
      refine ⟨usedP who, List.mem_range.2 (by omega), ?_⟩
      have hfit : fitsP B who (usedP who) = true := fits_at.2 (fun j hj => absurd (usedP_le _ (List.mem_of_getElem? hj)) (Nat.lt_irrefl _))
      rw [if_pos hfit]
      have hu : usedP (who ++ [usedP who]) = usedP who + 1 := by rw [usedP_snoc]; omega
      refine search_some (σ := fun a => if a < usedP who then σ a else f who.length) (fun i hi => h1 i (by simp at hi; omega)) (fun i j hj hi => h2 i j hj (by simp at hi; omega)) (fun i x hx => ?_) (fun a b ha hb e => ?_) (fun a ha => ?_) (by rw [hu]; omega)
      · rw [List.getElem?_append] at hx
        split at hx
        · have hxl := usedP_le _ (List.mem_of_getElem? hx)
          show f i = if x < usedP who then σ x else f who.length
          rw [if_pos hxl]; exact h3 i x hx
        · rename_i hil
          cases e : i - who.length with
          | zero =>
            rw [e] at hx; simp at hx; subst hx
            show f i = if usedP who < usedP who then _ else f who.length
            rw [if_neg (Nat.lt_irrefl _)]; congr 1; omega
          | succ m => rw [e] at hx; simp at hx
      · rw [hu] at ha hb
        have e : (if a < usedP who then σ a else f who.length) = (if b < usedP who then σ b else f who.length) := e
        by_cases ea : a < usedP who
        · by_cases eb : b < usedP who
          · rw [if_pos ea, if_pos eb] at e; exact h4 a b ea eb e
          · rw [if_pos ea, if_neg eb] at e; exact absurd e (hnew a ea)
        · by_cases eb : b < usedP who
          · rw [if_neg ea, if_pos eb] at e; exact absurd e.symm (hnew b eb)
          · omega
      · rw [hu] at ha
        by_cases ea : a < usedP who
        · exact List.mem_append_left _ (h5 a ea)
        · have : a = usedP who := by omega
          simp [this]
/-- A cover with numbers below most is found. -/
theorem search_all {B : Nat → Nat → Bool} {most m : Nat} (f : Nat → Nat) (h1 : ∀ i, i < m → f i < most) (h2 : ∀ i j, j < i → i < m → f i = f j → B i j = true) : (searchR B most m []).isSome = true :=
  search_some (f := f) (σ := fun a => a) (by simpa using h1) (by simpa using h2) (fun i n hi => by simp at hi) (fun a b ha => by simp [usedP] at ha) (fun a ha => by simp [usedP] at ha) (Nat.zero_le _)
/-! ### Intervals: as many persons as duties at one time -/
theorem free_color : ∀ (r : Nat) (L : List Nat), L.length < r → ∃ c, c < r ∧ c ∉ L
  | 0, L, h => by omega
  | r + 1, L, h => by
    by_cases e : r ∈ L
    · obtain ⟨c, hc, hn⟩ := free_color r (L.erase r) (by rw [List.length_erase_of_mem e]; have := List.length_pos_of_mem e; omega)
      exact ⟨c, by omega, fun hm => hn ((List.mem_erase_of_ne (by omega)).2 hm)⟩
    · exact ⟨r, by omega, e⟩
theorem most_of (g : Nat → Int) : ∀ (S : List Nat), S ≠ [] → ∃ i ∈ S, ∀ j ∈ S, g j ≤ g i
  | [], h => absurd rfl h
  | [a], _ => ⟨a, by simp, fun j hj => by simp at hj; rw [hj]; exact Int.le_refl _⟩
  | a :: b :: S, _ => by
    obtain ⟨i, hi, h⟩ := most_of g (b :: S) (by simp)
    by_cases e : g i ≤ g a
    · refine ⟨a, by simp, fun j hj => ?_⟩
      rcases List.mem_cons.1 hj with rfl | hj
      · exact Int.le_refl _
      · have := h j hj; omega
    · refine ⟨i, List.mem_cons_of_mem _ hi, fun j hj => ?_⟩
      rcases List.mem_cons.1 hj with rfl | hj
      · omega
      · exact h j hj
/-- If no more than r of the intervals meet one another, r numbers do for all of them. -/
theorem color (fr en : Nat → Int) (r : Nat) : ∀ (n : Nat) (S : List Nat), S.length = n → S.Nodup → (∀ i ∈ S, fr i < en i) →
    (∀ A : List Nat, A.Nodup → (∀ i ∈ A, i ∈ S) → (∀ i ∈ A, ∀ j ∈ A, fr i < en j) → A.length ≤ r) → ∃ f : Nat → Nat, (∀ i ∈ S, f i < r) ∧ ∀ i ∈ S, ∀ j ∈ S, i ≠ j → fr i < en j → fr j < en i → f i ≠ f j
  | 0, S, hl, _, _, _ => by
    have : S = [] := List.eq_nil_of_length_eq_zero hl
    subst this
    exact ⟨fun _ => 0, fun i hi => by simp at hi, fun i hi => by simp at hi⟩
  | n + 1, S, hl, hn, hf, hA => by
    obtain ⟨i, hi, hmax⟩ := most_of fr S (by intro e; rw [e] at hl; simp at hl)
    have hne : (S.erase i).Nodup := hn.erase i
    have hsub : ∀ j ∈ S.erase i, j ∈ S ∧ j ≠ i := fun j hj => ⟨List.mem_of_mem_erase hj, fun e => by subst e; exact (List.Nodup.mem_erase_iff hn).1 hj |>.1 rfl⟩
    obtain ⟨f, f1, f2⟩ := color fr en r n (S.erase i) (by rw [List.length_erase_of_mem hi, hl]; rfl) hne (fun j hj => hf j (hsub j hj).1) (fun A a1 a2 a3 => hA A a1 (fun j hj => (hsub j (a2 j hj)).1) a3)
    let N := (S.erase i).filter (fun j => decide (fr i < en j))
    have hN : ∀ j ∈ N, j ∈ S ∧ j ≠ i ∧ fr i < en j := fun j hj => by
      obtain ⟨h1, h2⟩ := List.mem_filter.1 hj
      exact ⟨(hsub j h1).1, (hsub j h1).2, of_decide_eq_true h2⟩
    have hlen : (i :: N).length ≤ r := by
      refine hA (i :: N) (List.nodup_cons.2 ⟨fun h => (hN i h).2.1 rfl, hne.filter _⟩) (fun j hj => ?_) (fun a ha b hb => ?_)
      · rcases List.mem_cons.1 hj with rfl | hj
        · exact hi
        · exact (hN j hj).1
      · have hb2 : fr i < en b := by
          rcases List.mem_cons.1 hb with rfl | hb
          · exact hf b hi
          · exact (hN b hb).2.2
        have ha2 : fr a ≤ fr i := by
          rcases List.mem_cons.1 ha with rfl | ha
          · exact Int.le_refl _
          · exact hmax a (hN a ha).1
        omega
    obtain ⟨c, hc, hcn⟩ := free_color r (N.map f) (by rw [List.length_map]; simp at hlen; omega)
    refine ⟨fun j => if j = i then c else f j, fun j hj => ?_, fun a ha b hb hab h1 h2 => ?_⟩
    · show (if j = i then c else f j) < r
      split
      · exact hc
      · exact f1 j ((List.mem_erase_of_ne (by assumption)).2 hj)
    · show (if a = i then c else f a) ≠ (if b = i then c else f b)
      have use : ∀ x, x ∈ S → x ≠ i → fr i < en x → c ≠ f x := fun x hx hxi hm e => hcn (List.mem_map.2 ⟨x, List.mem_filter.2 ⟨(List.mem_erase_of_ne hxi).2 hx, decide_eq_true hm⟩, e.symm⟩)
      by_cases ea : a = i
      · subst ea
        rw [if_pos rfl, if_neg (fun e => hab e.symm)]
        exact use b hb (fun e => hab e.symm) h1
      · by_cases eb : b = i
        · subst eb
          rw [if_neg ea, if_pos rfl]
          exact (use a ha ea h2).symm
        · rw [if_neg ea, if_neg eb]
          exact f2 a ((List.mem_erase_of_ne ea).2 ha) b ((List.mem_erase_of_ne eb).2 hb) hab h1 h2
end Go.Proofs.Ytfofbnpgjdagkaa
