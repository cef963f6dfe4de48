
/- Lock chambers: the longest prefix that is packed together, and the greedy lockings: plain mathematics. -/
import Derived.Test.YtphagahhhfiiaaaLotMath
namespace Go.Proofs.Ytphagahhhfiiaaa
set_option maxRecDepth 100000

/-- The first number from n on (m are left) that is not right. -/
def longR (p : Nat → Bool) : Nat → Nat → Nat
  | n, 0 => n
  | n, m + 1 => if p n then longR p (n + 1) m else n
def preB (k : ChamberD) (l : List Int) (n : Nat) : Bool := (packO k (l.take (n + 1))).isSome
/-- How many of the first ships are packed together. -/
def longN (k : ChamberD) (l : List Int) : Nat := longR (preB k l) 0 l.length
theorem longR_end {p : Nat → Bool} {n : Nat} : longR p n 0 = n := rfl
theorem longR_yes {p : Nat → Bool} {n m : Nat} (h : p n = true) : longR p n (m + 1) = longR p (n + 1) m := by
  show (if _ then _ else _) = _
  rw [if_pos h]
theorem longR_no {p : Nat → Bool} {n m : Nat} (h : p n = false) : longR p n (m + 1) = n := by
  show (if _ then _ else _) = _
  rw [if_neg (by rw [h]; simp)]
theorem longR_ge {p : Nat → Bool} : ∀ {m n : Nat}, n ≤ longR p n m ∧ longR p n m ≤ n + m
  | 0, n => ⟨Nat.le_refl _, Nat.le_refl _⟩
  | m + 1, n => by
    cases h : p n with
    | true => rw [longR_yes h]; have := longR_ge (p := p) (m := m) (n := n + 1); omega
    | false => rw [longR_no h]; omega
theorem longR_all {p : Nat → Bool} : ∀ {m n i : Nat}, n ≤ i → i < longR p n m → p i = true
  | 0, n, i, h1, h2 => by rw [longR_end] at h2; omega
  | m + 1, n, i, h1, h2 => by
    cases h : p n with
    | true =>
      by_cases e : i = n
      · rw [e]; exact h
      · rw [longR_yes h] at h2
        exact longR_all (by omega) h2
    | false => rw [longR_no h] at h2; omega
theorem longR_stop {p : Nat → Bool} : ∀ {m n : Nat}, longR p n m < n + m → p (longR p n m) = false
  | 0, n, h => by rw [longR_end] at h; omega
  | m + 1, n, h => by
    cases hp : p n with
    | true => rw [longR_yes hp] at h ⊢; exact longR_stop (by omega)
    | false => rw [longR_no hp]; exact hp
theorem longN_le (k : ChamberD) (l : List Int) : longN k l ≤ l.length := by have := (longR_ge (p := preB k l) (m := l.length) (n := 0)).2; unfold longN; omega
/-- What is taken is packed together. -/
theorem longN_packs {k : ChamberD} {l : List Int} (h : 0 < longN k l) : (packO k (l.take (longN k l))).isSome = true := by
  have := longR_all (p := preB k l) (m := l.length) (n := 0) (i := longN k l - 1) (Nat.zero_le _) (by show _ < longN k l; omega)
  unfold preB at this
  rwa [show longN k l - 1 + 1 = longN k l by omega] at this
theorem longN_stop {k : ChamberD} {l : List Int} (h : longN k l < l.length) : (packO k (l.take (longN k l + 1))).isSome = false := longR_stop (p := preB k l) (m := l.length) (n := 0) (by have : longN k l = longR (preB k l) 0 l.length := rfl; omega)
/-- The greedy lockings, f at most. -/
def prefF (k : ChamberD) : Nat → List Int → List Int
  | 0, _ => []
  | f + 1, l => if l = [] then [] else ((longN k l : Nat) : Int) :: prefF k f (l.drop (longN k l))
def shortB (k : ChamberD) (l : List Int) : Bool := l.all (fun n => decide (n ≤ k.length))
def fitsB (k : ChamberD) (l : List Int) : Bool := chamB k && lensB l && shortB k l
def prefL (k : ChamberD) (l : List Int) : List Int := if fitsB k l = true then prefF k l.length l else []
theorem packO_isSome {k : ChamberD} {l : List Int} (h1 : chamB k = true) (h2 : lensB l = true) : (packO k l).isSome = true ↔ PacksIn k.length k.lanes.toNat l := by
  rw [packO_ok h1 h2]
  obtain ⟨a, -⟩ := chamB_true h1
  exact packs_iff (by omega) (fun n hn => by obtain ⟨i, hi, e⟩ := List.getElem_of_mem hn; have := lensB_at h2 (show l[i]? = some n by rw [List.getElem?_eq_getElem hi, e]); omega)
theorem lens_pos {l : List Int} (h : lensB l = true) : ∀ n ∈ l, 0 ≤ n := fun n hn => by
  obtain ⟨i, hi, e⟩ := List.getElem_of_mem hn
  have := lensB_at h (show l[i]? = some n by rw [List.getElem?_eq_getElem hi, e])
  omega
theorem lens_take {l : List Int} (h : lensB l = true) (n : Nat) : lensB (l.take n) = true := lensB_part h (by have := lensB_len h; rw [List.length_take]; omega) (fun _ hx => List.mem_of_mem_take hx)
theorem lens_drop {l : List Int} (h : lensB l = true) (n : Nat) : lensB (l.drop n) = true := lensB_part h (by have := lensB_len h; rw [List.length_drop]; omega) (fun _ hx => List.mem_of_mem_drop hx)
/-- Nothing is taken exactly where the first ship is too long. -/
theorem longN_zero {k : ChamberD} {x : Int} {l : List Int} (h1 : chamB k = true) (h2 : lensB (x :: l) = true) : longN k (x :: l) = 0 ↔ k.length < x := by
  obtain ⟨a, -, a2, -⟩ := chamB_true h1
  have hp : preB k (x :: l) 0 = true ↔ x ≤ k.length := by
    have h3 : lensB [x] = true := lens_take h2 1
    show (packO k [x]).isSome = true ↔ _
    rw [packO_isSome h1 h3]
    constructor
    · intro h; exact packs_le (lens_pos h3) h x (by simp)
    · intro h; exact packs_one (by omega) (by omega) h
  have e : longN k (x :: l) = longR (preB k (x :: l)) 0 (l.length + 1) := rfl
  cases hb : preB k (x :: l) 0 with
  | true =>
    rw [e, longR_yes hb]
    have := (longR_ge (p := preB k (x :: l)) (m := l.length) (n := 0 + 1)).1
    have := hp.1 hb
    omega
  | false =>
    rw [e, longR_no hb]
    have : ¬ x ≤ k.length := fun h => by rw [hp.2 h] at hb; cases hb
    omega
theorem prefF_go {k : ChamberD} {f : Nat} {l : List Int} (h : l ≠ []) : prefF k (f + 1) l = ((longN k l : Nat) : Int) :: prefF k f (l.drop (longN k l)) := if_neg h
/-- Once enough lockings are allowed, more change nothing. -/
theorem prefF_more {k : ChamberD} (h1 : chamB k = true) : ∀ {f g : Nat} {l : List Int}, lensB l = true → shortB k l = true → l.length ≤ f → l.length ≤ g → prefF k f l = prefF k g l
  | 0, g, l, _, _, hf, _ => by
    have : l = [] := List.eq_nil_of_length_eq_zero (by omega)
    subst this
    cases g <;> rfl
  | f + 1, 0, l, _, _, _, hg => by
    have : l = [] := List.eq_nil_of_length_eq_zero (by omega)
    subst this
    rfl
  | f + 1, g + 1, l, h2, h3, hf, hg => by
    cases l with
    | nil => rfl
    | cons x l =>
      have hx : x ≤ k.length := by unfold shortB at h3; rw [List.all_eq_true] at h3; exact of_decide_eq_true (h3 x (by simp))
      have hp : longN k (x :: l) ≠ 0 := fun h => by have := (longN_zero h1 h2).1 h; omega
      rw [prefF_go (by simp), prefF_go (by simp)]
      congr 1
      refine prefF_more h1 (lens_drop h2 _) ?_ (by rw [List.length_drop]; omega) (by rw [List.length_drop]; omega)
      unfold shortB at h3 ⊢
      rw [List.all_eq_true] at h3 ⊢
      exact fun y hy => h3 y (List.mem_of_mem_drop hy)
theorem prefF_len {k : ChamberD} : ∀ (f : Nat) (l : List Int), (prefF k f l).length ≤ f
  | 0, _ => Nat.le_refl _
  | f + 1, l => by
    unfold prefF
    split
    · simp
    · simp only [List.length_cons]
      have := prefF_len (k := k) f (l.drop (longN k l))
      omega
theorem prefL_len (k : ChamberD) (l : List Int) : (prefL k l).length ≤ 10000000 := by
  unfold prefL
  split
  · rename_i h
    unfold fitsB at h
    simp only [Bool.and_eq_true] at h
    have := prefF_len (k := k) l.length l
    have := lensB_len h.1.2
    omega
  · simp
end Go.Proofs.Ytphagahhhfiiaaa
