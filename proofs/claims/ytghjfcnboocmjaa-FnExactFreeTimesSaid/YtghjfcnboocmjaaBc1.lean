
/- What ExactFreeTimes and BerthsLaw rests on, part 1: contracts and mathematics. -/
import Derived.Test.YtghjfcnboocmjaaBc0
import Derived.Deep.Slices
import Derived.Deep.Fields
import Derived.ChangeSame
import Derived.Lib.SmallJoins
namespace Go.Proofs.Ytghjfcnboocmjaa
open Go.RowKit
def mkOut : Nat → Int → ByteArray → ByteArray
  | 0, _, out => out
  | f + 1, n, out => if 0 < n then mkOut f (n / 10) (strOfNums [48 + n % 10] ++ out) else out
def markT (k : Int) : ByteArray := if k ≤ 0 then ⟨#[109, 48]⟩ else ⟨#[109]⟩ ++ mkOut k.toNat k ⟨#[]⟩
theorem mkOut_step (f : Nat) (n : Int) (out : ByteArray) (hn : 0 < n) (hf : n.toNat ≤ f) : ∃ f', (n / 10).toNat ≤ f' ∧ mkOut f' (n / 10) (strOfNums [48 + n % 10] ++ out) = mkOut f n out := by
  cases f with
  | zero => omega
  | succ f => exact ⟨f, by omega, by simp [mkOut, hn]⟩
theorem mkOut_end (f : Nat) (n : Int) (out : ByteArray) (hn : ¬ 0 < n) : mkOut f n out = out := by
  cases f with
  | zero => rfl
  | succ f => simp [mkOut, hn]
set_option maxHeartbeats 1000000 in
theorem markText_any (k : Int) (w : World) (h1 : k ≤ 1000000000000) :
    Calls Try.prog 76 #[.int .i64 k] w fun e w' => e = .returned (.string (markT k)) ∧ Below w.heap.size w w' := by
  by_cases hk : k ≤ 0
  · have hm := Lib.hid (show markT k = ⟨#[109, 48]⟩ from if_pos hk)
    go_enter Try.func76, Try.ntmps76
    go_wp2
    go_ret
    exact ⟨ret_str hm.out.symm, Below.refl _ _⟩
  · have hm := Lib.hid (show markT k = ⟨#[109]⟩ ++ mkOut k.toNat k ⟨#[]⟩ from if_neg hk)
    go_enter Try.func76, Try.ntmps76
    go_wp2
    go_loopw [0, 3] (fun i o wr => ∃ (f : Nat) (n : Int) (out : ByteArray), 0 ≤ n ∧ (out.size : Int) + n ≤ k ∧ i = .int .i64 n ∧ o = .string out ∧ n.toNat ≤ f ∧ Hid (mkOut f n out = mkOut k.toNat k ⟨#[]⟩) ∧ Below w.heap.size w wr) (fun i _ _ => (intOf i).toNat)
    case atStart => exact ⟨k.toNat, k, _, by omega, by show ((0 : Nat) : Int) + k ≤ k; omega, rfl, rfl, by omega, rfl, Below.refl _ _⟩
    case round =>
      obtain ⟨f, n, out, hn, hnk, rfl, rfl, hf, hd, hb⟩ := hrel
      by_cases hz : 0 < n
      · have hcv := conv_one wr (48 + n % 10)
        have hs1 := strOfNums_size [48 + n % 10]
        simp only [List.length_cons, List.length_nil] at hs1
        have hsz := hb.size
        go_wp2
        go_roundw
        case rel =>
          obtain ⟨f', hf', he⟩ := mkOut_step f n out hz hf
          exact ⟨f', n / 10, _, by omega, by rw [ByteArray.size_append]; omega, rfl, rfl, hf', he.trans hd.out, hb.alloc hsz _⟩
        case measure => simp [intOf]; omega
      · have he := Lib.hid (mkOut_end f n out hz)
        go_wp2
        go_ret
        exact ⟨ret_str (by rw [hm.out, ← hd.out, he.out]), hb⟩
end Go.Proofs.Ytghjfcnboocmjaa
namespace Go.Proofs.Ytghjfcnboocmjaa
open Go.ChangeShapes Go.WideShapes Go.Deep Go.RowKit
section
variable {H : Type} {enc : TypeId × Value → H} {P : Program} {w : World} {base : Nat} {spare : Nat → Bool} {held : Bool}
/-- The cells of a struct of one-cell fields: each is read by its field's own type. -/
theorem struct_cells {t : TypeId} {fs : Array Field} {fuel : Nat} {cs : List Value} {x : DataW H × List MemPlace} (ht : P.underlying t = some (.struct fs)) (hone : oneCellFields P fs = true) (hC : P.cellsOf t = fs.size)
    (h : DataW.trod enc P w base spare held fuel t cs = some x) :
    cs.length = fs.size ∧ ∀ (j : Nat) (f : Field), fs[j]? = some f → ∃ v n y, cs[j]? = some v ∧ DataW.trod enc P w base spare held n f.type [v] = some y := by
  obtain ⟨xs, n, _, _, hlen, hxl, hf⟩ := DataW.trod_struct ht h
  rw [hC] at hlen
  refine ⟨hlen, fun j f hj => ?_⟩
  have hjl : j < fs.size := (Array.getElem?_eq_some_iff.1 hj).1
  obtain ⟨ho, hk⟩ := hone_of hone j f hj
  have hg := hf j f hj
  rw [ho, hk] at hg
  have hcj : j < cs.length := by omega
  have hxj : j < xs.length := by omega
  have e : (cs.drop j).take 1 = [cs[j]] := by
    rw [List.drop_eq_getElem_cons hcj]; rfl
  rw [e, List.getElem?_eq_getElem hxj] at hg
  exact ⟨cs[j], n, xs[j], List.getElem?_eq_getElem hcj, hg⟩
/-- A list out of what is known of each place. -/
theorem list_of {α : Type} (n : Nat) (R : Nat → α → Prop) (h : ∀ i, i < n → ∃ d, R i d) : ∃ l : List α, l.length = n ∧ ∀ i x, l[i]? = some x → R i x := by
  induction n with
  | zero => exact ⟨[], rfl, fun i x hx => by simp at hx⟩
  | succ n ih =>
    obtain ⟨l, hl, hr⟩ := ih (fun i hi => h i (by omega))
    obtain ⟨d, hd⟩ := h n (by omega)
    refine ⟨l ++ [d], by simp [hl], fun i x hx => ?_⟩
    rcases Nat.lt_or_ge i l.length with hi | hi
    · rw [List.getElem?_append_left hi] at hx
      exact hr i x hx
    · rw [List.getElem?_append_right hi] at hx
      have : i - l.length = 0 := by
        rcases Nat.eq_zero_or_pos (i - l.length) with h | h
        · exact h
        · rw [List.getElem?_eq_none (by simp; omega)] at hx; cases hx
      rw [this] at hx
      simp at hx
      subst hx
      have : i = n := by omega
      rw [this]; exact hd
/-- A slice that came in, element by element: each element's cells are those of a datum of which Q holds. -/
theorem open_elems {α : Type} (cells : α → List Value) (k : Nat) (Q : α → Prop) {t e : TypeId} {fuel : Nat} {v : Value} {x : DataW H × List MemPlace} (ht : P.underlying t = some (.slice e)) (hC : P.cellsOf e = k) (hlen : ∀ d, (cells d).length = k) (hk0 : 0 < k)
    (dec : ∀ n cs y, DataW.trod enc P w base (fun _ => true) held n e cs = some y → ∃ d, cs = cells d ∧ Q d)
    (h : DataW.trod enc P w base (fun _ => true) held fuel t [v] = some x) :
    ∃ A c l, v = .slice A l.length c ∧ l.length ≤ maxLen ∧ (l.length ≤ 1000000000 → SlOf k cells w (.slice A l.length c) l) ∧ ∀ d ∈ l, Q d := by
  rcases open_slice ht h with ⟨hcs, _⟩ | ⟨a, len, cap, m, n, D, Pl, hcs, _, hl, hm, hmm, _, hi⟩
  · simp at hcs
    subst hcs
    exact ⟨none, 0, [], rfl, by simp, fun h => ⟨h, .inl ⟨rfl, _, _, rfl⟩⟩, by simp⟩
  · simp at hcs
    subst hcs
    simp only [if_true] at hmm
    rw [hmm] at hi
    clear hmm
    rw [hC] at hi
    obtain ⟨l, hll, hr⟩ := list_of len (fun i d => Q d ∧ w.cells? base (a.add (i * k)) k = some (cells d)) (fun i hil => by
      obtain ⟨cs, hc, ht'⟩ := hi i (by omega)
      obtain ⟨d, rfl, hq⟩ := dec _ _ _ ht'
      exact ⟨d, hq, hc⟩)
    subst hll
    refine ⟨some a, cap, l, rfl, by omega, fun h => ⟨h, ?_⟩, fun d hd => ?_⟩
    · rcases Nat.eq_zero_or_pos l.length with h0 | h0
      · exact .inl ⟨List.eq_nil_of_length_eq_zero h0, some a, cap, by rw [h0]⟩
      · right
        obtain ⟨b, off, spot⟩ := a
        have hspot : spot = none := by
          have hq := (hr 0 l[0] (List.getElem?_eq_getElem h0)).2
          obtain ⟨_, hcl, hat⟩ := World.cells?_some hq
          have := hat 0 hk0
          rw [List.getElem?_eq_getElem (by omega)] at this
          simpa [Addr.add] using World.cell?_spot this
        subst hspot
        have hadd : ∀ j, (⟨b, off, none⟩ : Addr).add j = ⟨b, off + j, none⟩ := fun j => by unfold Addr.add; split <;> simp_all
        refine ⟨b, off, cap, rfl, h0, hl, fun i d hd j u hu => ?_⟩
        obtain ⟨_, hcl, hat⟩ := World.cells?_some (hr i d hd).2
        have hj : j < k := by have := (List.getElem?_eq_some_iff.1 hu).1; rw [hlen] at this; exact this
        have := hat j hj
        rw [hadd, hu] at this
        have hadd2 : (⟨b, off + i * k, none⟩ : Addr).add j = ⟨b, off + i * k + j, none⟩ := by unfold Addr.add; split <;> simp_all
        rw [hadd2] at this
        exact this
    · obtain ⟨i, hi⟩ := List.getElem?_of_mem hd
      exact (hr i d hi).1
end
end Go.Proofs.Ytghjfcnboocmjaa
namespace Go.Proofs.Ytghjfcnboocmjaa
open Go.RowKit
theorem grown_below {a b c : World} {row : Option Nat} (h : a.grownBy b row) (hb : Below b.heap.size b c) : a.grownBy c row :=
  ⟨hb.os.trans h.os, hb.tape.trans h.tape, hb.output.trans h.output, Nat.le_trans h.size hb.size, fun i hi hn => (hb.block i (Nat.lt_of_lt_of_le hi h.size)).trans (h.block i hi hn)⟩
theorem grown_set {a w : World} {g o : Nat} (h : a.grownBy w (some g)) (u : Value) : a.grownBy (w.setCell ⟨g, o, none⟩ u) (some g) :=
  ⟨h.os, h.tape, h.output, by simpa [World.setCell] using h.size, fun i hi hne => (Below.heap_setCell w _ u i (by rintro rfl; exact hne rfl)).trans (h.block i hi hne)⟩
theorem setCell_frozen (w : World) (a b : Addr) (u : Value) (h : w.frozen? b = false) : (w.setCell a u).frozen? b = false := by
  rw [World.frozen?_setCell]; exact h
/-- A slice (of any elements that are rows of integers) whose N cells hold k, k + 1 and so on. -/
def Marked (w : World) (v : Value) (N : Nat) (k : Int) : Prop :=
  N = 0 ∨ ∃ g o len c, v = .slice (some ⟨g, o, none⟩) len c ∧ ∀ j, j < N → w.cell? ⟨g, o + j, none⟩ = some (.int .i64 (k + (j : Int)))
theorem Marked.grown {w w' : World} {v : Value} {N : Nat} {k : Int} {row : Option Nat} (h : Marked w v N k) (hg : w.grownBy w' row) (hne : v.ownBlock = none ∨ v.ownBlock ≠ row) : Marked w' v N k := by
  rcases h with h | ⟨g, o, len, c, rfl, hc⟩
  · exact .inl h
  · refine .inr ⟨g, o, len, c, rfl, fun j hj => hg.cell (hc j hj) ?_⟩
    rcases hne with hne | hne
    · simp [Value.ownBlock] at hne
    · exact hne
theorem Marked.below {w w' : World} {v : Value} {N : Nat} {k : Int} (h : Marked w v N k) (hb : Below w.heap.size w w') : Marked w' v N k := by
  rcases h with h | ⟨g, o, len, c, rfl, hc⟩
  · exact .inl h
  · exact .inr ⟨g, o, len, c, rfl, fun j hj => (hb.cell (World.block_lt_of_cell? w _ (hc j hj))).trans (hc j hj)⟩
/-- What a marking loop has done when i of the N cells are marked. -/
def MarkRow (w : World) (g o N : Nat) (k : Int) (i : Nat) (wr : World) : Prop :=
  w.grownBy wr (some g) ∧ (∀ j, j < i → wr.cell? ⟨g, o + j, none⟩ = some (.int .i64 (k + (j : Int)))) ∧ (∀ j, i ≤ j → j < N → ∃ x, wr.cell? ⟨g, o + j, none⟩ = some (.int .i64 x)) ∧ ∀ j, wr.frozen? ⟨g, j, none⟩ = false
theorem MarkRow.start {w : World} {g o N : Nat} {k : Int} (h : ∀ j, j < N → ∃ x, w.cell? ⟨g, o + j, none⟩ = some (.int .i64 x)) (hf : ∀ j, w.frozen? ⟨g, j, none⟩ = false) {z : Nat} (hz : z = 0 := by simp) : MarkRow w g o N k z w := by
  subst hz
  exact ⟨World.grownBy.refl _ _, fun j hj => absurd hj (by omega), fun j _ hj => h j hj, hf⟩
theorem MarkRow.next {w : World} {g o N : Nat} {k : Int} {i : Nat} {wr : World} (h : MarkRow w g o N k i wr) (hi : i < N) :
    (∃ x, wr.cell? ⟨g, o + i, none⟩ = some (.int .i64 x)) ∧ wr.frozen? ⟨g, o + i, none⟩ = false ∧ MarkRow w g o N k (i + 1) (wr.setCell ⟨g, o + i, none⟩ (.int .i64 (k + (i : Int)))) := by
  obtain ⟨hg, hd, hr, hf⟩ := h
  obtain ⟨x, hx⟩ := hr i (Nat.le_refl _) hi
  refine ⟨⟨x, hx⟩, hf _, grown_set hg _, fun j hj => ?_, fun j hj hjn => ?_, fun j => setCell_frozen _ _ _ _ (hf j)⟩
  · by_cases e : j = i
    · subst e
      exact World.cell?_setCell_same _ _ _ hx
    · rw [World.cell?_setCell_other _ _ _ _ (by intro he; injection he with _ h2; omega)]
      exact hd j (by omega)
  · rw [World.cell?_setCell_other _ _ _ _ (by intro he; injection he with _ h2; omega)]
    exact hr j (by omega) hjn
theorem MarkRow.next' {w : World} {g o N : Nat} {k : Int} {i : Nat} {wr : World} (h : MarkRow w g o N k i wr) (hi : i < N) (p : Nat) (hp : p = o + i) (x : Int) (hx : x = k + (i : Int)) (i' : Nat) (hi' : i' = i + 1) : MarkRow w g o N k i' (wr.setCell ⟨g, p, none⟩ (.int .i64 x)) := by
  subst hp hx hi'
  exact (h.next hi).2.2
theorem MarkRow.read {w : World} {g o N : Nat} {k : Int} {i : Nat} {wr : World} (h : MarkRow w g o N k i wr) (j : Nat) (hj : i ≤ j) (hN : j < N) (p : Nat) (hp : p = o + j) : ∃ x, wr.cell? ⟨g, p, none⟩ = some (.int .i64 x) := by
  subst hp
  exact h.2.2.1 j hj hN
/-- The cells of a list of rows of n integers, one by one. -/
theorem ints_of {α : Type} {n : Nat} {cs : α → List Value} (is : α → List Int) (his : ∀ x, cs x = (is x).map (Value.int .i64)) (hn : 0 < n) (hk : ∀ x, (cs x).length = n) {w : World} {l : List α} {g o : Nat}
    (hc : ∀ i x, l[i]? = some x → ∀ j u, (cs x)[j]? = some u → w.cell? ⟨g, o + i * n + j, none⟩ = some u) : ∀ j, j < l.length * n → ∃ x, w.cell? ⟨g, o + j, none⟩ = some (.int .i64 x) := by
  intro j hj
  have hi : j / n < l.length := by rw [Nat.div_lt_iff_lt_mul hn]; exact hj
  have hm : j % n < n := Nat.mod_lt _ hn
  obtain ⟨x, hx⟩ : ∃ x, l[j / n]? = some x := ⟨_, List.getElem?_eq_getElem hi⟩
  have hlen : (is x).length = n := by have := hk x; rw [his, List.length_map] at this; exact this
  obtain ⟨u, hu⟩ : ∃ u, (is x)[j % n]? = some u := ⟨_, List.getElem?_eq_getElem (by omega)⟩
  refine ⟨u, ?_⟩
  have e : o + j / n * n + j % n = o + j := by have := Nat.div_add_mod' j n; omega
  have := hc (j / n) x hx (j % n) (.int .i64 u) (by rw [his, List.getElem?_map, hu]; rfl)
  rwa [e] at this
end Go.Proofs.Ytghjfcnboocmjaa
namespace Go.Proofs.Ytghjfcnboocmjaa
def runB {α : Type} (p : List α → α → Bool) : List α → List α → Bool
  | _, [] => true
  | done, x :: l => p done x && runB p (done ++ [x]) l
section
variable {α : Type} {p : List α → α → Bool} {l : List α} {i : Nat} {x : α}
theorem runB_app : ∀ (a b d : List α), runB p d (a ++ b) = (runB p d a && runB p (d ++ a) b)
  | [], b, d => by simp [runB]
  | y :: a, b, d => by
    show (p d y && runB p (d ++ [y]) (a ++ b)) = ((p d y && runB p (d ++ [y]) a) && _)
    rw [runB_app a b (d ++ [y]), Bool.and_assoc, List.append_assoc]
    rfl
theorem runB_snoc (l : List α) (x : α) : runB p [] (l ++ [x]) = (runB p [] l && p l x) := by
  rw [runB_app]
  simp [runB]
/-- The first i elements hold. -/
def RunTo (p : List α → α → Bool) (l : List α) (i : Nat) : Prop := runB p [] (l.take i) = true
theorem RunTo.zero (p : List α → α → Bool) (l : List α) : RunTo p l 0 := rfl
theorem runB_part (a b : List α) (h : runB p [] (a ++ b) = true) : runB p [] a = true := by
  rw [runB_app, Bool.and_eq_true] at h
  exact h.1
theorem run_no (hx : l[i]? = some x) (hp : p (l.take i) x = false) : runB p [] l = false := by
  cases h : runB p [] l with
  | false => rfl
  | true =>
    have h2 : runB p [] (l.take (i + 1)) = true := runB_part (l.take (i + 1)) (l.drop (i + 1)) (by rw [List.take_append_drop]; exact h)
    rw [take_snoc' l i x hx, runB_snoc, hp, Bool.and_false] at h2
    cases h2
theorem RunTo.next (h : RunTo p l i) (hx : l[i]? = some x) (hp : p (l.take i) x = true) : RunTo p l (i + 1) := by
  unfold RunTo at h ⊢
  rw [take_snoc' l i x hx, runB_snoc, h, hp]
  rfl
theorem RunTo.all (h : RunTo p l l.length) : runB p [] l = true := by
  unfold RunTo at h
  rwa [List.take_length] at h
theorem run_at (h : runB p [] l = true) (hx : l[i]? = some x) : p (l.take i) x = true := by
  cases hp : p (l.take i) x with
  | true => rfl
  | false => rw [run_no hx hp] at h; cases h
end
/-- None of the first k of a list has the property. -/
def NoneTo {α : Type} (q : α → Bool) (l : List α) (k : Nat) : Prop := (l.take k).any q = false
theorem NoneTo.zero {α : Type} (q : α → Bool) (l : List α) : NoneTo q l 0 := rfl
theorem NoneTo.next {α : Type} {q : α → Bool} {l : List α} {k : Nat} {x : α} (h : NoneTo q l k) (hx : l[k]? = some x) (hq : q x = false) : NoneTo q l (k + 1) := by
  unfold NoneTo at h ⊢
  rw [take_snoc' l k x hx, List.any_append, h]
  simp [hq]
theorem any_at {α : Type} {q : α → Bool} {l : List α} {k n : Nat} {x : α} (hx : l[k]? = some x) (hk : k < n) (hq : q x = true) : (l.take n).any q = true := by
  rw [List.any_eq_true]
  refine ⟨x, ?_, hq⟩
  rw [List.mem_take_iff_getElem]
  obtain ⟨hk2, e⟩ := List.getElem?_eq_some_iff.1 hx
  exact ⟨k, by omega, e⟩
end Go.Proofs.Ytghjfcnboocmjaa
namespace Go.Proofs.Ytghjfcnboocmjaa
open Go.RowKit
theorem isDigit_any (r : Int) (w : World) :
    Calls Try.prog 101 #[.int .i32 r] w fun e w' => e = .returned (.bool (dgI r)) ∧ w = w' := by
  by_cases h1 : 48 ≤ r
  · by_cases h2 : r ≤ 57
    · have hn := Lib.hid (dgI_true h1 h2)
      go_enter Try.func101, Try.ntmps101
      go_wp2
      go_ret
      exact ⟨ret_bool hn.out.symm, rfl⟩
    · have hn := Lib.hid (dgI_false (.inr (by omega : 57 < r)))
      go_enter Try.func101, Try.ntmps101
      go_wp2
      go_ret
      exact ⟨ret_bool hn.out.symm, rfl⟩
  · have hn := Lib.hid (dgI_false (.inl (by omega : r < 48)))
    go_enter Try.func101, Try.ntmps101
    go_wp2
    go_ret
    exact ⟨ret_bool hn.out.symm, rfl⟩
end Go.Proofs.Ytghjfcnboocmjaa
namespace Go.Proofs.Ytghjfcnboocmjaa
open Go.RowKit
def inB (x lo hi : Int) : Bool := decide (lo ≤ x ∧ x ≤ hi)
theorem inB_mk {x lo hi : Int} (h1 : lo ≤ x) (h2 : x ≤ hi) : inB x lo hi = true := decide_eq_true ⟨h1, h2⟩
theorem inB_no {x lo hi : Int} (h : x < lo ∨ hi < x) : inB x lo hi = false := decide_eq_false (by omega)
theorem l01In_any (x lo hi : Int) (w : World) : Calls Try.prog 65 #[.int .i64 x, .int .i64 lo, .int .i64 hi] w fun e w' => e = .returned (.bool (inB x lo hi)) ∧ w = w' := by
  by_cases h1 : lo ≤ x
  · by_cases h2 : x ≤ hi
    · have H := Lib.hid (inB_mk h1 h2)
      go_enter Try.func65, Try.ntmps65
      go_wp2
      go_ret
      exact ⟨ret_bool H.out.symm, rfl⟩
    · have H := Lib.hid (inB_no (x := x) (lo := lo) (hi := hi) (.inr (by omega)))
      have h3 : decide (x ≤ hi) = false := decide_eq_false h2
      go_enter Try.func65, Try.ntmps65
      go_wp2
      go_ret
      exact ⟨ret_bool H.out.symm, rfl⟩
  · have H := Lib.hid (inB_no (x := x) (lo := lo) (hi := hi) (.inl (by omega)))
    have h3 : decide (lo ≤ x) = false := decide_eq_false h1
    go_enter Try.func65, Try.ntmps65
    go_wp2
    go_ret
    exact ⟨ret_bool H.out.symm, rfl⟩
end Go.Proofs.Ytghjfcnboocmjaa
namespace Go.Proofs.Ytghjfcnboocmjaa
open Go.RowKit
/-- A block that is known whole, and may be written. -/
def Blk (w : World) (b : Nat) (cs : Array Value) (t : TypeId) : Prop := w.heap[b]? = some (.cells cs t (0, 0))
theorem Blk.new (w : World) (cs : Array Value) (t : TypeId) : Blk (w.alloc (.cells cs t)) w.heap.size cs t := heap_alloc_new w _
theorem Blk.lt {w : World} {b : Nat} {cs : Array Value} {t : TypeId} (h : Blk w b cs t) : b < w.heap.size := by
  rcases Nat.lt_or_ge b w.heap.size with hlt | hge
  · exact hlt
  · unfold Blk at h; rw [Array.getElem?_eq_none hge] at h; cases h
theorem Blk.grown {w w' : World} {b : Nat} {cs : Array Value} {t : TypeId} {row : Option Nat} (h : Blk w b cs t) (hg : w.grownBy w' row) (hne : some b ≠ row) : Blk w' b cs t := (hg.block b h.lt hne).trans h
theorem Blk.below {w w' : World} {b : Nat} {cs : Array Value} {t : TypeId} (h : Blk w b cs t) (hb : Below w.heap.size w w') : Blk w' b cs t := (hb.block b h.lt).trans h
theorem Blk.cell {w : World} {b : Nat} {cs : Array Value} {t : TypeId} (h : Blk w b cs t) (i : Nat) : w.cell? ⟨b, i, none⟩ = cs[i]? := Joins.cell_of_block h i
theorem Blk.free {w : World} {b : Nat} {cs : Array Value} {t : TypeId} (h : Blk w b cs t) (i : Nat) : w.frozen? ⟨b, i, none⟩ = false := Joins.unfrozen_of_block h i
theorem Blk.set {w : World} {b : Nat} {cs : Array Value} {t : TypeId} (h : Blk w b cs t) (j : Nat) (u : Value) : Blk (w.setCell ⟨b, j, none⟩ u) b (cs.setIfInBounds j u) t := Joins.block_setCell h u
theorem Blk.other {w : World} {b : Nat} {cs : Array Value} {t : TypeId} (h : Blk w b cs t) {b' : Nat} (hne : b ≠ b') (j : Nat) (u : Value) : Blk (w.setCell ⟨b', j, none⟩ u) b cs t := (Below.heap_setCell w ⟨b', j, none⟩ u b hne).trans h
theorem Blk.drewN {w : World} {b : Nat} {cs : Array Value} {t : TypeId} (h : Blk w b cs t) (n : Nat) : Blk (w.drewN n) b cs t := h
theorem Blk.drew {w : World} {b : Nat} {cs : Array Value} {t : TypeId} (h : Blk w b cs t) : Blk w.drew b cs t := h
end Go.Proofs.Ytghjfcnboocmjaa
namespace Go.Proofs.Ytghjfcnboocmjaa
open Go.RowKit
set_option maxRecDepth 100000
section
variable {α : Type} {k : Nat} {cs : α → List Value} {t : TypeId}
theorem own_kept {W w3 : World} {base : Nat} {v : Value} {l : List α} {row : Option Nat} (h : OwnOf k cs t W base v l) (hg : W.grownBy w3 row) (hne : ∀ b, v.ownBlock = some b → row ≠ some b) : OwnOf k cs t w3 base v l := by
  refine World.ownsRow.kept h hg ?_
  cases hv : v.ownBlock with
  | none => exact .inl rfl
  | some g => right; intro e; exact hne g hv e.symm
theorem own_ge {W : World} {base : Nat} {v : Value} {l : List α} (h : OwnOf k cs t W base v l) {b : Nat} (hv : v.ownBlock = some b) : base ≤ b ∧ b < W.heap.size := World.ownsRow.lt h b hv
end
/-- A growth into a block that is younger than the first world. -/
theorem grown_young {a w w' : World} {row row' : Option Nat} (h : a.grownBy w row) (hg : w.grownBy w' row') (hy : ∀ b, row' = some b → a.heap.size ≤ b) : a.grownBy w' row :=
  ⟨hg.os.trans h.os, hg.tape.trans h.tape, hg.output.trans h.output, Nat.le_trans h.size hg.size, fun i hi hne => (hg.block i (Nat.lt_of_lt_of_le hi h.size) (fun e => Nat.lt_irrefl _ (Nat.lt_of_lt_of_le hi (hy i e.symm)))).trans (h.block i hi hne)⟩
end Go.Proofs.Ytghjfcnboocmjaa
