
/- What ExactSailRoute and ExactFirstSail rests on, part 1: contracts and mathematics. -/
import Derived.Test.YtooeikimoheecaaGreatSf0
import Derived.OrdersHeld
import Derived.BigRegionIn
import Derived.Lib.Hide
namespace Go.Proofs.YtooeikimoheecaaGreat
open Go.RowKit
theorem grown_below {a b c : World} {row : Option Nat} (h : a.grownBy b row) (hb : Below b.heap.size b c) : a.grownBy c row :=
  ⟨hb.os.trans h.os, hb.tape.trans h.tape, hb.output.trans h.output, Nat.le_trans h.size hb.size, fun i hi hn => (hb.block i (Nat.lt_of_lt_of_le hi h.size)).trans (h.block i hi hn)⟩
theorem grown_set {a w : World} {g o : Nat} (h : a.grownBy w (some g)) (u : Value) : a.grownBy (w.setCell ⟨g, o, none⟩ u) (some g) :=
  ⟨h.os, h.tape, h.output, by simpa [World.setCell] using h.size, fun i hi hne => (Below.heap_setCell w _ u i (by rintro rfl; exact hne rfl)).trans (h.block i hi hne)⟩
theorem setCell_frozen (w : World) (a b : Addr) (u : Value) (h : w.frozen? b = false) : (w.setCell a u).frozen? b = false := by
  rw [World.frozen?_setCell]; exact h
/-- A slice (of any elements that are rows of integers) whose N cells hold k, k + 1 and so on. -/
def Marked (w : World) (v : Value) (N : Nat) (k : Int) : Prop :=
  N = 0 ∨ ∃ g o len c, v = .slice (some ⟨g, o, none⟩) len c ∧ ∀ j, j < N → w.cell? ⟨g, o + j, none⟩ = some (.int .i64 (k + (j : Int)))
theorem Marked.grown {w w' : World} {v : Value} {N : Nat} {k : Int} {row : Option Nat} (h : Marked w v N k) (hg : w.grownBy w' row) (hne : v.ownBlock = none ∨ v.ownBlock ≠ row) : Marked w' v N k := by
  rcases h with h | ⟨g, o, len, c, rfl, hc⟩
  · exact .inl h
  · refine .inr ⟨g, o, len, c, rfl, fun j hj => hg.cell (hc j hj) ?_⟩
    rcases hne with hne | hne
    · simp [Value.ownBlock] at hne
    · exact hne
theorem Marked.below {w w' : World} {v : Value} {N : Nat} {k : Int} (h : Marked w v N k) (hb : Below w.heap.size w w') : Marked w' v N k := by
  rcases h with h | ⟨g, o, len, c, rfl, hc⟩
  · exact .inl h
  · exact .inr ⟨g, o, len, c, rfl, fun j hj => (hb.cell (World.block_lt_of_cell? w _ (hc j hj))).trans (hc j hj)⟩
/-- What a marking loop has done when i of the N cells are marked. -/
def MarkRow (w : World) (g o N : Nat) (k : Int) (i : Nat) (wr : World) : Prop :=
  w.grownBy wr (some g) ∧ (∀ j, j < i → wr.cell? ⟨g, o + j, none⟩ = some (.int .i64 (k + (j : Int)))) ∧ (∀ j, i ≤ j → j < N → ∃ x, wr.cell? ⟨g, o + j, none⟩ = some (.int .i64 x)) ∧ ∀ j, wr.frozen? ⟨g, j, none⟩ = false
theorem MarkRow.start {w : World} {g o N : Nat} {k : Int} (h : ∀ j, j < N → ∃ x, w.cell? ⟨g, o + j, none⟩ = some (.int .i64 x)) (hf : ∀ j, w.frozen? ⟨g, j, none⟩ = false) {z : Nat} (hz : z = 0 := by simp) : MarkRow w g o N k z w := by
  subst hz
  exact ⟨World.grownBy.refl _ _, fun j hj => absurd hj (by omega), fun j _ hj => h j hj, hf⟩
theorem MarkRow.next {w : World} {g o N : Nat} {k : Int} {i : Nat} {wr : World} (h : MarkRow w g o N k i wr) (hi : i < N) :
    (∃ x, wr.cell? ⟨g, o + i, none⟩ = some (.int .i64 x)) ∧ wr.frozen? ⟨g, o + i, none⟩ = false ∧ MarkRow w g o N k (i + 1) (wr.setCell ⟨g, o + i, none⟩ (.int .i64 (k + (i : Int)))) := by
  obtain ⟨hg, hd, hr, hf⟩ := h
  obtain ⟨x, hx⟩ := hr i (Nat.le_refl _) hi
  refine ⟨⟨x, hx⟩, hf _, grown_set hg _, fun j hj => ?_, fun j hj hjn => ?_, fun j => setCell_frozen _ _ _ _ (hf j)⟩
  · by_cases e : j = i
    · subst e
      exact World.cell?_setCell_same _ _ _ hx
    · rw [World.cell?_setCell_other _ _ _ _ (by intro he; injection he with _ h2; omega)]
      exact hd j (by omega)
  · rw [World.cell?_setCell_other _ _ _ _ (by intro he; injection he with _ h2; omega)]
    exact hr j (by omega) hjn
theorem MarkRow.next' {w : World} {g o N : Nat} {k : Int} {i : Nat} {wr : World} (h : MarkRow w g o N k i wr) (hi : i < N) (p : Nat) (hp : p = o + i) (x : Int) (hx : x = k + (i : Int)) (i' : Nat) (hi' : i' = i + 1) : MarkRow w g o N k i' (wr.setCell ⟨g, p, none⟩ (.int .i64 x)) := by
  subst hp hx hi'
  exact (h.next hi).2.2
theorem MarkRow.read {w : World} {g o N : Nat} {k : Int} {i : Nat} {wr : World} (h : MarkRow w g o N k i wr) (j : Nat) (hj : i ≤ j) (hN : j < N) (p : Nat) (hp : p = o + j) : ∃ x, wr.cell? ⟨g, p, none⟩ = some (.int .i64 x) := by
  subst hp
  exact h.2.2.1 j hj hN
/-- The cells of a list of rows of n integers, one by one. -/
theorem ints_of {α : Type} {n : Nat} {cs : α → List Value} (is : α → List Int) (his : ∀ x, cs x = (is x).map (Value.int .i64)) (hn : 0 < n) (hk : ∀ x, (cs x).length = n) {w : World} {l : List α} {g o : Nat}
    (hc : ∀ i x, l[i]? = some x → ∀ j u, (cs x)[j]? = some u → w.cell? ⟨g, o + i * n + j, none⟩ = some u) : ∀ j, j < l.length * n → ∃ x, w.cell? ⟨g, o + j, none⟩ = some (.int .i64 x) := by
  intro j hj
  have hi : j / n < l.length := by rw [Nat.div_lt_iff_lt_mul hn]; exact hj
  have hm : j % n < n := Nat.mod_lt _ hn
  obtain ⟨x, hx⟩ : ∃ x, l[j / n]? = some x := ⟨_, List.getElem?_eq_getElem hi⟩
  have hlen : (is x).length = n := by have := hk x; rw [his, List.length_map] at this; exact this
  obtain ⟨u, hu⟩ : ∃ u, (is x)[j % n]? = some u := ⟨_, List.getElem?_eq_getElem (by omega)⟩
  refine ⟨u, ?_⟩
  have e : o + j / n * n + j % n = o + j := by have := Nat.div_add_mod' j n; omega
  have := hc (j / n) x hx (j % n) (.int .i64 u) (by rw [his, List.getElem?_map, hu]; rfl)
  rwa [e] at this
/-- A cell of an older block is set: what is owned stays owned. -/
theorem own_set_under {α : Type} {k : Nat} {cs : α → List Value} {t : TypeId} {w : World} {base : Nat} {v : Value} {l : List α} (h : OwnOf k cs t w base v l) {a : Addr} (ha : a.block < base) (u : Value) : OwnOf k cs t (w.setCell a u) base v l := by
  refine World.ownsRow.kept h (row := some a.block) ⟨rfl, rfl, rfl, by simp [World.setCell], fun i hi hne => Below.heap_setCell w _ u i (by rintro rfl; exact hne rfl)⟩ ?_
  cases hv : v.ownBlock with
  | none => exact .inl rfl
  | some g =>
    right
    intro e
    have := (World.ownsRow.lt h g hv).1
    have := Option.some.inj e
    omega
end Go.Proofs.YtooeikimoheecaaGreat
namespace Go.Proofs.YtooeikimoheecaaGreat
open Go.RowKit
theorem isDigit_any (r : Int) (w : World) :
    Calls Tryz.prog 131 #[.int .i32 r] w fun e w' => e = .returned (.bool (dgI r)) ∧ w = w' := by
  by_cases h1 : 48 ≤ r
  · by_cases h2 : r ≤ 57
    · have hn := Lib.hid (dgI_true h1 h2)
      go_enter Tryz.func131, Tryz.ntmps131
      go_wp2
      go_ret
      exact ⟨ret_bool hn.out.symm, rfl⟩
    · have hn := Lib.hid (dgI_false (.inr (by omega : 57 < r)))
      go_enter Tryz.func131, Tryz.ntmps131
      go_wp2
      go_ret
      exact ⟨ret_bool hn.out.symm, rfl⟩
  · have hn := Lib.hid (dgI_false (.inl (by omega : r < 48)))
    go_enter Tryz.func131, Tryz.ntmps131
    go_wp2
    go_ret
    exact ⟨ret_bool hn.out.symm, rfl⟩
end Go.Proofs.YtooeikimoheecaaGreat
namespace Go.Proofs.YtooeikimoheecaaGreat
open Go.RowKit
/-- A block that is known whole, and may be written. -/
def Blk (w : World) (b : Nat) (cs : Array Value) (t : TypeId) : Prop := w.heap[b]? = some (.cells cs t (0, 0))
theorem Blk.new (w : World) (cs : Array Value) (t : TypeId) : Blk (w.alloc (.cells cs t)) w.heap.size cs t := heap_alloc_new w _
theorem Blk.newAt {w : World} {b : Nat} (h : b = w.heap.size) (cs : Array Value) (t : TypeId) : Blk (w.alloc (.cells cs t)) b cs t := by subst h; exact Blk.new w cs t
theorem Blk.lt {w : World} {b : Nat} {cs : Array Value} {t : TypeId} (h : Blk w b cs t) : b < w.heap.size := by
  rcases Nat.lt_or_ge b w.heap.size with hlt | hge
  · exact hlt
  · unfold Blk at h; rw [Array.getElem?_eq_none hge] at h; cases h
theorem Blk.grown {w w' : World} {b : Nat} {cs : Array Value} {t : TypeId} {row : Option Nat} (h : Blk w b cs t) (hg : w.grownBy w' row) (hne : some b ≠ row) : Blk w' b cs t := (hg.block b h.lt hne).trans h
theorem Blk.below {w w' : World} {b : Nat} {cs : Array Value} {t : TypeId} (h : Blk w b cs t) (hb : Below w.heap.size w w') : Blk w' b cs t := (hb.block b h.lt).trans h
theorem Blk.cell {w : World} {b : Nat} {cs : Array Value} {t : TypeId} (h : Blk w b cs t) (i : Nat) : w.cell? ⟨b, i, none⟩ = cs[i]? := Joins.cell_of_block h i
theorem Blk.free {w : World} {b : Nat} {cs : Array Value} {t : TypeId} (h : Blk w b cs t) (i : Nat) : w.frozen? ⟨b, i, none⟩ = false := Joins.unfrozen_of_block h i
theorem Blk.set {w : World} {b : Nat} {cs : Array Value} {t : TypeId} (h : Blk w b cs t) (j : Nat) (u : Value) : Blk (w.setCell ⟨b, j, none⟩ u) b (cs.setIfInBounds j u) t := Joins.block_setCell h u
theorem Blk.other {w : World} {b : Nat} {cs : Array Value} {t : TypeId} (h : Blk w b cs t) {b' : Nat} (hne : b ≠ b') (j : Nat) (u : Value) : Blk (w.setCell ⟨b', j, none⟩ u) b cs t := (Below.heap_setCell w ⟨b', j, none⟩ u b hne).trans h
theorem Blk.drewN {w : World} {b : Nat} {cs : Array Value} {t : TypeId} (h : Blk w b cs t) (n : Nat) : Blk (w.drewN n) b cs t := h
theorem Blk.drew {w : World} {b : Nat} {cs : Array Value} {t : TypeId} (h : Blk w b cs t) : Blk w.drew b cs t := h
end Go.Proofs.YtooeikimoheecaaGreat
namespace Go.Proofs.YtooeikimoheecaaGreat
open Go.RowKit
def perB (p : Int) : Bool := decide (4 ≤ p ∧ p ≤ 2880 ∧ p % 4 = 0)
def crest (x h : Int) : Int := 40000 * x * (h - x) / (h * h)
def waveI (n p : Int) : Int := if perB p = true then (if n % p < p / 2 then crest (n % p) (p / 2) else -crest (n % p - p / 2) (p / 2)) else 0
theorem perB_true {p : Int} (h : perB p = true) : 4 ≤ p ∧ p ≤ 2880 ∧ p % 4 = 0 := of_decide_eq_true h
theorem perB_false {p : Int} (h : perB p = false) : ¬ (4 ≤ p ∧ p ≤ 2880 ∧ p % 4 = 0) := of_decide_eq_false h
theorem perB_mk {p : Int} (h : 4 ≤ p ∧ p ≤ 2880 ∧ p % 4 = 0) : perB p = true := decide_eq_true h
theorem perB_no {p : Int} (h : ¬ (4 ≤ p ∧ p ≤ 2880 ∧ p % 4 = 0)) : perB p = false := decide_eq_false h
theorem crest_num {x h : Int} (h0 : 0 ≤ x) (h1 : x ≤ h) (h2 : h ≤ 1440) : 0 ≤ 40000 * x * (h - x) ∧ 40000 * x * (h - x) ≤ 82944000000 := by
  have a : 0 ≤ x * (h - x) := Int.mul_nonneg h0 (by omega)
  have b : x * (h - x) ≤ 1440 * 1440 := Int.mul_le_mul (by omega) (by omega) (by omega) (by omega)
  have e : 40000 * x * (h - x) = 40000 * (x * (h - x)) := Int.mul_assoc _ _ _
  rw [e]; omega
theorem crest_den {h : Int} (h0 : 1 ≤ h) (h2 : h ≤ 1440) : 1 ≤ h * h ∧ h * h ≤ 2073600 := by
  have a : 1 * 1 ≤ h * h := Int.mul_le_mul h0 h0 (by omega) (by omega)
  have b : h * h ≤ 1440 * 1440 := Int.mul_le_mul h2 h2 (by omega) (by omega)
  omega
/-- 4 x (h - x) is at most h * h. -/
theorem crest_le {x h : Int} (h0 : 1 ≤ h) (x0 : 0 ≤ x) (x1 : x ≤ h) : 0 ≤ crest x h ∧ crest x h ≤ 10000 := by
  have hp : 0 < h * h := Int.mul_pos (by omega) (by omega)
  unfold crest
  refine ⟨Int.ediv_nonneg (Int.mul_nonneg (by omega) (by omega)) (Int.le_of_lt hp), ?_⟩
  refine Int.ediv_le_of_le_mul hp ?_
  have sq : 0 ≤ (h - 2 * x) * (h - 2 * x) := by
    rcases Int.le_total 0 (h - 2 * x) with g | g
    · exact Int.mul_nonneg g g
    · have := Int.mul_nonneg (a := -(h - 2 * x)) (b := -(h - 2 * x)) (by omega) (by omega)
      rwa [Int.neg_mul_neg] at this
  have e1 : (h - 2 * x) * (h - 2 * x) = h * h - 4 * (x * (h - x)) := by
    simp only [Int.mul_sub, Int.sub_mul]
    have c1 : h * (2 * x) = 2 * (x * h) := by rw [Int.mul_left_comm, Int.mul_comm h x]
    have c2 : 2 * x * h = 2 * (x * h) := Int.mul_assoc _ _ _
    have c3 : 2 * x * (2 * x) = 4 * (x * x) := by rw [Int.mul_assoc, Int.mul_left_comm x 2 x]; omega
    rw [c1, c2, c3]; omega
  have e2 : 40000 * x * (h - x) = 40000 * (x * (h - x)) := Int.mul_assoc _ _ _
  rw [e2]
  omega
theorem waveI_no {n p : Int} (h : perB p = false) : waveI n p = 0 := by unfold waveI; rw [h]; rfl
theorem waveI_up {n p : Int} (h : perB p = true) (hx : n % p < p / 2) : waveI n p = crest (n % p) (p / 2) := by unfold waveI; rw [if_pos h, if_pos hx]
theorem waveI_down {n p : Int} (h : perB p = true) (hx : ¬ n % p < p / 2) : waveI n p = -crest (n % p - p / 2) (p / 2) := by unfold waveI; rw [if_pos h, if_neg hx]
theorem waveI_le (n p : Int) : -10000 ≤ waveI n p ∧ waveI n p ≤ 10000 := by
  cases h : perB p with
  | false => rw [waveI_no h]; omega
  | true =>
    obtain ⟨a, b, c⟩ := perB_true h
    have m0 := Int.emod_nonneg n (b := p) (by omega)
    have m1 := Int.emod_lt_of_pos n (b := p) (by omega)
    by_cases hx : n % p < p / 2
    · rw [waveI_up h hx]
      have := crest_le (x := n % p) (h := p / 2) (by omega) m0 (by omega)
      omega
    · rw [waveI_down h hx]
      have := crest_le (x := n % p - p / 2) (h := p / 2) (by omega) (by omega) (by omega)
      omega
theorem tmod_neg {n p : Int} (hp : 0 < p) (h : n.tmod p < 0) : n.tmod p + p = n % p := by
  rcases Int.le_total 0 n with g | g
  · rw [Int.tmod_eq_emod_of_nonneg g] at h
    have := Int.emod_nonneg n (b := p) (by omega)
    omega
  · have m0 := Int.emod_nonneg n (b := p) (by omega)
    have m1 := Int.emod_lt_of_pos n (b := p) hp
    have t0 := Int.tmod_add_mul_tdiv n p
    have e0 := Int.emod_add_mul_ediv n p
    have tb : -p < n.tmod p := by
      have := Int.lt_tmod_of_pos n hp
      omega
    have hm : (n.tmod p + p) % p = n.tmod p + p := Int.emod_eq_of_lt (by omega) (by omega)
    rw [← hm, Int.add_emod_right]
    have : n % p = (n.tmod p + p * n.tdiv p) % p := by rw [t0]
    rw [this, Int.add_mul_emod_self_left]
theorem tmod_pos {n p : Int} (hp : 0 < p) (h : ¬ n.tmod p < 0) : n.tmod p = n % p := by
  have t0 := Int.tmod_add_mul_tdiv n p
  have tb := Int.tmod_lt_of_pos n hp
  have hm : (n.tmod p) % p = n.tmod p := Int.emod_eq_of_lt (by omega) (by omega)
  rw [← hm]
  have : n % p = (n.tmod p + p * n.tdiv p) % p := by rw [t0]
  rw [this, Int.add_mul_emod_self_left]
theorem isPeriod_any (p : Int) (w : World) : Calls Tryz.prog 155 #[.int .i64 p] w fun e w' => e = .returned (.bool (perB p)) ∧ w = w' := by
  by_cases h1 : 4 ≤ p
  · by_cases h2 : p ≤ 2880
    · by_cases h3 : p % 4 = 0
      · have H := Lib.hid (perB_mk ⟨h1, h2, h3⟩)
        have h4 : (p % 4 == 0) = true := by simpa using h3
        clear h3
        go_enter Tryz.func155, Tryz.ntmps155
        go_wp2
        go_ret
        exact ⟨ret_bool H.out.symm, rfl⟩
      · have H := Lib.hid (perB_no (p := p) (by omega))
        have h4 : (p % 4 == 0) = false := by simpa using h3
        clear h3
        go_enter Tryz.func155, Tryz.ntmps155
        go_wp2
        go_ret
        exact ⟨ret_bool H.out.symm, rfl⟩
    · have H := Lib.hid (perB_no (p := p) (by omega))
      have h4 : decide (p ≤ 2880) = false := decide_eq_false h2
      go_enter Tryz.func155, Tryz.ntmps155
      go_wp2
      go_ret
      exact ⟨ret_bool H.out.symm, rfl⟩
  · have H := Lib.hid (perB_no (p := p) (by omega))
    have h4 : decide (4 ≤ p) = false := decide_eq_false h1
    go_enter Tryz.func155, Tryz.ntmps155
    go_wp2
    go_ret
    exact ⟨ret_bool H.out.symm, rfl⟩
theorem remainder_any (n p : Int) (w : World) (h0 : 0 < p) (h1 : p ≤ 2880) : Calls Tryz.prog 159 #[.int .i64 n, .int .i64 p] w fun e w' => e = .returned (.int .i64 (n % p)) ∧ w = w' := by
  have b0 := Int.tmod_lt_of_pos n h0
  have b1 := Int.lt_tmod_of_pos n h0
  have hz : p ≠ 0 := by omega
  by_cases hs : n.tmod p < 0
  · have H := Lib.hid (tmod_neg h0 hs)
    go_enter Tryz.func159, Tryz.ntmps159
    go_wp2
    go_ret
    exact ⟨ret_int H.out, rfl⟩
  · have H := Lib.hid (tmod_pos h0 hs)
    go_enter Tryz.func159, Tryz.ntmps159
    go_wp2
    go_ret
    exact ⟨ret_int H.out, rfl⟩
theorem waveCrest_any (x h : Int) (w : World) (h0 : 1 ≤ h) (h1 : h ≤ 1440) (x0 : 0 ≤ x) (x1 : x ≤ h) : Calls Tryz.prog 160 #[.int .i64 x, .int .i64 h] w fun e w' => e = .returned (.int .i64 (crest x h)) ∧ w = w' := by
  obtain ⟨a0, a1⟩ := crest_num x0 x1 h1
  obtain ⟨d0, d1⟩ := crest_den h0 h1
  go_enter Tryz.func160, Tryz.ntmps160
  go_wp2
  go_ret
  exact ⟨rfl, rfl⟩
theorem implWave (n p : Int) (w : World) : Calls Tryz.prog 158 #[.int .i64 n, .int .i64 p] w fun e w' => e = .returned (.int .i64 (waveI n p)) ∧ w = w' := by
  cases hp : perB p with
  | false =>
    have H := Lib.hid (waveI_no (n := n) hp)
    have C := Lib.hid (isPeriod_any p w)
    rw [hp] at C
    clear hp
    go_enter Tryz.func158, Tryz.ntmps158
    go_wp2_with fail
    refine C.out.mono ?_
    rintro e w1 ⟨rfl, rfl⟩
    go_wp2
    go_ret
    exact ⟨ret_int H.out.symm, rfl⟩
  | true =>
    obtain ⟨p0, p1, p2⟩ := perB_true hp
    have C := Lib.hid (isPeriod_any p w)
    rw [hp] at C
    have HP := Lib.hid hp
    have HQ := Lib.hid p2
    have m0 := Int.emod_nonneg n (b := p) (by omega)
    have m1 := Int.emod_lt_of_pos n (b := p) (by omega)
    clear hp p2
    by_cases hx : n % p < p / 2
    · have H := Lib.hid (waveI_up HP.out hx)
      go_enter Tryz.func158, Tryz.ntmps158
      go_wp2_with fail
      refine C.out.mono ?_
      rintro e w1 ⟨rfl, rfl⟩
      go_wp2_with fail
      refine (remainder_any n p _ (by omega) p1).mono ?_
      rintro e w1 ⟨rfl, rfl⟩
      go_wp2_with fail
      refine (waveCrest_any _ _ _ (by omega) (by omega) m0 (by omega)).mono ?_
      rintro e w1 ⟨rfl, rfl⟩
      go_wp2
      go_ret
      exact ⟨ret_int H.out.symm, rfl⟩
    · have H := Lib.hid (waveI_down HP.out hx)
      have hb := crest_le (x := n % p - p / 2) (h := p / 2) (by omega) (by omega) (by omega)
      obtain ⟨hb0, hb1⟩ := hb
      go_enter Tryz.func158, Tryz.ntmps158
      go_wp2_with fail
      refine C.out.mono ?_
      rintro e w1 ⟨rfl, rfl⟩
      go_wp2_with fail
      refine (remainder_any n p _ (by omega) p1).mono ?_
      rintro e w1 ⟨rfl, rfl⟩
      go_wp2_with fail
      refine (waveCrest_any _ _ _ (by omega) (by omega) (by omega) (by omega)).mono ?_
      rintro e w1 ⟨rfl, rfl⟩
      go_wp2
      go_ret
      exact ⟨ret_int H.out.symm, rfl⟩
set_option maxHeartbeats 1000000 in
theorem specWave (n p : Int) (w : World) : Calls Tryz.prog 138 #[.int .i64 n, .int .i64 p] w fun e w' => e = .returned (.int .i64 (waveI n p)) ∧ w = w' := by
  cases hp : perB p with
  | false =>
    have H := Lib.hid (waveI_no (n := n) hp)
    have hq := perB_false hp
    clear hp
    by_cases h1 : p < 4
    · clear hq
      go_enter Tryz.func138, Tryz.ntmps138
      go_wp2
      go_ret
      exact ⟨ret_int H.out.symm, rfl⟩
    · by_cases h2 : 2880 < p
      · clear hq
        go_enter Tryz.func138, Tryz.ntmps138
        go_wp2
        go_ret
        exact ⟨ret_int H.out.symm, rfl⟩
      · have h3 : (p % 4 != 0) = true := by simp; omega
        clear hq
        go_enter Tryz.func138, Tryz.ntmps138
        go_wp2
        go_ret
        exact ⟨ret_int H.out.symm, rfl⟩
  | true =>
    obtain ⟨p0, p1, p2⟩ := perB_true hp
    have h1 : ¬ p < 4 := by omega
    have h2 : ¬ 2880 < p := by omega
    have h3 : (p % 4 != 0) = false := by simpa using p2
    have HP := Lib.hid hp
    have m0 := Int.emod_nonneg n (b := p) (by omega)
    have m1 := Int.emod_lt_of_pos n (b := p) (by omega)
    have hp0 : 0 < p := by omega
    have b0 := Int.tmod_lt_of_pos n hp0
    have b1 := Int.lt_tmod_of_pos n hp0
    have hz : p ≠ 0 := by omega
    have d := crest_den (h := p / 2) (by omega) (by omega)
    obtain ⟨d0, d1⟩ := d
    clear hp p2
    by_cases hs : n.tmod p < 0
    · have E := Lib.hid (tmod_neg hp0 hs)
      by_cases hx : n % p < p / 2
      · have H := Lib.hid (waveI_up HP.out hx)
        rw [← E.out] at hx m0 m1
        obtain ⟨a0, a1⟩ := crest_num (x := n.tmod p + p) (h := p / 2) m0 (by omega) (by omega)
        go_enter Tryz.func138, Tryz.ntmps138
        go_wp2
        go_ret
        refine ⟨ret_int ?_, rfl⟩
        rw [H.out, ← E.out]; rfl
      · have H := Lib.hid (waveI_down HP.out hx)
        rw [← E.out] at hx m0 m1
        obtain ⟨a0, a1⟩ := crest_num (x := n.tmod p + p - p / 2) (h := p / 2) (by omega) (by omega) (by omega)
        obtain ⟨hb0, hb1⟩ := crest_le (x := n.tmod p + p - p / 2) (h := p / 2) (by omega) (by omega) (by omega)
        unfold crest at hb0 hb1
        go_enter Tryz.func138, Tryz.ntmps138
        go_wp2
        go_ret
        refine ⟨ret_int ?_, rfl⟩
        rw [H.out, ← E.out]; rfl
    · have E := Lib.hid (tmod_pos hp0 hs)
      by_cases hx : n % p < p / 2
      · have H := Lib.hid (waveI_up HP.out hx)
        rw [← E.out] at hx m0 m1
        obtain ⟨a0, a1⟩ := crest_num (x := n.tmod p) (h := p / 2) m0 (by omega) (by omega)
        go_enter Tryz.func138, Tryz.ntmps138
        go_wp2
        go_ret
        refine ⟨ret_int ?_, rfl⟩
        rw [H.out, ← E.out]; rfl
      · have H := Lib.hid (waveI_down HP.out hx)
        rw [← E.out] at hx m0 m1
        obtain ⟨a0, a1⟩ := crest_num (x := n.tmod p - p / 2) (h := p / 2) (by omega) (by omega) (by omega)
        obtain ⟨hb0, hb1⟩ := crest_le (x := n.tmod p - p / 2) (h := p / 2) (by omega) (by omega) (by omega)
        unfold crest at hb0 hb1
        go_enter Tryz.func138, Tryz.ntmps138
        go_wp2
        go_ret
        refine ⟨ret_int ?_, rfl⟩
        rw [H.out, ← E.out]; rfl
end Go.Proofs.YtooeikimoheecaaGreat
namespace Go.Proofs.YtooeikimoheecaaGreat
open Go.RowKit
section
variable {P : Program} {ops : Array Oper} {md : Region.Mode} {F : Fence} {n : Nat} {Q : Exit → Act → World → Prop} {S : World → Prop}
theorem yieldsIf_opIn (L : Lets F n P) (hd : noDefer ops = true) {i : Nat} {o : Oper} {v : Value} {a : Act} (hi : ops[i]? = some o) (hy : YieldsIf P ops S o v a)
    {K : Act → World → Prop} {w : World} (hS : S w) (h : K (a.put o.dst v) w) : wpOpIn F n P ops Q i K a w := by
  unfold Go.wpOpIn
  simp only [hi]
  rcases hy with ⟨hw, hv⟩ | ⟨hw, rfl⟩
  · simp only [hw, if_true, Oper.wpIn]
    refine ⟨fun f _ => L.fn f, ?_⟩
    rw [Oper.semAt_eq _ _ _ (noDefer_at hd hi), hv w hS]
    exact h
  · simp only [hw, Bool.false_eq_true, if_false]; exact ⟨fun f _ => L.fn f, h⟩
theorem opIn_putIf (L : Lets F n P) (hd : noDefer ops = true) {j : Nat} {oi oj : Oper} {v : Value} (hj : ops[j]? = some oj) (hap : oi.apart ops oj = true)
    (hsi : ∀ cs b, oi.op ≠ .select cs b) (hsj : ∀ cs b, oj.op ≠ .select cs b)
    (hQ : ∀ c a w, Q (.panic c) (a.put oi.dst v) w → Q (.panic c) a w) {K : Act → World → Prop} {a : Act} {w : World}
    (hy : YieldsIf P ops S oi v a) (h : wpOpIn F n P ops Q j K (a.put oi.dst v) w) :
    wpOpIn F n P ops Q j (fun a' w' => YieldsIf P ops S oi v a' ∧ K (a'.put oi.dst v) w') a w := by
  obtain ⟨h1, h2, h3⟩ := Oper.apart_spec hap
  have hnd := noDefer_at hd hj
  have keep : ∀ (a : Act), YieldsIf P ops S oi v a → ∀ u, YieldsIf P ops S oi v (a.put oj.dst u) := fun a hy u =>
    hy.of_same (execOp_put oi hsi a oj.dst u h3) (wanted_put oi a oj.dst u h3)
  have keepD : ∀ d, YieldsIf P ops S oi v { a with defers := d :: a.defers } := fun d => hy.of_same rfl rfl
  unfold wpOpIn at *
  simp only [hj] at *
  rw [wanted_put oj a oi.dst v h1] at h
  split
  · rename_i hw
    simp only [hw, if_true] at h
    unfold Oper.wpIn at *
    refine ⟨fun f _ => L.fn f, ?_⟩
    have h := h.2
    rw [Oper.semAt_eq _ _ _ hnd, execOp_put oj hsj a oi.dst v h1] at h
    rw [Oper.semAt_eq _ _ _ hnd]
    generalize (execOp a.eval oj).run P w = r at *
    cases r with
    | ok x w' =>
      cases x <;> simp only [Oper.uponIn] at h ⊢
      case value u => exact ⟨keep a hy u, by rw [← Act.put_comm a v u h2]; exact h⟩
      case skip => exact ⟨keep a hy _, by rw [← Act.put_comm a v undef h2]; exact h⟩
      case defer d =>
        refine ⟨keep _ (keepD d) _, ?_⟩
        rw [← Act.put_comm _ v undef h2, ← Act.put_defers]
        exact h
      case enter f args =>
        refine ⟨h.1, CallsIn.mono h.2 fun e w'' he => ?_⟩
        cases e with
        | returned u => exact ⟨keep a hy u, by rw [← Act.put_comm a v u h2]; exact he⟩
        | panicked c => exact hQ _ _ _ he
        | outgrown => exact he
      case row row args => exact ⟨h.1, RowsIn.mono h.2 fun u w'' he => ⟨keep a hy u, by rw [← Act.put_comm a v u h2]; exact he⟩⟩
      case round l f tmps assign body =>
        refine ⟨h.1, RoundIn.mono h.2 fun e w'' he => ?_⟩
        cases e with
        | returned u => exact ⟨keep a hy u, by rw [← Act.put_comm a v u h2]; exact he⟩
        | panicked c => exact hQ _ _ _ he
        | outgrown => exact he
    | halt x w' =>
      cases x <;> simp only [Oper.uponIn] at h ⊢
      case panic u => exact hQ _ _ _ h
  · rename_i hw
    simp only [hw] at h
    exact ⟨fun f _ => L.fn f, keep a hy _, by rw [← Act.put_comm a v undef h2]; exact h.2⟩
/-- Only the way straight on. -/
def onlyN (K : Act → World → Prop) : Exit → Act → World → Prop
  | .normal, a, w => K a w
  | _, _, _ => False
end
end Go.Proofs.YtooeikimoheecaaGreat
namespace Go.Proofs.YtooeikimoheecaaGreat
open Go.RowKit
set_option maxRecDepth 100000
section
variable {α : Type} {k : Nat} {cs : α → List Value} {t : TypeId}
theorem own_kept {W w3 : World} {base : Nat} {v : Value} {l : List α} {row : Option Nat} (h : OwnOf k cs t W base v l) (hg : W.grownBy w3 row) (hne : ∀ b, v.ownBlock = some b → row ≠ some b) : OwnOf k cs t w3 base v l := by
  refine World.ownsRow.kept h hg ?_
  cases hv : v.ownBlock with
  | none => exact .inl rfl
  | some g => right; intro e; exact hne g hv e.symm
theorem own_ge {W : World} {base : Nat} {v : Value} {l : List α} (h : OwnOf k cs t W base v l) {b : Nat} (hv : v.ownBlock = some b) : base ≤ b ∧ b < W.heap.size := World.ownsRow.lt h b hv
end
end Go.Proofs.YtooeikimoheecaaGreat
namespace Go.Proofs.YtooeikimoheecaaGreat
open Go.RowKit
/-- A slice (of any elements that are rows of one-cell values) whose N cells hold mv 0, mv 1 and so on. -/
def MarkedV (w : World) (v : Value) (N : Nat) (mv : Nat → Value) : Prop :=
  N = 0 ∨ ∃ g o len c, v = .slice (some ⟨g, o, none⟩) len c ∧ ∀ j, j < N → w.cell? ⟨g, o + j, none⟩ = some (mv j)
theorem MarkedV.grown {w w' : World} {v : Value} {N : Nat} {mv : Nat → Value} {row : Option Nat} (h : MarkedV w v N mv) (hg : w.grownBy w' row) (hne : v.ownBlock = none ∨ v.ownBlock ≠ row) : MarkedV w' v N mv := by
  rcases h with h | ⟨g, o, len, c, rfl, hc⟩
  · exact .inl h
  · refine .inr ⟨g, o, len, c, rfl, fun j hj => hg.cell (hc j hj) ?_⟩
    rcases hne with hne | hne
    · simp [Value.ownBlock] at hne
    · exact hne
theorem MarkedV.below {w w' : World} {v : Value} {N : Nat} {mv : Nat → Value} (h : MarkedV w v N mv) (hb : Below w.heap.size w w') : MarkedV w' v N mv := by
  rcases h with h | ⟨g, o, len, c, rfl, hc⟩
  · exact .inl h
  · exact .inr ⟨g, o, len, c, rfl, fun j hj => (hb.cell (World.block_lt_of_cell? w _ (hc j hj))).trans (hc j hj)⟩
/-- What a marking loop has done when i of the N cells are marked. -/
def MarkRowV (w : World) (g o N : Nat) (mv : Nat → Value) (i : Nat) (wr : World) : Prop :=
  w.grownBy wr (some g) ∧ (∀ j, j < i → wr.cell? ⟨g, o + j, none⟩ = some (mv j)) ∧ (∀ j, i ≤ j → j < N → ∃ x, wr.cell? ⟨g, o + j, none⟩ = some x) ∧ (∀ j, wr.frozen? ⟨g, j, none⟩ = false) ∧ g < wr.heap.size
theorem MarkRowV.start {w : World} {g o N : Nat} {mv : Nat → Value} (h : ∀ j, j < N → ∃ x, w.cell? ⟨g, o + j, none⟩ = some x) (hN : 0 < N) (hf : ∀ j, w.frozen? ⟨g, j, none⟩ = false) {z : Nat} (hz : z = 0 := by simp) : MarkRowV w g o N mv z w := by
  subst hz
  obtain ⟨x, hx⟩ := h 0 hN
  exact ⟨World.grownBy.refl _ _, fun j hj => absurd hj (by omega), fun j _ hj => h j hj, hf, World.block_lt_of_cell? w ⟨g, o + 0, none⟩ hx⟩
theorem MarkRowV.next {w : World} {g o N : Nat} {mv : Nat → Value} {i : Nat} {wr : World} (h : MarkRowV w g o N mv i wr) (hi : i < N) (p : Nat) (hp : p = o + i) (u : Value) (hu : u = mv i) (i' : Nat) (hi' : i' = i + 1) : MarkRowV w g o N mv i' (wr.setCell ⟨g, p, none⟩ u) := by
  subst hp hu hi'
  obtain ⟨hg, hd, hr, hf, hlt⟩ := h
  obtain ⟨x, hx⟩ := hr i (Nat.le_refl _) hi
  refine ⟨grown_set hg _, fun j hj => ?_, fun j hj hjn => ?_, fun j => setCell_frozen _ _ _ _ (hf j), by simpa [World.setCell] using hlt⟩
  · by_cases e : j = i
    · subst e
      exact World.cell?_setCell_same _ _ _ hx
    · rw [World.cell?_setCell_other _ _ _ _ (by intro he; injection he with _ h2; omega)]
      exact hd j (by omega)
  · rw [World.cell?_setCell_other _ _ _ _ (by intro he; injection he with _ h2; omega)]
    exact hr j (by omega) hjn
theorem MarkRowV.below {w : World} {g o N : Nat} {mv : Nat → Value} {i : Nat} {wr w' : World} (h : MarkRowV w g o N mv i wr) (hb : Below wr.heap.size wr w') : MarkRowV w g o N mv i w' := by
  obtain ⟨hg, hd, hr, hf, hlt⟩ := h
  have key : ∀ {p : Nat} {x : Value}, wr.cell? ⟨g, p, none⟩ = some x → w'.cell? ⟨g, p, none⟩ = some x := fun {p x} hx => (hb.cell (p := ⟨g, p, none⟩) hlt).trans hx
  exact ⟨grown_below hg hb, fun j hj => key (hd j hj), fun j hj hjn => (hr j hj hjn).imp fun x hx => key hx, fun j => (hb.frozen (p := ⟨g, j, none⟩) hlt).trans (hf j), Nat.lt_of_lt_of_le hlt hb.size⟩
theorem MarkRowV.read {w : World} {g o N : Nat} {mv : Nat → Value} {i : Nat} {wr : World} (h : MarkRowV w g o N mv i wr) (j : Nat) (hj : i ≤ j) (hN : j < N) (p : Nat) (hp : p = o + j) : ∃ x, wr.cell? ⟨g, p, none⟩ = some x := by
  subst hp
  exact h.2.2.1 j hj hN
/-- The cells of a list of rows of n values, one by one. -/
theorem vals_of {α : Type} {n : Nat} {cs : α → List Value} (hn : 0 < n) (hk : ∀ x, (cs x).length = n) {w : World} {l : List α} {g o : Nat}
    (hc : ∀ i x, l[i]? = some x → ∀ j u, (cs x)[j]? = some u → w.cell? ⟨g, o + i * n + j, none⟩ = some u) : ∀ j, j < l.length * n → ∃ x, w.cell? ⟨g, o + j, none⟩ = some x := by
  intro j hj
  have hi : j / n < l.length := by rw [Nat.div_lt_iff_lt_mul hn]; exact hj
  have hm : j % n < n := Nat.mod_lt _ hn
  obtain ⟨x, hx⟩ : ∃ x, l[j / n]? = some x := ⟨_, List.getElem?_eq_getElem hi⟩
  obtain ⟨u, hu⟩ : ∃ u, (cs x)[j % n]? = some u := ⟨_, List.getElem?_eq_getElem (by rw [hk]; exact hm)⟩
  refine ⟨u, ?_⟩
  have e : o + j / n * n + j % n = o + j := by have := Nat.div_add_mod' j n; omega
  have := hc (j / n) x hx (j % n) u hu
  rwa [e] at this
/-- What is left of a bound. -/
def leftOf (lim t : Int) : Int := if lim < t then -1 else lim - t
theorem leftOf_no {lim t : Int} (h : lim < t) : leftOf lim t = -1 := if_pos h
theorem leftOf_yes {lim t : Int} (h : ¬ lim < t) : leftOf lim t = lim - t := if_neg h
end Go.Proofs.YtooeikimoheecaaGreat
