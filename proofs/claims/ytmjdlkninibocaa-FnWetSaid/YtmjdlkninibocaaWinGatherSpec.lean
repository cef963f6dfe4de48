
/- GatherWindows of the model: contract. -/
import Derived.Test.YtmjdlkninibocaaWinMarks
import Derived.Test.YtmjdlkninibocaaWinCommon
namespace Go.Proofs.Ytmjdlkninibocaa
open Go.RowKit
set_option maxRecDepth 100000

def bits (f : Nat → Bool) : List Bool := (List.range 2881).map f
theorem bits_len (f : Nat → Bool) : (bits f).length = 2881 := by simp [bits]
theorem bits_at (f : Nat → Bool) {j : Nat} (h : j < 2881) : (bits f)[j]? = some (f j) := by
  unfold bits; rw [List.getElem?_map, List.getElem?_range h]; rfl
theorem bits_congr {f g : Nat → Bool} (h : ∀ j, j < 2881 → f j = g j) : bits f = bits g := by
  unfold bits
  apply List.map_congr_left
  intro j hj
  exact h j (List.mem_range.1 hj)
theorem ofMarks_congr {f g : Nat → Bool} : ∀ n, (∀ j, j < n → f j = g j) → ofMarks f n = ofMarks g n := by
  intro n
  induction n with
  | zero => intro _; rfl
  | succ n ih =>
    intro h
    have := ih fun j hj => h j (by omega)
    simp only [ofMarks, this, h n (by omega)]
theorem ofMarks_bits (f : Nat → Bool) : ofMarks (markF (bits f)) (bits f).length = ofMarks f 2881 := by
  rw [bits_len]
  exact ofMarks_congr 2881 fun j hj => markF_at (bits_at f hj)
theorem flat_bool (l : List Bool) : l.flatMap boolCells = l.map Value.bool := by
  induction l with
  | nil => rfl
  | cons b l ih => simp [List.flatMap_cons, ih]
theorem bits_set (f : Nat → Bool) {m : Nat} (h : m < 2881) : ((bits f).map Value.bool).set m (.bool true) = (bits (fun j => f j || j == m)).map Value.bool := by
  apply List.ext_getElem?
  intro j
  rw [List.getElem?_set]
  by_cases e : m = j
  · subst e
    simp [bits, h]
  · rw [if_neg e]
    by_cases hj : j < 2881
    · rw [List.getElem?_map, List.getElem?_map, bits_at _ hj, bits_at _ hj]
      have : (j == m) = false := by simp; omega
      simp [this]
    · rw [List.getElem?_eq_none (by simp [bits]; omega), List.getElem?_eq_none (by simp [bits]; omega)]
def gathL (l : List WindowD) : List WindowD := ofMarks (fun j => hasB l (j : Int)) 2881
theorem gathL_len (l : List WindowD) : (gathL l).length ≤ 2881 := ofMarks_len _ _

theorem info_bool : (Try.prog.info? 4).map (fun i => (i.zero, i.size, i.bytes)) = some (some (.bool false), 1, 1) := by kernel_rfl
/-- The marks of the minutes in a row of the call's own. -/
def MarkW (w : World) (f : Nat → Bool) (wr : World) : Prop :=
  wr.ownsRow w.heap.size 4 1 (.slice (some ⟨w.heap.size, 0, none⟩) 2881 2881) 2881 ((bits f).map Value.bool) ∧ Below w.heap.size w wr
theorem MarkW.start (w : World) : MarkW w (fun _ => false) (w.alloc (.cells (madeCells #[.bool false] (2881 * 1)) 4)) := by
  refine ⟨?_, (Below.refl _ _).alloc (Nat.le_refl _) _⟩
  have h := World.ownsRow_lit (base := w.heap.size) (e := 4) (size := 1) w (madeCells #[.bool false] (2881 * 1)) 2881 (Nat.le_refl _) (by unfold maxLen; omega) (by rw [size_madeCells])
  have e := made_flat #[.bool false] 2881
  rw [show (#[Value.bool false]).size = 1 from rfl] at e
  rw [e] at h
  rw [show (bits fun _ => false).map Value.bool = (List.replicate 2881 #[Value.bool false].toList).flatten by
    apply List.ext_getElem?
    intro j
    by_cases hj : j < 2881
    · rw [List.getElem?_map, bits_at _ hj, flatten_rep_at _ _ _ (by simpa using hj)]; simp [Nat.mod_one]
    · rw [List.getElem?_eq_none (by simp [bits]; omega), List.getElem?_eq_none (by simp; omega)]]
  exact h
theorem MarkW.below {w wr W : World} {f : Nat → Bool} (h : MarkW w f wr) (hb : Below wr.heap.size wr W) : MarkW w f W := ⟨ownsRow_below h.1 hb, h.2.trans (hb.mono h.2.size)⟩
theorem MarkW.cell {w wr : World} {f : Nat → Bool} (h : MarkW w f wr) {m : Nat} (hm : m < 2881) : wr.cell? ⟨w.heap.size, m, none⟩ = some (.bool (f m)) ∧ wr.frozen? ⟨w.heap.size, m, none⟩ = false := by
  refine ⟨(World.ownsRow.cellAt h.1 m (by omega)).trans ?_, World.ownsRow.frozenAt h.1 _⟩
  rw [List.getElem?_map, bits_at _ hm]; rfl
theorem MarkW.set {w wr : World} {f : Nat → Bool} (h : MarkW w f wr) {m : Nat} (hm : m < 2881) : MarkW w (fun j => f j || j == m) (wr.setCell ⟨w.heap.size, m, none⟩ (.bool true)) := by
  have hst := (World.ownsRow.stored h.1 m (.bool true)).1
  rw [bits_set f hm] at hst
  exact ⟨hst, h.2.setCell (p := ⟨w.heap.size, m, none⟩) (Nat.le_refl _) _⟩
theorem MarkW.congr {w wr : World} {f g : Nat → Bool} (h : MarkW w f wr) (e : ∀ j, j < 2881 → f j = g j) : MarkW w g wr := by
  unfold MarkW; rw [← bits_congr e]; exact h
theorem MarkW.sl {w wr : World} {f : Nat → Bool} (h : MarkW w f wr) : SlBool wr (.slice (some ⟨w.heap.size, 0, none⟩) 2881 2881) (bits f) := by
  refine own_sl (t := 4) (base := w.heap.size) boolLen ?_ (by rw [bits_len]; omega)
  unfold OwnOf
  rw [bits_len, flat_bool]
  exact h.1

/-- Minutes of earlier windows, or of this one up to m. -/
def upF (l : List WindowD) (lo m : Int) (j : Nat) : Bool := hasB l (j : Int) || decide (lo ≤ (j : Int) ∧ (j : Int) < m)
theorem upF_set (l : List WindowD) (lo m : Int) (h0 : lo ≤ m) (hm : 0 ≤ m) : ∀ j, (upF l lo m j || j == m.toNat) = upF l lo (m + 1) j := by
  intro j
  unfold upF
  rw [Bool.or_assoc]
  congr 1
  rw [Bool.eq_iff_iff]
  simp only [Bool.or_eq_true, decide_eq_true_eq, beq_iff_eq]
  omega
theorem hasB_next {l : List WindowD} {k : Nat} {x : WindowD} (h : l[k]? = some x) (t : Int) : hasB (l.take (k + 1)) t = (hasB (l.take k) t || atB t x) := by
  unfold hasB; rw [take_snoc' l k x h, List.any_append]; simp
theorem upF_start (l : List WindowD) (lo : Int) (j : Nat) : upF l lo lo j = hasB l (j : Int) := by
  unfold upF
  rw [decide_eq_false (by omega), Bool.or_false]
theorem upF_end {l : List WindowD} {k : Nat} {x : WindowD} {lo hi m : Int} (hx : l[k]? = some x) (hlo : lo = max 0 x.fr) (hhi : hi = min 2880 x.tt) (hm : hi < m) (hm2 : m ≤ hi + 1 ∨ m = lo) :
    ∀ j : Nat, j < 2881 → upF (l.take k) lo m j = hasB (l.take (k + 1)) (j : Int) := by
  intro j hj
  rw [hasB_next hx]
  unfold upF atB inB
  congr 1
  rw [Bool.eq_iff_iff]
  simp only [decide_eq_true_eq]
  omega

end Go.Proofs.Ytmjdlkninibocaa
