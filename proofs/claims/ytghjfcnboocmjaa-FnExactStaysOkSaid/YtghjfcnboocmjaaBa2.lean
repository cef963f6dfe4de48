
/- What ExactStaysOk and ExactFindBerth and ExactAllotBerths and ExactBerthLoad rests on, part 2: contracts and mathematics. -/
import Derived.Test.YtghjfcnboocmjaaBa1
import Derived.Test.YtghjfcnboocmjaaBa0
import Derived.RangeFuncNested
import Derived.RangeFuncBound
import Derived.RangeFuncCalls
import Derived.RangeFuncLeaves
import Derived.Shelf.Abstract
import Derived.Shelf.RegionOpen
import Derived.WalkKit
import Derived.OwnWalkIn
import Derived.TacticsInMore
import Derived.LoopNIn
import Derived.LoopIn
import Derived.Maps.AppendAt
import Derived.StillTailTactics
import Derived.Deep.AppendLies
import Derived.Laws.AppendOwn
import Derived.OrdersIn
import Derived.Sort.CutIn
import Derived.BigRegionIn
import Derived.OrdersHeld
import Derived.Lib.Hide
import Derived.Deep.Upon
namespace Go.Proofs.Ytghjfcnboocmjaa
open Go.RowKit
/-- A slice (of any elements that are rows of one-cell values) whose N cells hold mv 0, mv 1 and so on. -/
def MarkedV (w : World) (v : Value) (N : Nat) (mv : Nat → Value) : Prop :=
  N = 0 ∨ ∃ g o len c, v = .slice (some ⟨g, o, none⟩) len c ∧ ∀ j, j < N → w.cell? ⟨g, o + j, none⟩ = some (mv j)
theorem MarkedV.grown {w w' : World} {v : Value} {N : Nat} {mv : Nat → Value} {row : Option Nat} (h : MarkedV w v N mv) (hg : w.grownBy w' row) (hne : v.ownBlock = none ∨ v.ownBlock ≠ row) : MarkedV w' v N mv := by
  rcases h with h | ⟨g, o, len, c, rfl, hc⟩
  · exact .inl h
  · refine .inr ⟨g, o, len, c, rfl, fun j hj => hg.cell (hc j hj) ?_⟩
    rcases hne with hne | hne
    · simp [Value.ownBlock] at hne
    · exact hne
theorem MarkedV.below {w w' : World} {v : Value} {N : Nat} {mv : Nat → Value} (h : MarkedV w v N mv) (hb : Below w.heap.size w w') : MarkedV w' v N mv := by
  rcases h with h | ⟨g, o, len, c, rfl, hc⟩
  · exact .inl h
  · exact .inr ⟨g, o, len, c, rfl, fun j hj => (hb.cell (World.block_lt_of_cell? w _ (hc j hj))).trans (hc j hj)⟩
/-- What a marking loop has done when i of the N cells are marked. -/
def MarkRowV (w : World) (g o N : Nat) (mv : Nat → Value) (i : Nat) (wr : World) : Prop :=
  w.grownBy wr (some g) ∧ (∀ j, j < i → wr.cell? ⟨g, o + j, none⟩ = some (mv j)) ∧ (∀ j, i ≤ j → j < N → ∃ x, wr.cell? ⟨g, o + j, none⟩ = some x) ∧ (∀ j, wr.frozen? ⟨g, j, none⟩ = false) ∧ g < wr.heap.size
theorem MarkRowV.start {w : World} {g o N : Nat} {mv : Nat → Value} (h : ∀ j, j < N → ∃ x, w.cell? ⟨g, o + j, none⟩ = some x) (hN : 0 < N) (hf : ∀ j, w.frozen? ⟨g, j, none⟩ = false) {z : Nat} (hz : z = 0 := by simp) : MarkRowV w g o N mv z w := by
  subst hz
  obtain ⟨x, hx⟩ := h 0 hN
  exact ⟨World.grownBy.refl _ _, fun j hj => absurd hj (by omega), fun j _ hj => h j hj, hf, World.block_lt_of_cell? w ⟨g, o + 0, none⟩ hx⟩
theorem MarkRowV.next {w : World} {g o N : Nat} {mv : Nat → Value} {i : Nat} {wr : World} (h : MarkRowV w g o N mv i wr) (hi : i < N) (p : Nat) (hp : p = o + i) (u : Value) (hu : u = mv i) (i' : Nat) (hi' : i' = i + 1) : MarkRowV w g o N mv i' (wr.setCell ⟨g, p, none⟩ u) := by
  subst hp hu hi'
  obtain ⟨hg, hd, hr, hf, hlt⟩ := h
  obtain ⟨x, hx⟩ := hr i (Nat.le_refl _) hi
  refine ⟨grown_set hg _, fun j hj => ?_, fun j hj hjn => ?_, fun j => setCell_frozen _ _ _ _ (hf j), by simpa [World.setCell] using hlt⟩
  · by_cases e : j = i
    · subst e
      exact World.cell?_setCell_same _ _ _ hx
    · rw [World.cell?_setCell_other _ _ _ _ (by intro he; injection he with _ h2; omega)]
      exact hd j (by omega)
  · rw [World.cell?_setCell_other _ _ _ _ (by intro he; injection he with _ h2; omega)]
    exact hr j (by omega) hjn
theorem MarkRowV.below {w : World} {g o N : Nat} {mv : Nat → Value} {i : Nat} {wr w' : World} (h : MarkRowV w g o N mv i wr) (hb : Below wr.heap.size wr w') : MarkRowV w g o N mv i w' := by
  obtain ⟨hg, hd, hr, hf, hlt⟩ := h
  have key : ∀ {p : Nat} {x : Value}, wr.cell? ⟨g, p, none⟩ = some x → w'.cell? ⟨g, p, none⟩ = some x := fun {p x} hx => (hb.cell (p := ⟨g, p, none⟩) hlt).trans hx
  exact ⟨grown_below hg hb, fun j hj => key (hd j hj), fun j hj hjn => (hr j hj hjn).imp fun x hx => key hx, fun j => (hb.frozen (p := ⟨g, j, none⟩) hlt).trans (hf j), Nat.lt_of_lt_of_le hlt hb.size⟩
theorem MarkRowV.read {w : World} {g o N : Nat} {mv : Nat → Value} {i : Nat} {wr : World} (h : MarkRowV w g o N mv i wr) (j : Nat) (hj : i ≤ j) (hN : j < N) (p : Nat) (hp : p = o + j) : ∃ x, wr.cell? ⟨g, p, none⟩ = some x := by
  subst hp
  exact h.2.2.1 j hj hN
/-- The cells of a list of rows of n values, one by one. -/
theorem vals_of {α : Type} {n : Nat} {cs : α → List Value} (hn : 0 < n) (hk : ∀ x, (cs x).length = n) {w : World} {l : List α} {g o : Nat}
    (hc : ∀ i x, l[i]? = some x → ∀ j u, (cs x)[j]? = some u → w.cell? ⟨g, o + i * n + j, none⟩ = some u) : ∀ j, j < l.length * n → ∃ x, w.cell? ⟨g, o + j, none⟩ = some x := by
  intro j hj
  have hi : j / n < l.length := by rw [Nat.div_lt_iff_lt_mul hn]; exact hj
  have hm : j % n < n := Nat.mod_lt _ hn
  obtain ⟨x, hx⟩ : ∃ x, l[j / n]? = some x := ⟨_, List.getElem?_eq_getElem hi⟩
  obtain ⟨u, hu⟩ : ∃ u, (cs x)[j % n]? = some u := ⟨_, List.getElem?_eq_getElem (by rw [hk]; exact hm)⟩
  refine ⟨u, ?_⟩
  have e : o + j / n * n + j % n = o + j := by have := Nat.div_add_mod' j n; omega
  have := hc (j / n) x hx (j % n) u hu
  rwa [e] at this
/-- What is left of a bound. -/
def leftOf (lim t : Int) : Int := if lim < t then -1 else lim - t
theorem leftOf_no {lim t : Int} (h : lim < t) : leftOf lim t = -1 := if_pos h
theorem leftOf_yes {lim t : Int} (h : ¬ lim < t) : leftOf lim t = lim - t := if_neg h
end Go.Proofs.Ytghjfcnboocmjaa
namespace Go.Proofs.Ytghjfcnboocmjaa
open Go.RowKit
def ltI (r : Int) : Bool := decide (97 ≤ r ∧ r ≤ 122)
def nmIn (n lo hi : Int) : Bool := decide (lo ≤ n ∧ n ≤ hi)
def nmAt (k : Nat) (r : Int) : Bool := ltI r || (decide (k ≠ 0) && dgI r)
def preB : List UInt8 → Bool
  | [] => true
  | c :: t => ltI (c.toNat : Int) && t.all fun d => ltI (d.toNat : Int) || dgI (d.toNat : Int)
def nameB (s : ByteArray) : Bool := preB s.data.toList && decide (1 ≤ s.size ∧ s.size ≤ 8)
theorem ltI_false {r : Int} (h : r < 97 ∨ 122 < r) : ltI r = false := by
  unfold ltI; exact decide_eq_false (by omega)
theorem ltI_true {r : Int} (h : 97 ≤ r) (h' : r ≤ 122) : ltI r = true := by
  unfold ltI; exact decide_eq_true ⟨h, h'⟩
theorem preB_snoc (l : List UInt8) (c : UInt8) : preB (l ++ [c]) = (preB l && nmAt l.length (c.toNat : Int)) := by
  cases l with
  | nil => simp [preB, nmAt]
  | cons a t => simp [preB, nmAt, List.all_append, Bool.and_assoc]
theorem preB_append (l r : List UInt8) (h : preB l = false) : preB (l ++ r) = false := by
  cases l with
  | nil => simp [preB] at h
  | cons a t =>
    simp only [List.cons_append, preB, List.all_append, ← Bool.and_assoc] at h ⊢
    rw [h]; rfl
theorem take_len (s : ByteArray) (k : Nat) (h : k ≤ s.size) : (s.data.toList.take k).length = k := by
  rw [List.length_take]; have : s.data.toList.length = s.size := rfl; omega
theorem nm_step (s : ByteArray) (k : Nat) (h : k < s.size) (hp : preB (s.data.toList.take k) = true) : preB (s.data.toList.take (k + 1)) = nmAt k (s[k].toNat : Int) := by
  rw [take_snoc s k h, preB_snoc, hp, take_len s k (by omega), Bool.true_and]
theorem nm_not (s : ByteArray) (k : Nat) (h : k < s.size) (hp : nmAt k (s[k].toNat : Int) = false) : nameB s = false := by
  have h1 : preB (s.data.toList.take (k + 1)) = false := by
    rw [take_snoc s k h, preB_snoc, take_len s k (by omega), hp, Bool.and_false]
  have h2 := preB_append _ (s.data.toList.drop (k + 1)) h1
  rw [List.take_append_drop] at h2
  unfold nameB; rw [h2]; rfl
theorem nm_end (s : ByteArray) (k : Nat) (h : s.size ≤ k) (hp : preB (s.data.toList.take k) = true) : nameB s = decide (1 ≤ s.size ∧ s.size ≤ 8) := by
  rw [take_all s k h] at hp
  unfold nameB; rw [hp]; rfl
theorem nm_long (s : ByteArray) (h : 8 < s.size) : nameB s = false := by
  unfold nameB; rw [decide_eq_false (by omega), Bool.and_false]
theorem nm_none (s : ByteArray) (h : s.size = 0) : nameB s = false := by
  unfold nameB; rw [decide_eq_false (by omega), Bool.and_false]
theorem nmAt_letter (k : Nat) {r : Int} (h : 97 ≤ r) (h' : r ≤ 122) : nmAt k r = true := by
  unfold nmAt; rw [ltI_true h h']; rfl
theorem nmAt_zero {r : Int} (h : r < 97 ∨ 122 < r) : nmAt 0 r = false := by
  unfold nmAt; rw [ltI_false h]; rfl
theorem nmAt_digit {k : Nat} (hk : k ≠ 0) {r : Int} (h : 48 ≤ r) (h' : r ≤ 57) : nmAt k r = true := by
  unfold nmAt; rw [dgI_true h h', decide_eq_true hk]; simp
theorem nmAt_other (k : Nat) {r : Int} (h : r < 97 ∨ 122 < r) (h' : r < 48 ∨ 57 < r) : nmAt k r = false := by
  unfold nmAt; rw [ltI_false h, dgI_false h']; simp
theorem isLetter_any (r : Int) (w : World) :
    Calls Try.prog 100 #[.int .i32 r] w fun e w' => e = .returned (.bool (ltI r)) ∧ w = w' := by
  by_cases h1 : 97 ≤ r
  · by_cases h2 : r ≤ 122
    · have hn := Lib.hid (ltI_true h1 h2)
      go_enter Try.func100, Try.ntmps100
      go_wp2
      go_ret
      exact ⟨ret_bool hn.out.symm, rfl⟩
    · have hn := Lib.hid (ltI_false (.inr (by omega : 122 < r)))
      go_enter Try.func100, Try.ntmps100
      go_wp2
      go_ret
      exact ⟨ret_bool hn.out.symm, rfl⟩
  · have hn := Lib.hid (ltI_false (.inl (by omega : r < 97)))
    go_enter Try.func100, Try.ntmps100
    go_wp2
    go_ret
    exact ⟨ret_bool hn.out.symm, rfl⟩
theorem rune_nm (s : ByteArray) (pos : Nat) (h : pos < s.size) (hr : nmAt pos ((Utf8.decode s pos).1 : Int) = true) : nmAt pos (s[pos].toNat : Int) = true ∧ (Utf8.decode s pos).2 = 1 := by
  have hr' := hr
  have hlow : (Utf8.decode s pos).1 < 128 := by
    unfold nmAt ltI dgI at hr
    simp only [Bool.or_eq_true, Bool.and_eq_true, decide_eq_true_eq] at hr
    omega
  obtain ⟨e, e'⟩ := rune_low s pos h hlow
  rw [e]; exact ⟨hr', e'⟩
theorem rune_not_nm (s : ByteArray) (pos : Nat) (h : pos < s.size) (hr : nmAt pos ((Utf8.decode s pos).1 : Int) = false) : nmAt pos (s[pos].toNat : Int) = false := by
  by_cases ha : (s[pos]'h).toNat < 128
  · rw [decode_ascii s pos h ha] at hr; exact hr
  · exact nmAt_other pos (.inr (by omega)) (.inr (by omega))
set_option maxHeartbeats 1000000 in
theorem implIsName (s : ByteArray) (w : World) (hs : s.size ≤ maxLen) :
    Calls Try.prog 82 #[.string s] w fun e w' => e = .returned (.bool (nameB s)) ∧ Below w.heap.size w w' := by
  unfold maxLen at hs
  by_cases h0 : s.size = 0
  · have hn := Lib.hid (nm_none s h0)
    have he : s.toList = [] := by rw [ByteArray.toList_eq]; exact List.eq_nil_of_length_eq_zero h0
    clear h0
    go_enter Try.func82, Try.ntmps82
    go_wp2
    go_ret
    exact ⟨ret_bool hn.out.symm, Below.refl _ _⟩
  · have he : s.toList.isEmpty = false := by
      have h := notEmpty s
      rw [decide_eq_true (by omega)] at h
      simpa using h
    have he2 : (s.toList = []) = False := by
      cases h : s.toList with
      | nil => rw [h] at he; simp at he
      | cons a t => simp
    by_cases h8 : 8 < s.size
    · have hn := Lib.hid (nm_long s h8)
      go_enter Try.func82, Try.ntmps82
      go_wp2
      go_ret
      exact ⟨ret_bool hn.out.symm, Below.refl _ _⟩
    · go_enter Try.func82, Try.ntmps82
      go_wp2
      go_loopw [3, 4] (fun _ _ w' => ∃ pos : Nat, w' = w.iter s pos ∧ pos ≤ s.size ∧ Hid (preB (s.data.toList.take pos) = true)) (fun _ _ w' => s.size - w'.iterPos w.heap.size)
      case atStart => exact ⟨0, rfl, Nat.zero_le _, rfl⟩
      case round =>
        obtain ⟨pos, rfl, hk, hd⟩ := hrel
        by_cases hp : pos < s.size
        · have hnx : ∀ ty, (Instr.next (.pointer (some ⟨w.heap.size, 0, none⟩)) true ty).run Try.prog (w.iter s pos) = _ := fun ty => run_next_any w s pos ty hp
          cases hc : nmAt pos ((Utf8.decode s pos).1 : Int)
          · have hn := Lib.hid (nm_not s pos hp (rune_not_nm s pos hp hc))
            have hl : ltI ((Utf8.decode s pos).1 : Int) = false := by
              unfold nmAt at hc; exact (Bool.or_eq_false_iff.1 hc).1
            by_cases hz0 : pos = 0
            · have hz : ((pos : Int) == 0) = true := by simpa using hz0
              clear hc hz0
              go_wp2_with (go_at_call 100; refine (isLetter_any _ _).mono ?_; rintro e w' ⟨rfl, rfl⟩)
              go_ret
              exact ⟨ret_bool hn.out.symm, (Below.refl _ _).alloc (Nat.le_refl _) _⟩
            · have hz : ((pos : Int) == 0) = false := by simpa using hz0
              have hdg : dgI ((Utf8.decode s pos).1 : Int) = false := by
                unfold nmAt at hc
                have := (Bool.or_eq_false_iff.1 hc).2
                rw [decide_eq_true hz0] at this
                simpa using this
              clear hc hz0
              go_wp2_with (first
                | (go_at_call 100; refine (isLetter_any _ _).mono ?_; rintro e w' ⟨rfl, rfl⟩)
                | (go_at_call 101; refine (isDigit_any _ _).mono ?_; rintro e w' ⟨rfl, rfl⟩))
              go_ret
              exact ⟨ret_bool hn.out.symm, (Below.refl _ _).alloc (Nat.le_refl _) _⟩
          · have hw := Lib.hid (rune_nm s pos hp hc)
            have hy := Lib.hid ((nm_step s pos hp hd.out).trans hw.out.1)
            cases hl : ltI ((Utf8.decode s pos).1 : Int)
            · have hq := hc
              unfold nmAt at hq
              rw [hl] at hq
              simp only [Bool.false_or, Bool.and_eq_true, decide_eq_true_eq] at hq
              obtain ⟨hz0, hdg⟩ := hq
              have hz : ((pos : Int) == 0) = false := by simpa using hz0
              clear hc hz0
              go_wp2_with (first
                | (go_at_call 100; refine (isLetter_any _ _).mono ?_; rintro e w' ⟨rfl, rfl⟩)
                | (go_at_call 101; refine (isDigit_any _ _).mono ?_; rintro e w' ⟨rfl, rfl⟩))
              go_roundw
              case rel =>
                rw [hw.out.2]
                exact ⟨pos + 1, rfl, by omega, hy⟩
              case measure => have := hw.out.2; simp; omega
            · clear hc
              go_wp2_with (go_at_call 100; refine (isLetter_any _ _).mono ?_; rintro e w' ⟨rfl, rfl⟩)
              go_roundw
              case rel =>
                rw [hw.out.2]
                exact ⟨pos + 1, rfl, by omega, hy⟩
              case measure => have := hw.out.2; simp; omega
        · have hnx : ∀ ty, (Instr.next (.pointer (some ⟨w.heap.size, 0, none⟩)) true ty).run Try.prog (w.iter s pos) = _ := fun ty => run_next_end w s pos ty hp
          have hn := Lib.hid ((nm_end s pos (by omega) hd.out).trans (decide_eq_true (by omega)))
          go_wp2
          go_ret
          exact ⟨ret_bool hn.out.symm, (Below.refl _ _).alloc (Nat.le_refl _) _⟩
end Go.Proofs.Ytghjfcnboocmjaa
namespace Go.Proofs.Ytghjfcnboocmjaa
open Go.RowKit
set_option maxRecDepth 100000
theorem isIndex_any (i : Int) (n : Nat) (w : World) : Calls Try.prog 84 #[.int .i64 i, .int .i64 (n : Int)] w fun e w' => e = .returned (.bool (inB i 0 ((n : Int) - 1))) ∧ w = w' := by
  by_cases h1 : 0 ≤ i
  · by_cases h2 : i < (n : Int)
    · have H := Lib.hid (inB_mk h1 (show i ≤ (n : Int) - 1 by omega))
      go_enter Try.func84, Try.ntmps84
      go_wp2
      go_ret
      exact ⟨ret_bool H.out.symm, rfl⟩
    · have H := Lib.hid (inB_no (x := i) (lo := 0) (hi := (n : Int) - 1) (.inr (by omega)))
      have h3 : decide (i < (n : Int)) = false := decide_eq_false h2
      go_enter Try.func84, Try.ntmps84
      go_wp2
      go_ret
      exact ⟨ret_bool H.out.symm, rfl⟩
  · have H := Lib.hid (inB_no (x := i) (lo := 0) (hi := (n : Int) - 1) (.inl (by omega)))
    have h3 : decide (0 ≤ i) = false := decide_eq_false h1
    go_enter Try.func84, Try.ntmps84
    go_wp2
    go_ret
    exact ⟨ret_bool H.out.symm, rfl⟩
end Go.Proofs.Ytghjfcnboocmjaa
namespace Go.Proofs.Ytghjfcnboocmjaa
open Go.RowKit
set_option maxRecDepth 100000
def bits (f : Nat → Bool) : List Bool := (List.range 2881).map f
end Go.Proofs.Ytghjfcnboocmjaa
namespace Go.Proofs.Ytghjfcnboocmjaa
open Go.RowKit
section
variable {P : Program} (w : World)
/-- Nothing is appended. -/
theorem step_append_none {ops : Array Oper} {o : Oper} {a : Act} {K : Act → World → Prop} {Q : Exit → Act → World → Prop} {E : Prop} (hgd : o.guard = none) (s x : Operand) (t : TypeId)
    (ho : o.op = .call { callee := .builtin .append, args := #[s, x], argTypes := #[t, t] })
    (e : TypeId) (i : TypeInfo) (ht : P.underlying t = some (.slice e)) (hi : P.info? e = some i) (A : Option Addr) (n c : Nat) (hs : a.eval s = .slice A n c) (hle : n ≤ c) (B : Option Addr) (c' : Nat) (hx : a.eval x = .slice B 0 c')
    (h : K (a.put o.dst (.slice A n c)) w) :
    if Region.wanted o (yielded ops a.tmps) = true then Oper.wp P o a w K Q else E := by
  have hw : Region.wanted o (yielded ops a.tmps) = true := by simp [Region.wanted, hgd]
  rw [if_pos hw]
  have hsrc : Src P i.size t (.slice B 0 c') 0 [] w := by
    cases B with
    | none => exact Src.ofNil w ht c'
    | some b => exact Src.ofSlice w ht b 0 c' [] (by simp) (by simp) (by simp)
  have hr := run_append_nothing (P := P) w t t o.type e i ht hi A n c hle (.slice B 0 c') hsrc
  unfold Oper.wp execOp
  simp only [ho, resolve, invoke, builtin, Sem.run_bind, Sem.run_pure, Result.andThen_ok, List.map_toArray, List.map_cons, List.map_nil, hs, hx, hr]
  exact h
end
end Go.Proofs.Ytghjfcnboocmjaa
