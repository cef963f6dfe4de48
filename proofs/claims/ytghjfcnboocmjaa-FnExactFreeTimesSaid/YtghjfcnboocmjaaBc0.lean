
/- What ExactFreeTimes and BerthsLaw rests on, part 0: contracts and mathematics. -/
import Derived.WalkKit
import Derived.ProofKit
import Derived.OpenShut
import Derived.Carry
import Derived.Lib.Hide
import Derived.Test.YtghjfcnboocmjaaRows
import Derived.Deep.QuietTactic
import Derived.BigQuiet
import Derived.Below
import Derived.Laws.AppendOwn
import Derived.Laws.MakeOwn
import Derived.Lib.SmallJoins
import Derived.StillTailTactics
import Derived.OrdersIn
import Derived.RangeFuncNested
import Derived.Shelf.Abstract
import Derived.TacticsInMore
namespace Go.Proofs.Ytghjfcnboocmjaa
open Go.ChangeShapes Go.WideShapes Go.ChangeAt Go.RowKit
section
variable {H : Type} {enc : TypeId × Value → H} {P : Program}
theorem args_stay (hl : laidOutB P = true) {W W' : World} (hb : Below W.heap.size W W') {sp : Nat → Bool} :
    ∀ {ts : List TypeId} {vs : List Value} {ds : List (DataW H)} {ps : List MemPlace},
      (∀ t ∈ ts, P.readableRec t = true ∧ t < P.types.size) → (∀ x ∈ ps, x.block < W.heap.size) → (∀ x ∈ ps, sp x.block = true) →
      DataW.TrodAll enc P W 0 (fun _ => true) true ts vs ds ps → DataW.TrodAll enc P W' 0 sp true ts vs ds ps := by
  intro ts
  induction ts with
  | nil =>
    intro vs ds ps _ _ _ h
    obtain ⟨rfl, rfl, rfl⟩ := trodAll_nil h
    exact trodAll_mk0
  | cons t ts ih =>
    intro vs ds ps hr hlt hs h
    obtain ⟨v, vs', d, ds', p, q, rfl, rfl, rfl, h0, h1⟩ := trodAll_cons h
    refine ⟨p, q, ?_, ?_, rfl⟩
    · exact WideElems.Trod_stays hl (hr t (by simp)).1 (hr t (by simp)).2 h0 (fun x hx => hb.same (hlt x (by simp [hx]))) (fun x hx => hs x (by simp [hx]))
    · exact ih (fun u hu => hr u (by simp [hu])) (fun x hx => hlt x (by simp [hx])) (fun x hx => hs x (by simp [hx])) h1
theorem law_post {f : Func} {s : ChangeSpec} {apart fresh handsOn again : Bool} {W W' : World} {args : Array Value} {ds gs : List (DataW H)} {before : List MemPlace} {tb : TypeId}
    (hl : laidOutB P = true) (hr0 : (f.params.toList.all fun t => P.readableRec t && decide (t < P.types.size)) = true) (hvars : s.vars = [])
    (hres : f.resultTypes = #[tb]) (hbool : P.underlying tb = some .bool)
    (hf1 : (s.fn H ds).results = [.lit (.bool true)]) (hf2 : (s.fn H ds).args = ds) (hf3 : (s.fn H ds).vars = [])
    (hW : DataW.Whole enc P f.params.toList s.vars apart W args.toList ds gs before) (hb : Below W.heap.size W W') :
    s.post enc P f apart fresh handsOn again W args (.bool true) W' := by
  have hr : ∀ t ∈ f.params.toList, P.readableRec t = true ∧ t < P.types.size := fun t ht => by
    have h := List.all_eq_true.1 hr0 t ht
    rw [Bool.and_eq_true] at h
    exact ⟨h.1, of_decide_eq_true h.2⟩
  have hW' := hW
  obtain ⟨p, q, hA, hV, rfl, hz, hn⟩ := hW
  rw [hvars] at hV
  obtain ⟨rfl, rfl⟩ := trodVars_none hV
  have hlt : ∀ x ∈ p, x.block < W.heap.size := fun x hx => hW'.lt x (by simp [hx])
  have hres' : ∀ (b : Nat) (sp : Nat → Bool) (hd : Bool), DataW.TrodAll enc P W' b sp hd f.resultTypes.toList ((Value.bool true).resultList f.resultTypes.size) [DataW.lit (.bool true)] [] := by
    intro b sp hd
    rw [hres]
    exact trodAll_cons_mk (shut_bool hbool _) trodAll_mk0
  refine ⟨ds, [], p ++ [], [], p, [], hW', ?_, ?_, ?_, World.keptBut_mono (fun x hx => ⟨hx, .inr (.inl (by simpa using hx))⟩) (hb.frame (· ∈ p ++ [])), fun _ => ?_⟩
  · rw [List.append_nil, hf1]; exact hres' _ _ _
  · rw [List.append_nil, hf2]; exact args_stay hl hb hr hlt (fun x hx => by simpa using hlt x hx) hA
  · rw [List.append_nil, hf3, hvars]; rfl
  · refine ⟨ok_one hres rfl (okWide_bool_mk hbool _), _, [], ([] ++ p) ++ [], ⟨[] ++ p, [], trodAll_append (args_stay hl hb hr hlt (fun _ _ => rfl) hA) (hres' _ _ _), by rw [hvars]; rfl, rfl, ?_, ?_⟩, ?_⟩
    · intro b off hp
      have hin : MemPlace.cell b off ∈ p := by simpa using hp
      rw [hb.frozen (hlt _ hin)]
      exact hz b off (by simpa using hin)
    · intro ha
      simpa using hn ha
    · intro x hx _
      simpa using hx
end
end Go.Proofs.Ytghjfcnboocmjaa
namespace Go.Proofs.Ytghjfcnboocmjaa
open Go.RowKit
def dgI (r : Int) : Bool := decide (48 ≤ r ∧ r ≤ 57)
theorem take_snoc (s : ByteArray) (k : Nat) (h : k < s.size) : s.data.toList.take (k + 1) = s.data.toList.take k ++ [s[k]] := by
  rw [List.take_succ_eq_append_getElem (by simpa using h)]; rfl
theorem take_all (s : ByteArray) (k : Nat) (h : s.size ≤ k) : s.data.toList.take k = s.data.toList :=
  List.take_of_length_le (by simpa using h)
theorem dgI_false {r : Int} (h : r < 48 ∨ 57 < r) : dgI r = false := by
  unfold dgI; exact decide_eq_false (by omega)
theorem dgI_true {r : Int} (h : 48 ≤ r) (h' : r ≤ 57) : dgI r = true := by
  unfold dgI; exact decide_eq_true ⟨h, h'⟩
theorem ret_bool {a b : Bool} (h : a = b) : Ending.returned (.bool a) = .returned (.bool b) := by rw [h]
theorem ba_ext {a b : ByteArray} (h : a.data.toList = b.data.toList) : a = b := by
  obtain ⟨⟨a⟩⟩ := a
  obtain ⟨⟨b⟩⟩ := b
  simp at h; rw [h]
theorem below_drewN {B : Nat} {a w : World} (h : Below B a w) (n : Nat) : Below B a (w.drewN n) := ⟨h.os, h.tape, h.output, h.size, h.block⟩
/-- A rune below 128 is the byte itself; any other byte begins a rune from 128 on. -/
theorem rune_low (s : ByteArray) (pos : Nat) (h : pos < s.size) (hr : (Utf8.decode s pos).1 < 128) : (s[pos]'h).toNat = (Utf8.decode s pos).1 ∧ (Utf8.decode s pos).2 = 1 := by
  by_cases ha : (s[pos]'h).toNat < 128
  · rw [decode_ascii s pos h ha]; exact ⟨rfl, rfl⟩
  · have := (decode_high s pos h (by omega)).1; omega
theorem notEmpty (s : ByteArray) : (!s.toList.isEmpty) = decide (0 < s.size) := by
  have h : s.size = s.data.toList.length := rfl
  rw [ByteArray.toList_eq, h]
  cases s.data.toList <;> simp
theorem ret_str {a b : ByteArray} (h : a = b) : Ending.returned (.string a) = .returned (.string b) := by rw [h]
theorem ret_int {k : IntKind} {a b : Int} (h : a = b) : Ending.returned (.int k a) = .returned (.int k b) := by rw [h]
theorem conv_one (W : World) (n : Int) : (convert 22 9 (.slice (some ⟨W.heap.size, 0, none⟩) 1 1)).run Try.prog (W.alloc (.cells #[.int .u8 n] 5)) =
    .ok (.string (strOfNums [n])) (W.alloc (.cells #[.int .u8 n] 5)) :=
  run_convert_bytes_arg _ 22 5 Try.underlying22 Try.underlying5 _ 0 1 1 [n] rfl (fun i hi => by
    obtain rfl : i = 0 := by omega
    rw [World.cell?_alloc_at _ _ _ _ rfl]; rfl) 9 Try.underlying9
end Go.Proofs.Ytghjfcnboocmjaa
namespace Go.Proofs.Ytghjfcnboocmjaa
open Go.RowKit
/-- A slice value that reads as a list of elements of k cells each. -/
def SlOf {α : Type} (k : Nat) (cs : α → List Value) (w : World) (v : Value) (l : List α) : Prop :=
  l.length ≤ 1000000000 ∧ ((l = [] ∧ ∃ A c, v = .slice A 0 c) ∨
    ∃ g o c, v = .slice (some ⟨g, o, none⟩) l.length c ∧ 0 < l.length ∧ l.length ≤ c ∧ ∀ i x, l[i]? = some x → ∀ j u, (cs x)[j]? = some u → w.cell? ⟨g, o + i * k + j, none⟩ = some u)
section
variable {α : Type} {k : Nat} {cs : α → List Value}
theorem SlOf.grown {w w' : World} {v : Value} {l : List α} {row : Option Nat} (h : SlOf k cs w v l) (hg : w.grownBy w' row) (hne : v.ownBlock = none ∨ v.ownBlock ≠ row) : SlOf k cs w' v l := by
  obtain ⟨hl, h⟩ := h
  refine ⟨hl, ?_⟩
  rcases h with h | ⟨g, o, c, rfl, hp, hcap, hc⟩
  · exact .inl h
  · refine .inr ⟨g, o, c, rfl, hp, hcap, fun i x hx j u hu => hg.cell (hc i x hx j u hu) ?_⟩
    rcases hne with hne | hne
    · simp [Value.ownBlock] at hne
    · exact hne
theorem SlOf.below {w w' : World} {v : Value} {l : List α} (h : SlOf k cs w v l) (hb : Below w.heap.size w w') : SlOf k cs w' v l := by
  obtain ⟨hl, h⟩ := h
  refine ⟨hl, ?_⟩
  rcases h with h | ⟨g, o, c, rfl, hp, hcap, hc⟩
  · exact .inl h
  · exact .inr ⟨g, o, c, rfl, hp, hcap, fun i x hx j u hu => (hb.cell (World.block_lt_of_cell? w _ (hc i x hx j u hu))).trans (hc i x hx j u hu)⟩
theorem SlOf.form {w : World} {v : Value} {l : List α} (h : SlOf k cs w v l) : ∃ A c, v = .slice A l.length c := by
  obtain ⟨_, h⟩ := h
  rcases h with ⟨rfl, A, c, rfl⟩ | ⟨g, o, c, rfl, _⟩
  · exact ⟨A, c, rfl⟩
  · exact ⟨_, _, rfl⟩
/-- A slice that the call owns, and that reads as a list. -/
def OwnOf (k : Nat) (cs : α → List Value) (t : TypeId) (w : World) (base : Nat) (v : Value) (l : List α) : Prop := w.ownsRow base t k v l.length (l.flatMap cs)
/-- What a function leaves that returns a new list. -/
def NewOf (k : Nat) (cs : α → List Value) (t : TypeId) (l : List α) (w : World) (e : Ending) (w' : World) : Prop := ∃ v, e = .returned v ∧ OwnOf k cs t w' w.heap.size v l ∧ Below w.heap.size w w'
theorem flat_len (hk : ∀ x, (cs x).length = k) (l : List α) : (l.flatMap cs).length = l.length * k := by
  induction l with
  | nil => simp
  | cons x l ih => rw [List.flatMap_cons, List.length_append, hk, ih, List.length_cons, Nat.succ_mul, Nat.add_comm]
theorem flat_at (hk : ∀ x, (cs x).length = k) (l : List α) : ∀ (i : Nat) (x : α), l[i]? = some x → ∀ (j : Nat) (u : Value), (cs x)[j]? = some u → (l.flatMap cs)[i * k + j]? = some u := by
  induction l with
  | nil => intro i x hx; simp at hx
  | cons y l ih =>
    intro i x hx j u hu
    rw [List.flatMap_cons]
    cases i with
    | zero =>
      simp only [List.getElem?_cons_zero, Option.some.injEq] at hx
      subst hx
      have hj : j < (cs y).length := (List.getElem?_eq_some_iff.1 hu).1
      rw [Nat.zero_mul, Nat.zero_add, List.getElem?_append_left hj]
      exact hu
    | succ i =>
      simp only [List.getElem?_cons_succ] at hx
      have e : (i + 1) * k + j = (cs y).length + (i * k + j) := by rw [hk, Nat.succ_mul]; omega
      rw [e, List.getElem?_append_right (Nat.le_add_right _ _), Nat.add_sub_cancel_left]
      exact ih i x hx j u hu
theorem own_sl {t : TypeId} {w : World} {base : Nat} {v : Value} {l : List α} (hk : ∀ x, (cs x).length = k) (h : OwnOf k cs t w base v l) (hl : l.length ≤ 1000000000) : SlOf k cs w v l := by
  refine ⟨hl, ?_⟩
  have hc : ∀ g, v.ownBlock = some g → ∀ j u, (l.flatMap cs)[j]? = some u → w.cell? ((⟨g, 0, none⟩ : Addr).add j) = some u := fun g hg => World.ownsRow.cells h hg
  obtain ⟨_, h2⟩ := h
  rcases Nat.eq_zero_or_pos l.length with h0 | h0
  · left
    refine ⟨List.eq_nil_of_length_eq_zero h0, ?_⟩
    rcases h2 with ⟨rfl, _⟩ | ⟨g, cap, cur, rfl, _⟩
    · exact ⟨_, _, rfl⟩
    · exact ⟨_, _, by rw [h0]⟩
  · right
    rcases h2 with ⟨_, hn⟩ | ⟨g, cap, cur, rfl, _, _, hle, _⟩
    · omega
    · refine ⟨g, 0, cap, rfl, h0, hle, fun i x hx j u hu => ?_⟩
      have := hc g rfl (i * k + j) u (flat_at hk l i x hx j u hu)
      have hadd : (⟨g, 0, none⟩ : Addr).add (i * k + j) = ⟨g, 0 + i * k + j, none⟩ := by
        unfold Addr.add; split
        · simp_all
        · simp
      rw [hadd] at this
      exact this
theorem own_form {t : TypeId} {w : World} {base : Nat} {v : Value} {l : List α} (h : OwnOf k cs t w base v l) : ∃ A c, v = .slice A l.length c := by
  obtain ⟨_, h2⟩ := h
  rcases h2 with ⟨rfl, h0⟩ | ⟨g, cap, cur, rfl, _⟩
  · exact ⟨_, _, by rw [h0]⟩
  · exact ⟨_, _, rfl⟩
theorem own_lo {t : TypeId} {w : World} {base base' : Nat} {v : Value} {l : List α} (h : OwnOf k cs t w base v l) (hb : base' ≤ base) : OwnOf k cs t w base' v l := Joins.ownsRow_le h hb
theorem grown_of_below {a b : World} (hb : Below a.heap.size a b) (row : Option Nat) : a.grownBy b row := ⟨hb.os, hb.tape, hb.output, hb.size, fun i hi _ => hb.block i hi⟩
theorem ownsRow_below {w w' : World} {base : Nat} {t : TypeId} {n : Nat} {v : Value} {xs : List Value} (h : w.ownsRow base t k v n xs) (hb : Below w.heap.size w w') : w'.ownsRow base t k v n xs := by
  refine World.ownsRow.kept h (grown_of_below hb none) ?_
  cases v.ownBlock <;> simp
theorem own_below {t : TypeId} {w w' : World} {base : Nat} {v : Value} {l : List α} (h : OwnOf k cs t w base v l) (hb : Below w.heap.size w w') : OwnOf k cs t w' base v l := ownsRow_below h hb
def setRow : List Value → Nat → List Value → List Value
  | xs, _, [] => xs
  | xs, p, u :: us => setRow (xs.set p u) (p + 1) us
theorem setRow_mid : ∀ (us zc A B : List Value), us.length = zc.length → setRow (A ++ (zc ++ B)) A.length us = A ++ (us ++ B) := by
  intro us
  induction us with
  | nil => intro zc A B h; obtain rfl : zc = [] := List.eq_nil_of_length_eq_zero h.symm; rfl
  | cons u us ih =>
    intro zc A B h
    cases zc with
    | nil => simp at h
    | cons z zc =>
      simp only [List.length_cons, Nat.add_right_cancel_iff] at h
      unfold setRow
      have e : (A ++ (z :: zc ++ B)).set A.length u = (A ++ [u]) ++ (zc ++ B) := by
        rw [List.set_append_right _ _ (Nat.le_refl _), Nat.sub_self]
        simp
      have e2 : A.length + 1 = (A ++ [u]).length := by simp
      rw [e, e2, ih zc (A ++ [u]) B h]
      simp
def halfOf (cs : α → List Value) (zc : List Value) (l : List α) (i : Nat) : List Value := (l.take i).flatMap cs ++ (List.replicate (l.length - i) zc).flatten
theorem take_snoc' (l : List α) (i : Nat) (x : α) (h : l[i]? = some x) : l.take (i + 1) = l.take i ++ [x] := by
  rw [List.take_add_one, h]; rfl
theorem half_set (hk : ∀ x, (cs x).length = k) {zc : List Value} (hz : zc.length = k) (l : List α) (i : Nat) (x : α) (h : l[i]? = some x) : setRow (halfOf cs zc l i) (i * k) (cs x) = halfOf cs zc l (i + 1) := by
  have hi : i < l.length := (List.getElem?_eq_some_iff.1 h).1
  unfold halfOf
  have e : ((l.take i).flatMap cs).length = i * k := by rw [flat_len hk, List.length_take, Nat.min_eq_left (by omega)]
  have h2 : l.length - i = (l.length - (i + 1)) + 1 := by omega
  rw [h2, List.replicate_succ, List.flatten_cons, ← e, setRow_mid _ _ _ _ (by rw [hk, hz]), take_snoc' l i x h, List.flatMap_append]
  simp
theorem half_at (hk : ∀ x, (cs x).length = k) {zc : List Value} (l : List α) (i : Nat) (h : i < l.length) (j : Nat) (u : Value) (hj : zc[j]? = some u) : (halfOf cs zc l i)[i * k + j]? = some u := by
  unfold halfOf
  have e : ((l.take i).flatMap cs).length = i * k := by rw [flat_len hk, List.length_take, Nat.min_eq_left (by omega)]
  have h2 : l.length - i = (l.length - (i + 1)) + 1 := by omega
  have hjl : j < zc.length := (List.getElem?_eq_some_iff.1 hj).1
  rw [List.getElem?_append_right (by omega), e, Nat.add_sub_cancel_left, h2, List.replicate_succ, List.flatten_cons, List.getElem?_append_left hjl]
  exact hj
theorem half_full (zc : List Value) (l : List α) : halfOf cs zc l l.length = l.flatMap cs := by
  unfold halfOf; simp
theorem flatten_rep_len (zc : List Value) (n : Nat) : (List.replicate n zc).flatten.length = n * zc.length := by simp
theorem flatten_rep_at (zc : List Value) (n : Nat) : ∀ j, j < n * zc.length → (List.replicate n zc).flatten[j]? = zc[j % zc.length]? := by
  induction n with
  | zero => intro j hj; simp at hj
  | succ n ih =>
    intro j hj
    rw [List.replicate_succ, List.flatten_cons]
    rcases Nat.lt_or_ge j zc.length with h | h
    · rw [List.getElem?_append_left h, Nat.mod_eq_of_lt h]
    · rw [List.getElem?_append_right h, ih (j - zc.length) (by rw [Nat.succ_mul] at hj; omega)]
      rw [← Nat.mod_eq_sub_mod h]
theorem made_flat (z : Array Value) (n : Nat) : (madeCells z (n * z.size)).toList = (List.replicate n z.toList).flatten := by
  apply List.ext_getElem?
  intro j
  by_cases hj : j < n * z.size
  · rw [flatten_rep_at _ _ _ (by simpa using hj)]
    have hz : 0 < z.size := by
      rcases Nat.eq_zero_or_pos z.size with h | h
      · rw [h] at hj; omega
      · exact h
    have hm : j % z.size < z.size := Nat.mod_lt _ hz
    simp [madeCells, hj, hm]
  · rw [List.getElem?_eq_none (by simp [madeCells]; omega), List.getElem?_eq_none (by rw [flatten_rep_len]; simpa using hj)]
theorem half_none (zc : List Value) (l : List α) : halfOf cs zc l 0 = (List.replicate l.length zc).flatten := by
  unfold halfOf; simp
end
end Go.Proofs.Ytghjfcnboocmjaa
namespace Go.Proofs.Ytghjfcnboocmjaa
def firstI {α : Type} (p : α → Bool) (l : List α) : Int := match l.findIdx? p with | some i => (i : Int) | none => -1
def NoOne {α : Type} (p : α → Bool) (l : List α) (k : Nat) : Prop := ∀ j, j < k → ∀ y, l[j]? = some y → p y = false
theorem NoOne.zero {α : Type} (p : α → Bool) (l : List α) : NoOne p l 0 := fun j hj => absurd hj (by omega)
theorem NoOne.next {α : Type} {p : α → Bool} {l : List α} {k : Nat} {x : α} (h : NoOne p l k) (hx : l[k]? = some x) (hn : p x = false) : NoOne p l (k + 1) := fun j hj y hy => by
  by_cases e : j = k
  · subst e; rw [hx] at hy; cases hy; exact hn
  · exact h j (by omega) y hy
theorem firstI_at {α : Type} {p : α → Bool} {l : List α} {k : Nat} {x : α} (h : NoOne p l k) (hx : l[k]? = some x) (hn : p x = true) : firstI p l = k := by
  have : l.findIdx? p = some k := by
    rw [List.findIdx?_eq_some_iff_getElem]
    obtain ⟨hk, rfl⟩ := List.getElem?_eq_some_iff.1 hx
    exact ⟨hk, hn, fun j hj => by rw [h j hj _ (List.getElem?_eq_getElem (by omega))]; simp⟩
  unfold firstI; rw [this]
theorem firstI_none {α : Type} {p : α → Bool} {l : List α} (h : NoOne p l l.length) : firstI p l = -1 := by
  have : l.findIdx? p = none := by
    rw [List.findIdx?_eq_none_iff]
    intro x hx
    obtain ⟨j, hj⟩ := List.getElem?_of_mem hx
    exact h j (List.getElem?_eq_some_iff.1 hj).1 x hj
  unfold firstI; rw [this]
end Go.Proofs.Ytghjfcnboocmjaa
namespace Go.Proofs.Ytghjfcnboocmjaa
open Go.RowKit
/-- A proposition that nobody looks into. -/
structure Shut (p : Prop) : Prop where
  out : p
section
variable {P : Program} {ops : Array Oper} {md : Region.Mode} {w : World} {F : Fence} {n : Nat}
/-- The fence lets every function in, at every depth. -/
structure Lets (F : Fence) (n : Nat) (P : Program) : Prop where
  fn : ∀ f, F.fn f
  room : F.depth.isSome = true → 1 ≤ n
  calls : ∀ {f : FuncId} {args : Array Value} {w : World} {R : Ending → World → Prop}, Calls P f args w R → CallsIn F (n - 1) P f args w R
theorem lets_round (l n : Nat) (P : Program) : Lets (Fence.wide.inRound l) n P := ⟨fun _ => trivial, fun h => (by cases h), fun h => CallsIn.inRound l (callsIn_wide.2 h)⟩
def noDefer (ops : Array Oper) : Bool := ops.toList.all fun o => match o.op with | .defer _ => false | _ => true
theorem noDefer_at (h : noDefer ops = true) {i : Nat} {o : Oper} (ho : ops[i]? = some o) : ∀ c, o.op ≠ .defer c := by
  intro c e
  unfold noDefer at h
  rw [List.all_eq_true] at h
  have := h o (by rw [← Array.getElem?_toList] at ho; exact List.mem_of_getElem? ho)
  rw [e] at this
  cases this
theorem opIn_of_still (L : Lets F n P) {i : Nat} {a : Act} {K : Act → Prop} {K' : Act → World → Prop} {Q' : Exit → Act → World → Prop} (hd : noDefer ops = true) (h : ∀ a, K a → K' a w) (hh : stOp P ops w i K a) : wpOpIn F n P ops Q' i K' a w := by
  unfold stOp at hh
  unfold wpOpIn
  split
  · rename_i ho; simp only [ho] at hh; exact h _ hh
  · rename_i o ho
    simp only [ho] at hh
    split
    · rename_i hw
      simp only [hw, if_true] at hh
      unfold Oper.still at hh
      unfold Oper.wpIn
      refine ⟨fun f _ => L.fn f, ?_⟩
      rw [Oper.semAt_eq _ _ _ (noDefer_at hd ho)]
      generalize (execOp a.eval o).run P w = r at *
      cases r with
      | ok x w' =>
        cases x <;> simp only [Oper.stillUpon] at hh <;> simp only [Oper.uponIn]
        case enter f args =>
          obtain ⟨rfl, v, hc, hn⟩ := hh
          exact ⟨L.room, L.calls (hc.mono fun e w'' ⟨he, hw⟩ => by subst he; subst hw; exact h _ hn)⟩
        all_goals (obtain ⟨rfl, h2⟩ := hh; exact h _ h2)
      | halt x w' => simp only [Oper.stillUpon] at hh
    · rename_i hw; simp only [hw] at hh; exact ⟨fun f _ => L.fn f, h _ hh⟩
theorem anyIn_of_still (L : Lets F n P) (hd : noDefer ops = true) {Q : Act → Prop} {Q' : Exit → Act → World → Prop} (hQ : ∀ a, Q a → Q' .normal a w) : ∀ (fuel : Nat) (listed : Array Bool) (a : Act),
    wpAnyS P md ops w Q fuel listed a → wpAnyIn F n P md ops Q' fuel listed a w
  | 0, _, _, h => ⟨h.1, hQ _ h.2⟩
  | fuel + 1, _, _, h => ⟨fun h0 => hQ _ (h.1 h0), fun i hi => opIn_of_still L hd (fun a' => anyIn_of_still L hd hQ fuel _ a') (h.2 i hi)⟩
theorem wpIn_region_still (L : Lets F n P) {id : Nat} {Q : Exit → Act → World → Prop} {a : Act} {l : List Oper} (hm : P.follows .mixedOrders = true) (hB : Region.lexB .any l.toArray = true) (hd : noDefer l.toArray = true)
    (h : Shut (wpStill P l.toArray w.drew (fun a' => Q .normal a' w.drew) l a)) : (Code.region id l.toArray true).wpIn F n P Q a w := by
  simp only [Region.lexB, Bool.and_eq_true] at hB
  refine wpIn_region_any hm (anyIn_of_still L hd (Q := fun a' => Q .normal a' w.drew) (fun _ h => h) _ _ _ ?_)
  have := wpAnyS_lex (md := .any) hB.1 l 0 (Array.replicate l.toArray.size false) a (by simp) (by simpa using hB.2) h.out
  simpa using this
theorem anyIn_of_seq {Q' : Exit → Act → World → Prop} : ∀ (l : List Oper) (k : Nat) (listed : Array Bool) (a : Act) (w : World), (∀ j, l[j]? = ops[k + j]?) →
    Region.seqB md ops l.length k listed = true → wpListIn F n P ops Q' l a w → wpAnyIn F n P md ops Q' l.length listed a w
  | [], _, _, _, _, _, hB, h => ⟨by simpa [Region.seqB] using hB, h⟩
  | o :: l, k, listed, a, w, hl, hB, h => by
    have h0 : ops[k]? = some o := by simpa using (hl 0).symm
    simp only [List.length_cons, Region.seqB, Bool.and_eq_true, decide_eq_true_eq] at hB
    refine ⟨fun h1 => (by rw [hB.1] at h1; cases h1), fun i hi => ?_⟩
    rw [hB.1] at hi
    have hik : i = k := by simpa using hi
    subst hik
    have hw : wpOpIn F n P ops Q' i (wpListIn F n P ops Q' l) a w := by unfold wpOpIn; simp only [h0]; exact h
    exact wpOpIn_mono (fun a' w' h' => anyIn_of_seq l (i + 1) _ a' w' (fun j => by have := hl (j + 1); simpa [Nat.add_assoc, Nat.add_comm 1 j] using this) hB.2 h') hw
theorem anyIn_of_head (L : Lets F n P) (hd : noDefer ops = true) {k g : Nat} {R : Array Bool → Act → Prop} {Q' : Exit → Act → World → Prop} (hL : ∀ listed a, R listed a → wpAnyIn F n P md ops Q' g listed a w) :
    ∀ (f : Nat) (listed : Array Bool) (a : Act), wpAnyL P md ops w k R f listed a → wpAnyIn F n P md ops Q' (f + g) listed a w
  | 0, listed, a, h => by rw [Nat.zero_add]; exact hL _ _ h
  | f + 1, listed, a, h => by
    rw [show f + 1 + g = (f + g) + 1 by omega]
    exact ⟨fun h0 => absurd h0 h.1, fun i hi => opIn_of_still L hd (fun a' h' => anyIn_of_head L hd hL f _ a' h') (h.2 i hi).2⟩
theorem wpIn_region_still_tail (L : Lets F n P) {id : Nat} {Q : Exit → Act → World → Prop} {a : Act} {l : List Oper} (k : Nat) (hm : P.follows .mixedOrders = true) (hB : Region.lexTailB .any l.toArray k = true) (hd : noDefer l.toArray = true)
    (h : Shut (wpStill P l.toArray w.drew (fun a' => wpListIn F n P l.toArray Q (l.drop k) a' w.drew) (l.take k) a)) : (Code.region id l.toArray true).wpIn F n P Q a w := by
  simp only [Region.lexTailB, Bool.and_eq_true, decide_eq_true_eq] at hB
  obtain ⟨⟨⟨⟨hsel, hk⟩, hs⟩, hc⟩, hlex⟩ := hB
  have hk' : k < l.length := by simpa using hk
  have htl : (l.take k).length = k := by simp; omega
  have hdl : (l.drop k).length = l.toArray.size - k := by simp
  have inv0 : HeadInv .any l.toArray k (Array.replicate l.toArray.size false) :=
    ⟨by simp, fun j oj _ hl => (by rw [getD_replicate_false] at hl; cases hl), fun t _ ht => getD_in (by simpa using ht) (getD_replicate_false _ _)⟩
  have H := wpAnyL_lex (md := .any) (g := l.toArray.size - k) hsel hs hc hk (l.take k) 0 _ a (fun j hj => by
    have hj' : j < k := by rw [htl] at hj; exact hj
    simp [hj']) (by simpa using htl) inv0 (by rw [htl]; exact hlex) h.out
  refine wpIn_region_any hm ?_
  have := anyIn_of_head L hd (Q' := Q) (g := l.toArray.size - k) (fun listed a' hL => by
    have := anyIn_of_seq (F := F) (n := n) (md := .any) (Q' := Q) (l.drop k) k listed a' w.drew (fun j => by simp [List.getElem?_drop]) (by rw [hdl]; exact hL.1) hL.2
    rwa [hdl] at this) _ _ _ H
  rw [htl, show k + (l.toArray.size - k) = l.toArray.size by omega] at this
  exact this
/-- The steps, with what is still to come out of the sight of whoever looks at the goal (an operation that is passed over would be walked by the looking). -/
theorem hidStill_step {Q : Act → Prop} {a : Act} {o : Oper} {rest : List Oper}
    (h : ∀ K : Act → Prop, (∀ a, Shut (wpStill P ops w Q rest a) → K a) → if Region.wanted o (yielded ops a.tmps) then o.still P a w K else K (a.put o.dst undef)) : Shut (wpStill P ops w Q (o :: rest) a) :=
  Shut.mk (wpStill_step fun K hK => h K fun a ha => hK a ha.out)
theorem hidStill_nil {Q : Act → Prop} {a : Act} (h : Q a) : Shut (wpStill P ops w Q [] a) := Shut.mk (wpStill_nil h)
end
end Go.Proofs.Ytghjfcnboocmjaa
