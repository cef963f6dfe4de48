
/- What LocksLaw rests on, part 0: contracts and mathematics. -/
import Derived.Test.YtlddampjbmklkaaRows
import Derived.WalkKit
import Derived.Deep.QuietTactic
import Derived.BigQuiet
import Derived.Lib.Hide
import Derived.ProofKit
import Derived.OpenShut
import Derived.Carry
import Derived.Below
import Derived.Laws.AppendOwn
import Derived.Laws.MakeOwn
import Derived.Lib.SmallJoins
namespace Go.Proofs.Ytlddampjbmklkaa
open Go.RowKit
def dgI (r : Int) : Bool := decide (48 ≤ r ∧ r ≤ 57)
theorem take_snoc (s : ByteArray) (k : Nat) (h : k < s.size) : s.data.toList.take (k + 1) = s.data.toList.take k ++ [s[k]] := by
  rw [List.take_succ_eq_append_getElem (by simpa using h)]; rfl
theorem take_all (s : ByteArray) (k : Nat) (h : s.size ≤ k) : s.data.toList.take k = s.data.toList :=
  List.take_of_length_le (by simpa using h)
theorem dgI_false {r : Int} (h : r < 48 ∨ 57 < r) : dgI r = false := by
  unfold dgI; exact decide_eq_false (by omega)
theorem dgI_true {r : Int} (h : 48 ≤ r) (h' : r ≤ 57) : dgI r = true := by
  unfold dgI; exact decide_eq_true ⟨h, h'⟩
theorem ret_bool {a b : Bool} (h : a = b) : Ending.returned (.bool a) = .returned (.bool b) := by rw [h]
theorem ba_ext {a b : ByteArray} (h : a.data.toList = b.data.toList) : a = b := by
  obtain ⟨⟨a⟩⟩ := a
  obtain ⟨⟨b⟩⟩ := b
  simp at h; rw [h]
/-- A rune below 128 is the byte itself; any other byte begins a rune from 128 on. -/
theorem rune_low (s : ByteArray) (pos : Nat) (h : pos < s.size) (hr : (Utf8.decode s pos).1 < 128) : (s[pos]'h).toNat = (Utf8.decode s pos).1 ∧ (Utf8.decode s pos).2 = 1 := by
  by_cases ha : (s[pos]'h).toNat < 128
  · rw [decode_ascii s pos h ha]; exact ⟨rfl, rfl⟩
  · have := (decode_high s pos h (by omega)).1; omega
theorem notEmpty (s : ByteArray) : (!s.toList.isEmpty) = decide (0 < s.size) := by
  have h : s.size = s.data.toList.length := rfl
  rw [ByteArray.toList_eq, h]
  cases s.data.toList <;> simp
theorem ret_str {a b : ByteArray} (h : a = b) : Ending.returned (.string a) = .returned (.string b) := by rw [h]
theorem ret_int {k : IntKind} {a b : Int} (h : a = b) : Ending.returned (.int k a) = .returned (.int k b) := by rw [h]
theorem conv_one (W : World) (n : Int) : (convert 22 9 (.slice (some ⟨W.heap.size, 0, none⟩) 1 1)).run Try.prog (W.alloc (.cells #[.int .u8 n] 5)) =
    .ok (.string (strOfNums [n])) (W.alloc (.cells #[.int .u8 n] 5)) :=
  run_convert_bytes_arg _ 22 5 Try.underlying22 Try.underlying5 _ 0 1 1 [n] rfl (fun i hi => by
    obtain rfl : i = 0 := by omega
    rw [World.cell?_alloc_at _ _ _ _ rfl]; rfl) 9 Try.underlying9
end Go.Proofs.Ytlddampjbmklkaa
namespace Go.Proofs.Ytlddampjbmklkaa
open Go.ChangeShapes Go.WideShapes Go.ChangeAt Go.RowKit
section
variable {H : Type} {enc : TypeId × Value → H} {P : Program}
theorem args_stay (hl : laidOutB P = true) {W W' : World} (hb : Below W.heap.size W W') {sp : Nat → Bool} :
    ∀ {ts : List TypeId} {vs : List Value} {ds : List (DataW H)} {ps : List MemPlace},
      (∀ t ∈ ts, P.readableRec t = true ∧ t < P.types.size) → (∀ x ∈ ps, x.block < W.heap.size) → (∀ x ∈ ps, sp x.block = true) →
      DataW.TrodAll enc P W 0 (fun _ => true) true ts vs ds ps → DataW.TrodAll enc P W' 0 sp true ts vs ds ps := by
  intro ts
  induction ts with
  | nil =>
    intro vs ds ps _ _ _ h
    obtain ⟨rfl, rfl, rfl⟩ := trodAll_nil h
    exact trodAll_mk0
  | cons t ts ih =>
    intro vs ds ps hr hlt hs h
    obtain ⟨v, vs', d, ds', p, q, rfl, rfl, rfl, h0, h1⟩ := trodAll_cons h
    refine ⟨p, q, ?_, ?_, rfl⟩
    · exact WideElems.Trod_stays hl (hr t (by simp)).1 (hr t (by simp)).2 h0 (fun x hx => hb.same (hlt x (by simp [hx]))) (fun x hx => hs x (by simp [hx]))
    · exact ih (fun u hu => hr u (by simp [hu])) (fun x hx => hlt x (by simp [hx])) (fun x hx => hs x (by simp [hx])) h1
theorem law_post {f : Func} {s : ChangeSpec} {apart fresh handsOn again : Bool} {W W' : World} {args : Array Value} {ds gs : List (DataW H)} {before : List MemPlace} {tb : TypeId}
    (hl : laidOutB P = true) (hr0 : (f.params.toList.all fun t => P.readableRec t && decide (t < P.types.size)) = true) (hvars : s.vars = [])
    (hres : f.resultTypes = #[tb]) (hbool : P.underlying tb = some .bool)
    (hf1 : (s.fn H ds).results = [.lit (.bool true)]) (hf2 : (s.fn H ds).args = ds) (hf3 : (s.fn H ds).vars = [])
    (hW : DataW.Whole enc P f.params.toList s.vars apart W args.toList ds gs before) (hb : Below W.heap.size W W') :
    s.post enc P f apart fresh handsOn again W args (.bool true) W' := by
  have hr : ∀ t ∈ f.params.toList, P.readableRec t = true ∧ t < P.types.size := fun t ht => by
    have h := List.all_eq_true.1 hr0 t ht
    rw [Bool.and_eq_true] at h
    exact ⟨h.1, of_decide_eq_true h.2⟩
  have hW' := hW
  obtain ⟨p, q, hA, hV, rfl, hz, hn⟩ := hW
  rw [hvars] at hV
  obtain ⟨rfl, rfl⟩ := trodVars_none hV
  have hlt : ∀ x ∈ p, x.block < W.heap.size := fun x hx => hW'.lt x (by simp [hx])
  have hres' : ∀ (b : Nat) (sp : Nat → Bool) (hd : Bool), DataW.TrodAll enc P W' b sp hd f.resultTypes.toList ((Value.bool true).resultList f.resultTypes.size) [DataW.lit (.bool true)] [] := by
    intro b sp hd
    rw [hres]
    exact trodAll_cons_mk (shut_bool hbool _) trodAll_mk0
  refine ⟨ds, [], p ++ [], [], p, [], hW', ?_, ?_, ?_, World.keptBut_mono (fun x hx => ⟨hx, .inr (.inl (by simpa using hx))⟩) (hb.frame (· ∈ p ++ [])), fun _ => ?_⟩
  · rw [List.append_nil, hf1]; exact hres' _ _ _
  · rw [List.append_nil, hf2]; exact args_stay hl hb hr hlt (fun x hx => by simpa using hlt x hx) hA
  · rw [List.append_nil, hf3, hvars]; rfl
  · refine ⟨ok_one hres rfl (okWide_bool_mk hbool _), _, [], ([] ++ p) ++ [], ⟨[] ++ p, [], trodAll_append (args_stay hl hb hr hlt (fun _ _ => rfl) hA) (hres' _ _ _), by rw [hvars]; rfl, rfl, ?_, ?_⟩, ?_⟩
    · intro b off hp
      have hin : MemPlace.cell b off ∈ p := by simpa using hp
      rw [hb.frozen (hlt _ hin)]
      exact hz b off (by simpa using hin)
    · intro ha
      simpa using hn ha
    · intro x hx _
      simpa using hx
end
end Go.Proofs.Ytlddampjbmklkaa
namespace Go.Proofs.Ytlddampjbmklkaa
open Go.RowKit
/-- A slice value that reads as a list of elements of k cells each. -/
def SlOf {α : Type} (k : Nat) (cs : α → List Value) (w : World) (v : Value) (l : List α) : Prop :=
  l.length ≤ 1000000000 ∧ ((l = [] ∧ ∃ A c, v = .slice A 0 c) ∨
    ∃ g o c, v = .slice (some ⟨g, o, none⟩) l.length c ∧ 0 < l.length ∧ l.length ≤ c ∧ ∀ i x, l[i]? = some x → ∀ j u, (cs x)[j]? = some u → w.cell? ⟨g, o + i * k + j, none⟩ = some u)
section
variable {α : Type} {k : Nat} {cs : α → List Value}
theorem SlOf.grown {w w' : World} {v : Value} {l : List α} {row : Option Nat} (h : SlOf k cs w v l) (hg : w.grownBy w' row) (hne : v.ownBlock = none ∨ v.ownBlock ≠ row) : SlOf k cs w' v l := by
  obtain ⟨hl, h⟩ := h
  refine ⟨hl, ?_⟩
  rcases h with h | ⟨g, o, c, rfl, hp, hcap, hc⟩
  · exact .inl h
  · refine .inr ⟨g, o, c, rfl, hp, hcap, fun i x hx j u hu => hg.cell (hc i x hx j u hu) ?_⟩
    rcases hne with hne | hne
    · simp [Value.ownBlock] at hne
    · exact hne
theorem SlOf.below {w w' : World} {v : Value} {l : List α} (h : SlOf k cs w v l) (hb : Below w.heap.size w w') : SlOf k cs w' v l := by
  obtain ⟨hl, h⟩ := h
  refine ⟨hl, ?_⟩
  rcases h with h | ⟨g, o, c, rfl, hp, hcap, hc⟩
  · exact .inl h
  · exact .inr ⟨g, o, c, rfl, hp, hcap, fun i x hx j u hu => (hb.cell (World.block_lt_of_cell? w _ (hc i x hx j u hu))).trans (hc i x hx j u hu)⟩
theorem SlOf.form {w : World} {v : Value} {l : List α} (h : SlOf k cs w v l) : ∃ A c, v = .slice A l.length c := by
  obtain ⟨_, h⟩ := h
  rcases h with ⟨rfl, A, c, rfl⟩ | ⟨g, o, c, rfl, _⟩
  · exact ⟨A, c, rfl⟩
  · exact ⟨_, _, rfl⟩
/-- A slice that the call owns, and that reads as a list. -/
def OwnOf (k : Nat) (cs : α → List Value) (t : TypeId) (w : World) (base : Nat) (v : Value) (l : List α) : Prop := w.ownsRow base t k v l.length (l.flatMap cs)
/-- What a function leaves that returns a new list. -/
def NewOf (k : Nat) (cs : α → List Value) (t : TypeId) (l : List α) (w : World) (e : Ending) (w' : World) : Prop := ∃ v, e = .returned v ∧ OwnOf k cs t w' w.heap.size v l ∧ Below w.heap.size w w'
theorem flat_len (hk : ∀ x, (cs x).length = k) (l : List α) : (l.flatMap cs).length = l.length * k := by
  induction l with
  | nil => simp
  | cons x l ih => rw [List.flatMap_cons, List.length_append, hk, ih, List.length_cons, Nat.succ_mul, Nat.add_comm]
theorem flat_at (hk : ∀ x, (cs x).length = k) (l : List α) : ∀ (i : Nat) (x : α), l[i]? = some x → ∀ (j : Nat) (u : Value), (cs x)[j]? = some u → (l.flatMap cs)[i * k + j]? = some u := by
  induction l with
  | nil => intro i x hx; simp at hx
  | cons y l ih =>
    intro i x hx j u hu
    rw [List.flatMap_cons]
    cases i with
    | zero =>
      simp only [List.getElem?_cons_zero, Option.some.injEq] at hx
      subst hx
      have hj : j < (cs y).length := (List.getElem?_eq_some_iff.1 hu).1
      rw [Nat.zero_mul, Nat.zero_add, List.getElem?_append_left hj]
      exact hu
    | succ i =>
      simp only [List.getElem?_cons_succ] at hx
      have e : (i + 1) * k + j = (cs y).length + (i * k + j) := by rw [hk, Nat.succ_mul]; omega
      rw [e, List.getElem?_append_right (Nat.le_add_right _ _), Nat.add_sub_cancel_left]
      exact ih i x hx j u hu
theorem own_sl {t : TypeId} {w : World} {base : Nat} {v : Value} {l : List α} (hk : ∀ x, (cs x).length = k) (h : OwnOf k cs t w base v l) (hl : l.length ≤ 1000000000) : SlOf k cs w v l := by
  refine ⟨hl, ?_⟩
  have hc : ∀ g, v.ownBlock = some g → ∀ j u, (l.flatMap cs)[j]? = some u → w.cell? ((⟨g, 0, none⟩ : Addr).add j) = some u := fun g hg => World.ownsRow.cells h hg
  obtain ⟨_, h2⟩ := h
  rcases Nat.eq_zero_or_pos l.length with h0 | h0
  · left
    refine ⟨List.eq_nil_of_length_eq_zero h0, ?_⟩
    rcases h2 with ⟨rfl, _⟩ | ⟨g, cap, cur, rfl, _⟩
    · exact ⟨_, _, rfl⟩
    · exact ⟨_, _, by rw [h0]⟩
  · right
    rcases h2 with ⟨_, hn⟩ | ⟨g, cap, cur, rfl, _, _, hle, _⟩
    · omega
    · refine ⟨g, 0, cap, rfl, h0, hle, fun i x hx j u hu => ?_⟩
      have := hc g rfl (i * k + j) u (flat_at hk l i x hx j u hu)
      have hadd : (⟨g, 0, none⟩ : Addr).add (i * k + j) = ⟨g, 0 + i * k + j, none⟩ := by
        unfold Addr.add; split
        · simp_all
        · simp
      rw [hadd] at this
      exact this
theorem own_form {t : TypeId} {w : World} {base : Nat} {v : Value} {l : List α} (h : OwnOf k cs t w base v l) : ∃ A c, v = .slice A l.length c := by
  obtain ⟨_, h2⟩ := h
  rcases h2 with ⟨rfl, h0⟩ | ⟨g, cap, cur, rfl, _⟩
  · exact ⟨_, _, by rw [h0]⟩
  · exact ⟨_, _, rfl⟩
theorem own_lo {t : TypeId} {w : World} {base base' : Nat} {v : Value} {l : List α} (h : OwnOf k cs t w base v l) (hb : base' ≤ base) : OwnOf k cs t w base' v l := Joins.ownsRow_le h hb
theorem grown_of_below {a b : World} (hb : Below a.heap.size a b) (row : Option Nat) : a.grownBy b row := ⟨hb.os, hb.tape, hb.output, hb.size, fun i hi _ => hb.block i hi⟩
theorem ownsRow_below {w w' : World} {base : Nat} {t : TypeId} {n : Nat} {v : Value} {xs : List Value} (h : w.ownsRow base t k v n xs) (hb : Below w.heap.size w w') : w'.ownsRow base t k v n xs := by
  refine World.ownsRow.kept h (grown_of_below hb none) ?_
  cases v.ownBlock <;> simp
theorem own_below {t : TypeId} {w w' : World} {base : Nat} {v : Value} {l : List α} (h : OwnOf k cs t w base v l) (hb : Below w.heap.size w w') : OwnOf k cs t w' base v l := ownsRow_below h hb
theorem take_snoc' (l : List α) (i : Nat) (x : α) (h : l[i]? = some x) : l.take (i + 1) = l.take i ++ [x] := by
  rw [List.take_add_one, h]; rfl
theorem flatten_rep_len (zc : List Value) (n : Nat) : (List.replicate n zc).flatten.length = n * zc.length := by simp
theorem flatten_rep_at (zc : List Value) (n : Nat) : ∀ j, j < n * zc.length → (List.replicate n zc).flatten[j]? = zc[j % zc.length]? := by
  induction n with
  | zero => intro j hj; simp at hj
  | succ n ih =>
    intro j hj
    rw [List.replicate_succ, List.flatten_cons]
    rcases Nat.lt_or_ge j zc.length with h | h
    · rw [List.getElem?_append_left h, Nat.mod_eq_of_lt h]
    · rw [List.getElem?_append_right h, ih (j - zc.length) (by rw [Nat.succ_mul] at hj; omega)]
      rw [← Nat.mod_eq_sub_mod h]
theorem made_flat (z : Array Value) (n : Nat) : (madeCells z (n * z.size)).toList = (List.replicate n z.toList).flatten := by
  apply List.ext_getElem?
  intro j
  by_cases hj : j < n * z.size
  · rw [flatten_rep_at _ _ _ (by simpa using hj)]
    have hz : 0 < z.size := by
      rcases Nat.eq_zero_or_pos z.size with h | h
      · rw [h] at hj; omega
      · exact h
    have hm : j % z.size < z.size := Nat.mod_lt _ hz
    simp [madeCells, hj, hm]
  · rw [List.getElem?_eq_none (by simp [madeCells]; omega), List.getElem?_eq_none (by rw [flatten_rep_len]; simpa using hj)]
end
end Go.Proofs.Ytlddampjbmklkaa
namespace Go.Proofs.Ytlddampjbmklkaa
def firstI {α : Type} (p : α → Bool) (l : List α) : Int := match l.findIdx? p with | some i => (i : Int) | none => -1
def NoOne {α : Type} (p : α → Bool) (l : List α) (k : Nat) : Prop := ∀ j, j < k → ∀ y, l[j]? = some y → p y = false
theorem NoOne.zero {α : Type} (p : α → Bool) (l : List α) : NoOne p l 0 := fun j hj => absurd hj (by omega)
theorem NoOne.next {α : Type} {p : α → Bool} {l : List α} {k : Nat} {x : α} (h : NoOne p l k) (hx : l[k]? = some x) (hn : p x = false) : NoOne p l (k + 1) := fun j hj y hy => by
  by_cases e : j = k
  · subst e; rw [hx] at hy; cases hy; exact hn
  · exact h j (by omega) y hy
theorem firstI_at {α : Type} {p : α → Bool} {l : List α} {k : Nat} {x : α} (h : NoOne p l k) (hx : l[k]? = some x) (hn : p x = true) : firstI p l = k := by
  have : l.findIdx? p = some k := by
    rw [List.findIdx?_eq_some_iff_getElem]
    obtain ⟨hk, rfl⟩ := List.getElem?_eq_some_iff.1 hx
    exact ⟨hk, hn, fun j hj => by rw [h j hj _ (List.getElem?_eq_getElem (by omega))]; simp⟩
  unfold firstI; rw [this]
theorem firstI_none {α : Type} {p : α → Bool} {l : List α} (h : NoOne p l l.length) : firstI p l = -1 := by
  have : l.findIdx? p = none := by
    rw [List.findIdx?_eq_none_iff]
    intro x hx
    obtain ⟨j, hj⟩ := List.getElem?_of_mem hx
    exact h j (List.getElem?_eq_some_iff.1 hj).1 x hj
  unfold firstI; rw [this]
end Go.Proofs.Ytlddampjbmklkaa
namespace Go.Proofs.Ytlddampjbmklkaa
open Go.RowKit
theorem and_mask (x : Int) (m : Nat) (hm : m ≤ 4611686018427387904) : 0 ≤ bits .and .i64 x (m : Int) ∧ bits .and .i64 x (m : Int) ≤ m := by
  have e : (BitVec.ofInt 64 (m : Int)).toNat = m := by
    rw [BitVec.ofInt_natCast, BitVec.toNat_ofNat]; exact Nat.mod_eq_of_lt (by omega)
  have h : (BitVec.ofInt 64 x &&& BitVec.ofInt 64 (m : Int)).toNat ≤ m := by
    rw [BitVec.toNat_and, e]; exact Nat.and_le_right
  show 0 ≤ IntKind.i64.wrap ((BitVec.ofInt 64 x &&& BitVec.ofInt 64 (m : Int)).toNat : Int) ∧ IntKind.i64.wrap ((BitVec.ofInt 64 x &&& BitVec.ofInt 64 (m : Int)).toNat : Int) ≤ m
  rw [IntKind.wrap_i64]
  omega
theorem and_255 (x : Int) : 0 ≤ bits .and .i64 x 255 ∧ bits .and .i64 x 255 ≤ 255 := and_mask x 255 (by omega)
def top30 : Int := 1073741823
theorem and_30 (x : Int) : 0 ≤ bits .and .i64 x 1073741823 ∧ bits .and .i64 x 1073741823 ≤ top30 := by
  have h := and_mask x 1073741823 (by omega)
  simp only [Int.cast_ofNat_Int] at h
  exact h
/-- The cursor's block: the bytes, how many are spent, a number. -/
def CurAt (w : World) (p : Nat) (A : Option Addr) (n c : Nat) (i h : Int) : Prop := w.heap[p]? = some (.cells #[.slice A n c, .int .i64 i, .int .i64 h] 99 (0, 0))
/-- The bytes lie elsewhere: they lay there before the cursor. -/
def BytesAt (w : World) (p : Nat) (A : Option Addr) (n : Nat) : Prop :=
  n ≤ 1048576 ∧ (0 < n → ∃ g o, A = some ⟨g, o, none⟩ ∧ g < p ∧ ∀ j, j < n → ∃ x : Int, 0 ≤ x ∧ x ≤ 255 ∧ w.cell? ⟨g, o + j, none⟩ = some (.int .u8 x))
def Cursor (w : World) (p : Nat) : Prop := ∃ A n c i h, CurAt w p A n c i h ∧ 0 ≤ i ∧ i ≤ (n : Int) ∧ BytesAt w p A n
/-- What a draw below lim leaves. -/
def Draws (p : Nat) (lim : Int) (w : World) (e : Ending) (w' : World) : Prop := ∃ x : Int, e = .returned (.int .i64 x) ∧ 0 ≤ x ∧ x < lim ∧ Cursor w' p ∧ w.grownBy w' (some p)
theorem CurAt.cell {w : World} {p : Nat} {A : Option Addr} {n c : Nat} {i h : Int} (hc : CurAt w p A n c i h) (j : Nat) : w.cell? ⟨p, j, none⟩ = (#[Value.slice A n c, .int .i64 i, .int .i64 h] : Array Value)[j]? := cell_of_row w p j _ _ (0, 0) hc
theorem CurAt.unfrozen {w : World} {p : Nat} {A : Option Addr} {n c : Nat} {i h : Int} (hc : CurAt w p A n c i h) (j : Nat) : w.frozen? ⟨p, j, none⟩ = false := by
  unfold CurAt at hc
  simp [World.frozen?, hc]
theorem CurAt.lt {w : World} {p : Nat} {A : Option Addr} {n c : Nat} {i h : Int} (hc : CurAt w p A n c i h) : p < w.heap.size := by
  rcases Nat.lt_or_ge p w.heap.size with hlt | hge
  · exact hlt
  · unfold CurAt at hc; rw [Array.getElem?_eq_none hge] at hc; cases hc
theorem CurAt.set1 {w : World} {p : Nat} {A : Option Addr} {n c : Nat} {i h : Int} (hc : CurAt w p A n c i h) (i' : Int) : CurAt (w.setCell ⟨p, 1, none⟩ (.int .i64 i')) p A n c i' h := by
  unfold CurAt at hc ⊢
  simp [World.setCell, Array.getElem?_modify, hc]
theorem CurAt.set2 {w : World} {p : Nat} {A : Option Addr} {n c : Nat} {i h : Int} (hc : CurAt w p A n c i h) (h' : Int) : CurAt (w.setCell ⟨p, 2, none⟩ (.int .i64 h')) p A n c i h' := by
  unfold CurAt at hc ⊢
  simp [World.setCell, Array.getElem?_modify, hc]
theorem CurAt.drewN {w : World} {p : Nat} {A : Option Addr} {n c : Nat} {i h : Int} (hc : CurAt w p A n c i h) (k : Nat) : CurAt (w.drewN k) p A n c i h := hc
theorem grown_setP {a w : World} {p j : Nat} (h : a.grownBy w (some p)) (u : Value) : a.grownBy (w.setCell ⟨p, j, none⟩ u) (some p) :=
  ⟨h.os, h.tape, h.output, by simpa [World.setCell] using h.size, fun i hi hne => (Below.heap_setCell w _ u i (by rintro rfl; exact hne rfl)).trans (h.block i hi hne)⟩
theorem grown_drewN {a w : World} {row : Option Nat} (h : a.grownBy w row) (n : Nat) : a.grownBy (w.drewN n) row := ⟨h.os, h.tape, h.output, h.size, h.block⟩
theorem grown_trans {a b c : World} {row : Option Nat} (h : a.grownBy b row) (k : b.grownBy c row) : a.grownBy c row :=
  ⟨k.os.trans h.os, k.tape.trans h.tape, k.output.trans h.output, Nat.le_trans h.size k.size, fun i hi hn => (k.block i (Nat.lt_of_lt_of_le hi h.size) hn).trans (h.block i hi hn)⟩
theorem BytesAt.grown {w w' : World} {p : Nat} {A : Option Addr} {n : Nat} (h : BytesAt w p A n) (hg : w.grownBy w' (some p)) : BytesAt w' p A n := by
  refine ⟨h.1, fun h0 => ?_⟩
  obtain ⟨g, o, rfl, hne, hx⟩ := h.2 h0
  refine ⟨g, o, rfl, hne, fun j hj => ?_⟩
  obtain ⟨x, x0, x1, hc⟩ := hx j hj
  exact ⟨x, x0, x1, hg.cell hc (fun e => Nat.ne_of_lt hne (Option.some.inj e))⟩
/-- A cursor stays one while its own block and its bytes stay. -/
theorem Cursor.below {w w' : World} {p : Nat} (h : Cursor w p) (hb : Below w.heap.size w w') : Cursor w' p := by
  obtain ⟨A, n, c, i, q, hc, h0, h1, hB⟩ := h
  refine ⟨A, n, c, i, q, (hb.block p hc.lt).trans hc, h0, h1, hB.1, fun hn => ?_⟩
  obtain ⟨g, o, rfl, hne, hx⟩ := hB.2 hn
  refine ⟨g, o, rfl, hne, fun j hj => ?_⟩
  obtain ⟨x, x0, x1, hc⟩ := hx j hj
  exact ⟨x, x0, x1, (hb.cell (World.block_lt_of_cell? w _ hc)).trans hc⟩
set_option maxHeartbeats 2000000 in
theorem l01Byte_any (p : Nat) (w : World) (hcur : Cursor w p) :
    Calls Try.prog 41 #[.pointer (some ⟨p, 0, none⟩)] w (Draws p 256 w) := by
  obtain ⟨A, n, c, i, h, hc, hi0, hi1, hB⟩ := hcur
  have h0 : w.cell? ⟨p, 0, none⟩ = some (.slice A n c) := hc.cell 0
  have h1 : w.cell? ⟨p, 1, none⟩ = some (.int .i64 i) := hc.cell 1
  have h2 : w.cell? ⟨p, 2, none⟩ = some (.int .i64 h) := hc.cell 2
  have f1 := hc.unfrozen 1
  have f2 := hc.unfrozen 2
  have hn := hB.1
  have HC := Lib.hid hc
  have HB := Lib.hid hB
  clear hc hB
  by_cases hlt : i < (n : Int)
  · obtain ⟨g, o, rfl, hne, hx⟩ := HB.out.2 (by omega)
    obtain ⟨k, rfl⟩ : ∃ k : Nat, i = (k : Int) := ⟨i.toNat, by omega⟩
    obtain ⟨x, x0, x1, hcell⟩ := hx k (by omega)
    have HX := Lib.hid hx
    clear hx
    go_enter Try.func41, Try.ntmps41
    go_wp2
    go_quiet (fail)
    go_wp2
    obtain ⟨y, hy⟩ : ∃ y, bits .and .i64 (bits .xor .i64 (wrap64 (wrap64 (h * 6364136223846793005) + 1442695040888963407) / 8589934592) (wrap64 (wrap64 (h * 6364136223846793005) + 1442695040888963407) / 35184372088832)) 255 = y := ⟨_, rfl⟩
    have hyb := and_255 (bits .xor .i64 (wrap64 (wrap64 (h * 6364136223846793005) + 1442695040888963407) / 8589934592) (wrap64 (wrap64 (h * 6364136223846793005) + 1442695040888963407) / 35184372088832))
    rw [hy] at hyb ⊢
    clear hy
    obtain ⟨hy0, hy1⟩ := hyb
    go_quiet (fail)
    go_wp2
    have hw : IntKind.i64.wrap (y + x) = y + x := IntWalk.i64_in _ (by omega)
    go_quiet (fail)
    clear hw
    go_wp2
    go_ret
    obtain ⟨hz0, hz1⟩ := and_255 (y + x)
    refine ⟨bits .and .i64 (y + x) 255, rfl, hz0, by omega, ?_⟩
    have hg : ∀ m : Nat, w.grownBy (((w.setCell ⟨p, 2, none⟩ (.int .i64 (wrap64 (wrap64 (h * 6364136223846793005) + 1442695040888963407)))).setCell ⟨p, 1, none⟩ (.int .i64 ((k : Int) + 1))).drewN m) (some p) := fun m => grown_drewN (grown_setP (grown_setP (World.grownBy.refl _ _) _) _) m
    exact ⟨⟨_, n, c, (k : Int) + 1, _, ((HC.out.set2 _).set1 _).drewN _, by omega, by omega, HB.out.grown (hg _)⟩, hg _⟩
  · have hge : (n : Int) ≤ i := by omega
    go_enter Try.func41, Try.ntmps41
    go_wp2
    go_quiet (fail)
    go_wp2
    obtain ⟨y, hy⟩ : ∃ y, bits .and .i64 (bits .xor .i64 (wrap64 (wrap64 (h * 6364136223846793005) + 1442695040888963407) / 8589934592) (wrap64 (wrap64 (h * 6364136223846793005) + 1442695040888963407) / 35184372088832)) 255 = y := ⟨_, rfl⟩
    have hyb := and_255 (bits .xor .i64 (wrap64 (wrap64 (h * 6364136223846793005) + 1442695040888963407) / 8589934592) (wrap64 (wrap64 (h * 6364136223846793005) + 1442695040888963407) / 35184372088832))
    rw [hy] at hyb ⊢
    clear hy
    obtain ⟨hy0, hy1⟩ := hyb
    go_quiet (fail)
    go_wp2
    go_ret
    refine ⟨y, rfl, hy0, by omega, ?_⟩
    have hg : ∀ m : Nat, w.grownBy ((w.setCell ⟨p, 2, none⟩ (.int .i64 (wrap64 (wrap64 (h * 6364136223846793005) + 1442695040888963407)))).drewN m) (some p) := fun m => grown_drewN (grown_setP (World.grownBy.refl _ _) _) m
    exact ⟨⟨A, n, c, i, _, ((HC.out.set2 _).drewN _).drewN _, hi0, hi1, HB.out.grown (grown_drewN (hg _) _)⟩, grown_drewN (hg _) _⟩
/-- A draw below n, for n from 1 to 1000000. -/
theorem l01Below_any (p : Nat) (n : Int) (w : World) (h0 : 0 < n) (h1 : n ≤ 1000000) (hcur : Cursor w p) :
    Calls Try.prog 68 #[.pointer (some ⟨p, 0, none⟩), .int .i64 n] w (Draws p n w) := by
  by_cases hs : n ≤ 256
  · have C := Lib.hid (l01Byte_any p w hcur)
    clear hcur
    go_enter Try.func68, Try.ntmps68
    go_wp2_with fail
    refine C.out.mono ?_
    rintro e w1 ⟨x, rfl, x0, x1, hc1, hg1⟩
    have HC := Lib.hid hc1
    have HG := Lib.hid hg1
    clear hc1 hg1
    go_wp2
    go_ret
    exact ⟨x % n, rfl, Int.emod_nonneg _ (by omega), Int.emod_lt_of_pos _ h0, HC.out, HG.out⟩
  · have HC := Lib.hid hcur
    clear hcur
    go_enter Try.func68, Try.ntmps68
    go_wp2_with fail
    refine (l01Byte_any p w HC.out).mono ?_
    rintro e w1 ⟨x, rfl, x0, x1, hc1, hg1⟩
    have HC1 := Lib.hid hc1
    have HG1 := Lib.hid hg1
    clear hc1 hg1
    go_wp2_with fail
    refine (l01Byte_any p w1 HC1.out).mono ?_
    rintro e w2 ⟨y, rfl, y0, y1, hc2, hg2⟩
    have HC2 := Lib.hid hc2
    have HG2 := Lib.hid (grown_trans HG1.out hg2)
    clear hc2 hg2
    go_wp2_with fail
    refine (l01Byte_any p w2 HC2.out).mono ?_
    rintro e w3 ⟨z, rfl, z0, z1, hc3, hg3⟩
    have HC3 := Lib.hid hc3
    have HG3 := Lib.hid (grown_trans HG2.out hg3)
    clear hc3 hg3
    go_wp2_with fail
    refine (l01Byte_any p w3 HC3.out).mono ?_
    rintro e w4 ⟨u, rfl, u0, u1, hc4, hg4⟩
    have HC4 := Lib.hid hc4
    have HG4 := Lib.hid (grown_trans HG3.out hg4)
    clear hc4 hg4
    go_wp2
    go_ret
    exact ⟨(x * 16777216 + y * 65536 + z * 256 + u) % n, rfl, Int.emod_nonneg _ (by omega), Int.emod_lt_of_pos _ h0, HC4.out, HG4.out⟩
/-- Bytes that came in. -/
def CodeAt (w : World) (A : Option Addr) (n : Nat) : Prop :=
  n ≤ 1048576 ∧ (0 < n → ∃ g o, A = some ⟨g, o, none⟩ ∧ g < w.heap.size ∧ ∀ j, j < n → ∃ x : Int, 0 ≤ x ∧ x ≤ 255 ∧ w.cell? ⟨g, o + j, none⟩ = some (.int .u8 x))
theorem CodeAt.below {w w' : World} {A : Option Addr} {n : Nat} (h : CodeAt w A n) (hb : Below w.heap.size w w') : CodeAt w' A n := by
  refine ⟨h.1, fun hn => ?_⟩
  obtain ⟨g, o, rfl, hlt, hx⟩ := h.2 hn
  refine ⟨g, o, rfl, Nat.lt_of_lt_of_le hlt hb.size, fun j hj => ?_⟩
  obtain ⟨x, x0, x1, hc⟩ := hx j hj
  exact ⟨x, x0, x1, (hb.cell (World.block_lt_of_cell? w _ hc)).trans hc⟩
theorem CodeAt.cursor {w : World} {A : Option Addr} {n : Nat} (h : CodeAt w A n) (c : Nat) (q : Int) : Cursor (w.alloc (.cells #[.slice A n c, .int .i64 0, .int .i64 q] 99)) w.heap.size := by
  refine ⟨A, n, c, 0, q, heap_alloc_new w _, Int.le_refl _, by omega, h.1, fun hn => ?_⟩
  obtain ⟨g, o, rfl, hlt, hx⟩ := h.2 hn
  refine ⟨g, o, rfl, by omega, fun j hj => ?_⟩
  obtain ⟨x, x0, x1, hc⟩ := hx j hj
  exact ⟨x, x0, x1, (World.cell?_alloc_lt w _ _ hlt).trans hc⟩
/-- A new cursor. -/
def NewCursor (w : World) (e : Ending) (w' : World) : Prop := ∃ p, e = .returned (.pointer (some ⟨p, 0, none⟩)) ∧ w.heap.size ≤ p ∧ Cursor w' p ∧ Below w.heap.size w w'
set_option maxHeartbeats 2000000 in
set_option maxRecDepth 100000 in
theorem l01New_any (A : Option Addr) (n c : Nat) (w : World) (hcode : CodeAt w A n) :
    Calls Try.prog 39 #[.slice A n c] w (NewCursor w) := by
  have HC := Lib.hid hcode
  have hn := hcode.1
  clear hcode
  go_enter Try.func39, Try.ntmps39
  go_wp2
  go_loop [3, 4] (fun q i => ∃ (k : Nat) (h : Int), k ≤ n ∧ 0 ≤ h ∧ h ≤ 1073741823 ∧ i = .int .i64 k ∧ q = .int .i64 h) (fun _ i => n - (intOf i).toNat)
  case atStart => exact ⟨0, _, Nat.zero_le _, by omega, by omega, rfl, rfl⟩
  case round =>
    obtain ⟨k, h, hk, h0, h1, rfl, rfl⟩ := hrel
    by_cases hlt : k < n
    · by_cases h4 : k < 4000
      · obtain ⟨g, o, rfl, hgl, hx⟩ := HC.out.2 (by omega)
        obtain ⟨x, x0, x1, hcell⟩ := hx k hlt
        have HX := Lib.hid hx
        clear hx
        go_wp2
        go_round
        case rel =>
          obtain ⟨hm0, hm1⟩ := and_30 (h * 79 + x + 7)
          unfold top30 at hm1
          exact ⟨k + 1, _, by omega, hm0, hm1, by go_num, rfl⟩
        case measure => simp [intOf]; omega
      · have hd : decide ((k : Int) < 4000) = false := decide_eq_false (by omega)
        go_wp2
        go_ret
        exact ⟨w.heap.size, rfl, Nat.le_refl _, HC.out.cursor c h, (Below.refl _ _).alloc (Nat.le_refl _) _⟩
    · go_wp2
      go_ret
      exact ⟨w.heap.size, rfl, Nat.le_refl _, HC.out.cursor c h, (Below.refl _ _).alloc (Nat.le_refl _) _⟩
theorem below_of_grown {B : Nat} {a w w' : World} {p : Nat} (h : Below B a w) (hg : w.grownBy w' (some p)) (hB : B ≤ w.heap.size) (hp : B ≤ p) : Below B a w' :=
  h.grown hg hB (fun k e => by rw [← Option.some.inj e]; exact hp)
set_option maxHeartbeats 1000000 in
theorem l28New_any (A : Option Addr) (n c : Nat) (m : Int) (w : World) (hcode : CodeAt w A n) (hm : m ≤ 1000000) :
    Calls Try.prog 40 #[.slice A n c, .int .i64 m] w (NewCursor w) := by
  have C := Lib.hid (l01New_any A n c w hcode)
  clear hcode
  go_enter Try.func40, Try.ntmps40
  go_wp2_with fail
  refine C.out.mono ?_
  rintro e w1 ⟨p, rfl, hp, hcur, hb⟩
  have HC := Lib.hid hcur
  clear hcur
  go_wp2
  go_loopw [6] (fun i wr => ∃ k : Nat, (k : Int) ≤ 1000000 ∧ i = .int .i64 k ∧ Hid (Cursor wr p) ∧ Below w.heap.size w wr) (fun i _ => 1000001 - (intOf i).toNat)
  case atStart => exact ⟨0, by omega, rfl, HC, hb⟩
  case round =>
    obtain ⟨k, hk, rfl, hcu, hbr⟩ := hrel
    have hbs := hbr.size
    by_cases hlt : (k : Int) < m
    · go_wp2_with (go_at_call 41; refine (l01Byte_any p _ hcu.out).mono ?_; rintro e w2 ⟨x, rfl, x0, x1, hc2, hg2⟩; have HC2 := Lib.hid hc2; have HB2 := Lib.hid (below_of_grown hbr hg2 hbs hp); clear hc2 hg2)
      go_roundw
      case rel => exact ⟨k + 1, by omega, by go_num, HC2, HB2.out⟩
      case measure => simp [intOf]; omega
    · go_wp2
      go_ret
      exact ⟨p, rfl, hp, hcu.out, hbr⟩
/-- A number from 0 up to lim, out of new memory alone. -/
def NewNum (lim : Int) (w : World) (e : Ending) (w' : World) : Prop := ∃ x : Int, e = .returned (.int .i64 x) ∧ 0 ≤ x ∧ x < lim ∧ Below w.heap.size w w'
set_option maxHeartbeats 1000000 in
theorem makeNum_any (A : Option Addr) (n c : Nat) (m : Int) (w : World) (hcode : CodeAt w A n) (hm : m ≤ 1000000) :
    Calls Try.prog 11 #[.slice A n c, .int .i64 m] w (NewNum 65536 w) := by
  have C := Lib.hid (l28New_any A n c m w hcode hm)
  clear hcode
  go_enter Try.func11, Try.ntmps11
  go_wp2_with fail
  refine C.out.mono ?_
  rintro e w1 ⟨p, rfl, hp, hcur, hb⟩
  have HC := Lib.hid hcur
  have hbs := hb.size
  clear hcur
  go_wp2_with fail
  refine (l01Byte_any p _ HC.out).mono ?_
  rintro e w2 ⟨x, rfl, x0, x1, hc2, hg2⟩
  have HC2 := Lib.hid hc2
  have hB2 := below_of_grown hb hg2 hbs hp
  have hbs2 := hB2.size
  clear hc2 hg2
  go_wp2_with fail
  refine (l01Byte_any p _ HC2.out).mono ?_
  rintro e w3 ⟨y, rfl, y0, y1, hc3, hg3⟩
  have hB3 := below_of_grown hB2 hg3 hbs2 hp
  clear hc3 hg3
  go_wp2
  go_ret
  exact ⟨x * 256 + y, rfl, by omega, by omega, hB3⟩
end Go.Proofs.Ytlddampjbmklkaa
