
/- What ExactRivalDuties and Dilworth and CoversLaw rests on, part 0: contracts and mathematics. -/
import Derived.WalkKit
import Derived.ProofKit
import Derived.OpenShut
import Derived.Carry
import Derived.Lib.Hide
import Derived.Test.YtfofbnpgjdagkaaRows
import Derived.Deep.QuietTactic
import Derived.BigQuiet
import Derived.Below
import Derived.Laws.AppendOwn
import Derived.Laws.MakeOwn
import Derived.Lib.SmallJoins
namespace Go.Proofs.Ytfofbnpgjdagkaa
open Go.ChangeShapes Go.WideShapes Go.ChangeAt Go.RowKit
section
variable {H : Type} {enc : TypeId × Value → H} {P : Program}
theorem args_stay (hl : laidOutB P = true) {W W' : World} (hb : Below W.heap.size W W') {sp : Nat → Bool} :
    ∀ {ts : List TypeId} {vs : List Value} {ds : List (DataW H)} {ps : List MemPlace},
      (∀ t ∈ ts, P.readableRec t = true ∧ t < P.types.size) → (∀ x ∈ ps, x.block < W.heap.size) → (∀ x ∈ ps, sp x.block = true) →
      DataW.TrodAll enc P W 0 (fun _ => true) true ts vs ds ps → DataW.TrodAll enc P W' 0 sp true ts vs ds ps := by
  intro ts
  induction ts with
  | nil =>
    intro vs ds ps _ _ _ h
    obtain ⟨rfl, rfl, rfl⟩ := trodAll_nil h
    exact trodAll_mk0
  | cons t ts ih =>
    intro vs ds ps hr hlt hs h
    obtain ⟨v, vs', d, ds', p, q, rfl, rfl, rfl, h0, h1⟩ := trodAll_cons h
    refine ⟨p, q, ?_, ?_, rfl⟩
    · exact WideElems.Trod_stays hl (hr t (by simp)).1 (hr t (by simp)).2 h0 (fun x hx => hb.same (hlt x (by simp [hx]))) (fun x hx => hs x (by simp [hx]))
    · exact ih (fun u hu => hr u (by simp [hu])) (fun x hx => hlt x (by simp [hx])) (fun x hx => hs x (by simp [hx])) h1
theorem law_post {f : Func} {s : ChangeSpec} {apart fresh handsOn again : Bool} {W W' : World} {args : Array Value} {ds gs : List (DataW H)} {before : List MemPlace} {tb : TypeId}
    (hl : laidOutB P = true) (hr0 : (f.params.toList.all fun t => P.readableRec t && decide (t < P.types.size)) = true) (hvars : s.vars = [])
    (hres : f.resultTypes = #[tb]) (hbool : P.underlying tb = some .bool)
    (hf1 : (s.fn H ds).results = [.lit (.bool true)]) (hf2 : (s.fn H ds).args = ds) (hf3 : (s.fn H ds).vars = [])
    (hW : DataW.Whole enc P f.params.toList s.vars apart W args.toList ds gs before) (hb : Below W.heap.size W W') :
    s.post enc P f apart fresh handsOn again W args (.bool true) W' := by
  have hr : ∀ t ∈ f.params.toList, P.readableRec t = true ∧ t < P.types.size := fun t ht => by
    have h := List.all_eq_true.1 hr0 t ht
    rw [Bool.and_eq_true] at h
    exact ⟨h.1, of_decide_eq_true h.2⟩
  have hW' := hW
  obtain ⟨p, q, hA, hV, rfl, hz, hn⟩ := hW
  rw [hvars] at hV
  obtain ⟨rfl, rfl⟩ := trodVars_none hV
  have hlt : ∀ x ∈ p, x.block < W.heap.size := fun x hx => hW'.lt x (by simp [hx])
  have hres' : ∀ (b : Nat) (sp : Nat → Bool) (hd : Bool), DataW.TrodAll enc P W' b sp hd f.resultTypes.toList ((Value.bool true).resultList f.resultTypes.size) [DataW.lit (.bool true)] [] := by
    intro b sp hd
    rw [hres]
    exact trodAll_cons_mk (shut_bool hbool _) trodAll_mk0
  refine ⟨ds, [], p ++ [], [], p, [], hW', ?_, ?_, ?_, World.keptBut_mono (fun x hx => ⟨hx, .inr (.inl (by simpa using hx))⟩) (hb.frame (· ∈ p ++ [])), fun _ => ?_⟩
  · rw [List.append_nil, hf1]; exact hres' _ _ _
  · rw [List.append_nil, hf2]; exact args_stay hl hb hr hlt (fun x hx => by simpa using hlt x hx) hA
  · rw [List.append_nil, hf3, hvars]; rfl
  · refine ⟨ok_one hres rfl (okWide_bool_mk hbool _), _, [], ([] ++ p) ++ [], ⟨[] ++ p, [], trodAll_append (args_stay hl hb hr hlt (fun _ _ => rfl) hA) (hres' _ _ _), by rw [hvars]; rfl, rfl, ?_, ?_⟩, ?_⟩
    · intro b off hp
      have hin : MemPlace.cell b off ∈ p := by simpa using hp
      rw [hb.frozen (hlt _ hin)]
      exact hz b off (by simpa using hin)
    · intro ha
      simpa using hn ha
    · intro x hx _
      simpa using hx
end
end Go.Proofs.Ytfofbnpgjdagkaa
namespace Go.Proofs.Ytfofbnpgjdagkaa
open Go.RowKit
theorem ret_bool {a b : Bool} (h : a = b) : Ending.returned (.bool a) = .returned (.bool b) := by rw [h]
theorem ret_int {k : IntKind} {a b : Int} (h : a = b) : Ending.returned (.int k a) = .returned (.int k b) := by rw [h]
end Go.Proofs.Ytfofbnpgjdagkaa
namespace Go.Proofs.Ytfofbnpgjdagkaa
open Go.RowKit
/-- A slice value that reads as a list of elements of k cells each. -/
def SlOf {α : Type} (k : Nat) (cs : α → List Value) (w : World) (v : Value) (l : List α) : Prop :=
  l.length ≤ 1000000000 ∧ ((l = [] ∧ ∃ A c, v = .slice A 0 c) ∨
    ∃ g o c, v = .slice (some ⟨g, o, none⟩) l.length c ∧ 0 < l.length ∧ l.length ≤ c ∧ ∀ i x, l[i]? = some x → ∀ j u, (cs x)[j]? = some u → w.cell? ⟨g, o + i * k + j, none⟩ = some u)
section
variable {α : Type} {k : Nat} {cs : α → List Value}
theorem SlOf.grown {w w' : World} {v : Value} {l : List α} {row : Option Nat} (h : SlOf k cs w v l) (hg : w.grownBy w' row) (hne : v.ownBlock = none ∨ v.ownBlock ≠ row) : SlOf k cs w' v l := by
  obtain ⟨hl, h⟩ := h
  refine ⟨hl, ?_⟩
  rcases h with h | ⟨g, o, c, rfl, hp, hcap, hc⟩
  · exact .inl h
  · refine .inr ⟨g, o, c, rfl, hp, hcap, fun i x hx j u hu => hg.cell (hc i x hx j u hu) ?_⟩
    rcases hne with hne | hne
    · simp [Value.ownBlock] at hne
    · exact hne
theorem SlOf.below {w w' : World} {v : Value} {l : List α} (h : SlOf k cs w v l) (hb : Below w.heap.size w w') : SlOf k cs w' v l := by
  obtain ⟨hl, h⟩ := h
  refine ⟨hl, ?_⟩
  rcases h with h | ⟨g, o, c, rfl, hp, hcap, hc⟩
  · exact .inl h
  · exact .inr ⟨g, o, c, rfl, hp, hcap, fun i x hx j u hu => (hb.cell (World.block_lt_of_cell? w _ (hc i x hx j u hu))).trans (hc i x hx j u hu)⟩
theorem SlOf.form {w : World} {v : Value} {l : List α} (h : SlOf k cs w v l) : ∃ A c, v = .slice A l.length c := by
  obtain ⟨_, h⟩ := h
  rcases h with ⟨rfl, A, c, rfl⟩ | ⟨g, o, c, rfl, _⟩
  · exact ⟨A, c, rfl⟩
  · exact ⟨_, _, rfl⟩
/-- A slice that the call owns, and that reads as a list. -/
def OwnOf (k : Nat) (cs : α → List Value) (t : TypeId) (w : World) (base : Nat) (v : Value) (l : List α) : Prop := w.ownsRow base t k v l.length (l.flatMap cs)
/-- What a function leaves that returns a new list. -/
def NewOf (k : Nat) (cs : α → List Value) (t : TypeId) (l : List α) (w : World) (e : Ending) (w' : World) : Prop := ∃ v, e = .returned v ∧ OwnOf k cs t w' w.heap.size v l ∧ Below w.heap.size w w'
theorem flat_len (hk : ∀ x, (cs x).length = k) (l : List α) : (l.flatMap cs).length = l.length * k := by
  induction l with
  | nil => simp
  | cons x l ih => rw [List.flatMap_cons, List.length_append, hk, ih, List.length_cons, Nat.succ_mul, Nat.add_comm]
theorem flat_at (hk : ∀ x, (cs x).length = k) (l : List α) : ∀ (i : Nat) (x : α), l[i]? = some x → ∀ (j : Nat) (u : Value), (cs x)[j]? = some u → (l.flatMap cs)[i * k + j]? = some u := by
  induction l with
  | nil => intro i x hx; simp at hx
  | cons y l ih =>
    intro i x hx j u hu
    rw [List.flatMap_cons]
    cases i with
    | zero =>
      simp only [List.getElem?_cons_zero, Option.some.injEq] at hx
      subst hx
      have hj : j < (cs y).length := (List.getElem?_eq_some_iff.1 hu).1
      rw [Nat.zero_mul, Nat.zero_add, List.getElem?_append_left hj]
      exact hu
    | succ i =>
      simp only [List.getElem?_cons_succ] at hx
      have e : (i + 1) * k + j = (cs y).length + (i * k + j) := by rw [hk, Nat.succ_mul]; omega
      rw [e, List.getElem?_append_right (Nat.le_add_right _ _), Nat.add_sub_cancel_left]
      exact ih i x hx j u hu
theorem own_sl {t : TypeId} {w : World} {base : Nat} {v : Value} {l : List α} (hk : ∀ x, (cs x).length = k) (h : OwnOf k cs t w base v l) (hl : l.length ≤ 1000000000) : SlOf k cs w v l := by
  refine ⟨hl, ?_⟩
  have hc : ∀ g, v.ownBlock = some g → ∀ j u, (l.flatMap cs)[j]? = some u → w.cell? ((⟨g, 0, none⟩ : Addr).add j) = some u := fun g hg => World.ownsRow.cells h hg
  obtain ⟨_, h2⟩ := h
  rcases Nat.eq_zero_or_pos l.length with h0 | h0
  · left
    refine ⟨List.eq_nil_of_length_eq_zero h0, ?_⟩
    rcases h2 with ⟨rfl, _⟩ | ⟨g, cap, cur, rfl, _⟩
    · exact ⟨_, _, rfl⟩
    · exact ⟨_, _, by rw [h0]⟩
  · right
    rcases h2 with ⟨_, hn⟩ | ⟨g, cap, cur, rfl, _, _, hle, _⟩
    · omega
    · refine ⟨g, 0, cap, rfl, h0, hle, fun i x hx j u hu => ?_⟩
      have := hc g rfl (i * k + j) u (flat_at hk l i x hx j u hu)
      have hadd : (⟨g, 0, none⟩ : Addr).add (i * k + j) = ⟨g, 0 + i * k + j, none⟩ := by
        unfold Addr.add; split
        · simp_all
        · simp
      rw [hadd] at this
      exact this
theorem own_form {t : TypeId} {w : World} {base : Nat} {v : Value} {l : List α} (h : OwnOf k cs t w base v l) : ∃ A c, v = .slice A l.length c := by
  obtain ⟨_, h2⟩ := h
  rcases h2 with ⟨rfl, h0⟩ | ⟨g, cap, cur, rfl, _⟩
  · exact ⟨_, _, by rw [h0]⟩
  · exact ⟨_, _, rfl⟩
theorem own_lo {t : TypeId} {w : World} {base base' : Nat} {v : Value} {l : List α} (h : OwnOf k cs t w base v l) (hb : base' ≤ base) : OwnOf k cs t w base' v l := Joins.ownsRow_le h hb
theorem grown_of_below {a b : World} (hb : Below a.heap.size a b) (row : Option Nat) : a.grownBy b row := ⟨hb.os, hb.tape, hb.output, hb.size, fun i hi _ => hb.block i hi⟩
theorem ownsRow_below {w w' : World} {base : Nat} {t : TypeId} {n : Nat} {v : Value} {xs : List Value} (h : w.ownsRow base t k v n xs) (hb : Below w.heap.size w w') : w'.ownsRow base t k v n xs := by
  refine World.ownsRow.kept h (grown_of_below hb none) ?_
  cases v.ownBlock <;> simp
theorem own_below {t : TypeId} {w w' : World} {base : Nat} {v : Value} {l : List α} (h : OwnOf k cs t w base v l) (hb : Below w.heap.size w w') : OwnOf k cs t w' base v l := ownsRow_below h hb
def setRow : List Value → Nat → List Value → List Value
  | xs, _, [] => xs
  | xs, p, u :: us => setRow (xs.set p u) (p + 1) us
theorem setRow_mid : ∀ (us zc A B : List Value), us.length = zc.length → setRow (A ++ (zc ++ B)) A.length us = A ++ (us ++ B) := by
  intro us
  induction us with
  | nil => intro zc A B h; obtain rfl : zc = [] := List.eq_nil_of_length_eq_zero h.symm; rfl
  | cons u us ih =>
    intro zc A B h
    cases zc with
    | nil => simp at h
    | cons z zc =>
      simp only [List.length_cons, Nat.add_right_cancel_iff] at h
      unfold setRow
      have e : (A ++ (z :: zc ++ B)).set A.length u = (A ++ [u]) ++ (zc ++ B) := by
        rw [List.set_append_right _ _ (Nat.le_refl _), Nat.sub_self]
        simp
      have e2 : A.length + 1 = (A ++ [u]).length := by simp
      rw [e, e2, ih zc (A ++ [u]) B h]
      simp
def halfOf (cs : α → List Value) (zc : List Value) (l : List α) (i : Nat) : List Value := (l.take i).flatMap cs ++ (List.replicate (l.length - i) zc).flatten
theorem take_snoc' (l : List α) (i : Nat) (x : α) (h : l[i]? = some x) : l.take (i + 1) = l.take i ++ [x] := by
  rw [List.take_add_one, h]; rfl
theorem half_set (hk : ∀ x, (cs x).length = k) {zc : List Value} (hz : zc.length = k) (l : List α) (i : Nat) (x : α) (h : l[i]? = some x) : setRow (halfOf cs zc l i) (i * k) (cs x) = halfOf cs zc l (i + 1) := by
  have hi : i < l.length := (List.getElem?_eq_some_iff.1 h).1
  unfold halfOf
  have e : ((l.take i).flatMap cs).length = i * k := by rw [flat_len hk, List.length_take, Nat.min_eq_left (by omega)]
  have h2 : l.length - i = (l.length - (i + 1)) + 1 := by omega
  rw [h2, List.replicate_succ, List.flatten_cons, ← e, setRow_mid _ _ _ _ (by rw [hk, hz]), take_snoc' l i x h, List.flatMap_append]
  simp
theorem half_at (hk : ∀ x, (cs x).length = k) {zc : List Value} (l : List α) (i : Nat) (h : i < l.length) (j : Nat) (u : Value) (hj : zc[j]? = some u) : (halfOf cs zc l i)[i * k + j]? = some u := by
  unfold halfOf
  have e : ((l.take i).flatMap cs).length = i * k := by rw [flat_len hk, List.length_take, Nat.min_eq_left (by omega)]
  have h2 : l.length - i = (l.length - (i + 1)) + 1 := by omega
  have hjl : j < zc.length := (List.getElem?_eq_some_iff.1 hj).1
  rw [List.getElem?_append_right (by omega), e, Nat.add_sub_cancel_left, h2, List.replicate_succ, List.flatten_cons, List.getElem?_append_left hjl]
  exact hj
theorem half_full (zc : List Value) (l : List α) : halfOf cs zc l l.length = l.flatMap cs := by
  unfold halfOf; simp
theorem flatten_rep_len (zc : List Value) (n : Nat) : (List.replicate n zc).flatten.length = n * zc.length := by simp
theorem flatten_rep_at (zc : List Value) (n : Nat) : ∀ j, j < n * zc.length → (List.replicate n zc).flatten[j]? = zc[j % zc.length]? := by
  induction n with
  | zero => intro j hj; simp at hj
  | succ n ih =>
    intro j hj
    rw [List.replicate_succ, List.flatten_cons]
    rcases Nat.lt_or_ge j zc.length with h | h
    · rw [List.getElem?_append_left h, Nat.mod_eq_of_lt h]
    · rw [List.getElem?_append_right h, ih (j - zc.length) (by rw [Nat.succ_mul] at hj; omega)]
      rw [← Nat.mod_eq_sub_mod h]
theorem made_flat (z : Array Value) (n : Nat) : (madeCells z (n * z.size)).toList = (List.replicate n z.toList).flatten := by
  apply List.ext_getElem?
  intro j
  by_cases hj : j < n * z.size
  · rw [flatten_rep_at _ _ _ (by simpa using hj)]
    have hz : 0 < z.size := by
      rcases Nat.eq_zero_or_pos z.size with h | h
      · rw [h] at hj; omega
      · exact h
    have hm : j % z.size < z.size := Nat.mod_lt _ hz
    simp [madeCells, hj, hm]
  · rw [List.getElem?_eq_none (by simp [madeCells]; omega), List.getElem?_eq_none (by rw [flatten_rep_len]; simpa using hj)]
theorem half_none (zc : List Value) (l : List α) : halfOf cs zc l 0 = (List.replicate l.length zc).flatten := by
  unfold halfOf; simp
end
end Go.Proofs.Ytfofbnpgjdagkaa
namespace Go.Proofs.Ytfofbnpgjdagkaa
def firstI {α : Type} (p : α → Bool) (l : List α) : Int := match l.findIdx? p with | some i => (i : Int) | none => -1
def NoOne {α : Type} (p : α → Bool) (l : List α) (k : Nat) : Prop := ∀ j, j < k → ∀ y, l[j]? = some y → p y = false
theorem NoOne.zero {α : Type} (p : α → Bool) (l : List α) : NoOne p l 0 := fun j hj => absurd hj (by omega)
theorem NoOne.next {α : Type} {p : α → Bool} {l : List α} {k : Nat} {x : α} (h : NoOne p l k) (hx : l[k]? = some x) (hn : p x = false) : NoOne p l (k + 1) := fun j hj y hy => by
  by_cases e : j = k
  · subst e; rw [hx] at hy; cases hy; exact hn
  · exact h j (by omega) y hy
theorem firstI_at {α : Type} {p : α → Bool} {l : List α} {k : Nat} {x : α} (h : NoOne p l k) (hx : l[k]? = some x) (hn : p x = true) : firstI p l = k := by
  have : l.findIdx? p = some k := by
    rw [List.findIdx?_eq_some_iff_getElem]
    obtain ⟨hk, rfl⟩ := List.getElem?_eq_some_iff.1 hx
    exact ⟨hk, hn, fun j hj => by rw [h j hj _ (List.getElem?_eq_getElem (by omega))]; simp⟩
  unfold firstI; rw [this]
theorem firstI_none {α : Type} {p : α → Bool} {l : List α} (h : NoOne p l l.length) : firstI p l = -1 := by
  have : l.findIdx? p = none := by
    rw [List.findIdx?_eq_none_iff]
    intro x hx
    obtain ⟨j, hj⟩ := List.getElem?_of_mem hx
    exact h j (List.getElem?_eq_some_iff.1 hj).1 x hj
  unfold firstI; rw [this]
end Go.Proofs.Ytfofbnpgjdagkaa
