
/- The map from the points' names to their places, filled from the last point back: what it holds. -/
import Derived.Test.YtpglaffmmddcdaaChartOkSpec
import Derived.Maps.OwnSet
import Derived.Maps.RangeWalk
import Derived.Maps.OwnIn
namespace Go.Proofs.Ytpglaffmmddcdaa
open Go.RowKit Go.Maps
set_option maxRecDepth 100000

abbrev DM := DataW Unit
def keyL (s : ByteArray) : Lit := .string s.data.toList
theorem keyL_lit (s : ByteArray) : WideAt.IsKeyLit (keyL s) := trivial
theorem keyL_inj {s t : ByteArray} (h : keyL s = keyL t) : (s.toList == t.toList) = true := by
  unfold keyL at h
  injection h with h
  have : s = t := by
    cases s; cases t
    simp only at h
    rw [ByteArray.mk.injEq]
    exact Array.toList_inj.1 h
  rw [this]; exact beq_self_eq_true _
theorem keyL_of {s t : ByteArray} (h : (s.toList == t.toList) = true) : keyL s = keyL t := by
  have h' : s.toList = t.toList := by simpa using h
  rw [ByteArray.toList_eq, ByteArray.toList_eq] at h'
  unfold keyL
  rw [h']
theorem keyL_ne {s t : ByteArray} (h : (s.toList == t.toList) = false) : keyL s ≠ keyL t := fun e => by rw [keyL_inj e] at h; cases h

/-- The map of a list whose first place is i. -/
def nameMap : Nat → List PointD → DM
  | _, [] => .map []
  | i, x :: l => (nameMap (i + 1) l).put (keyL x.name) (.lit (.int .i64 (i : Int)))
def putOne (D : DM) (x : Nat × PointD) : DM := D.put (keyL x.2.name) (.lit (.int .i64 (x.1 : Int)))
def putAll (ys : List (Nat × PointD)) : DM := ys.foldl putOne (.map [])
theorem putAll_snoc (ys : List (Nat × PointD)) (x : Nat × PointD) : putAll (ys ++ [x]) = (putAll ys).put (keyL x.2.name) (.lit (.int .i64 (x.1 : Int))) := by unfold putAll; rw [List.foldl_append]; rfl

/-- The last j points of l, from the last one back. -/
inductive BackOf (l : List PointD) : Nat → List (Nat × PointD) → Prop
  | nil : BackOf l 0 []
  | snoc {j : Nat} {ys : List (Nat × PointD)} {i : Nat} {x : PointD} : BackOf l j ys → i + j + 1 = l.length → l[i]? = some x → BackOf l (j + 1) (ys ++ [(i, x)])
theorem BackOf.len {l : List PointD} {j : Nat} {ys : List (Nat × PointD)} (h : BackOf l j ys) : ys.length = j := by
  induction h with
  | nil => rfl
  | snoc _ _ _ ih => simp [ih]
theorem BackOf.map {l : List PointD} {j : Nat} {ys : List (Nat × PointD)} (h : BackOf l j ys) : putAll ys = nameMap (l.length - j) (l.drop (l.length - j)) := by
  induction h with
  | nil => simp [putAll, nameMap]
  | @snoc j ys i x _ hi hx ih =>
    rw [putAll_snoc, ih]
    have e1 : l.length - (j + 1) = i := by omega
    have e2 : l.length - j = i + 1 := by omega
    rw [e1, e2]
    obtain ⟨hlt, rfl⟩ := List.getElem?_eq_some_iff.1 hx
    rw [List.drop_eq_getElem_cons hlt]
    rfl
theorem BackOf.all {l : List PointD} {ys : List (Nat × PointD)} (h : BackOf l l.length ys) : putAll ys = nameMap 0 l := by
  have := h.map
  rw [Nat.sub_self, List.drop_zero] at this
  exact this

theorem nameMap_tidy (i : Nat) (l : List PointD) : Tidy (nameMap i l) := by
  induction l generalizing i with
  | nil => exact tidy_empty
  | cons x l ih => exact (ih (i + 1)).put (keyL_lit _) _
def hasName (l : List PointD) (s : ByteArray) : Bool := l.any fun p => p.name.toList == s.toList
theorem nameMap_has (i : Nat) (l : List PointD) (s : ByteArray) : has (nameMap i l) (keyL s) = hasName l s := by
  induction l generalizing i with
  | nil => rfl
  | cons x l ih =>
    unfold nameMap hasName
    rw [List.any_cons]
    cases h : x.name.toList == s.toList with
    | true => rw [← keyL_of h, has_put_same (nameMap_tidy _ _).isMap (keyL_lit _)]; rfl
    | false => rw [has_put_other (keyL_ne h).symm, ih]; rfl
theorem nameMap_at (i : Nat) (l : List PointD) (s : ByteArray) (z : DM) : (nameMap i l).atKey (keyL s) z = (match l.findIdx? (fun p => p.name.toList == s.toList) with | some j => .lit (.int .i64 ((i + j : Nat) : Int)) | none => z) := by
  induction l generalizing i with
  | nil => rfl
  | cons x l ih =>
    unfold nameMap
    rw [List.findIdx?_cons]
    cases h : x.name.toList == s.toList with
    | true => rw [← keyL_of h, atKey_put_same (nameMap_tidy _ _).isMap (keyL_lit _)]; simp
    | false =>
      rw [atKey_put_other (keyL_ne h).symm, ih]
      cases l.findIdx? (fun p => p.name.toList == s.toList) with
      | none => simp
      | some j => simp; omega
theorem hasName_idx (l : List PointD) (s : ByteArray) : hasName l s = (l.findIdx? (fun p => p.name.toList == s.toList)).isSome := by
  unfold hasName; rw [← List.findIdx?_isSome]
/-- No two points bear one name. -/
def NmApart (l : List PointD) : Prop := l.Pairwise fun p q => (p.name.toList == q.name.toList) = false
theorem hasName_false {l : List PointD} {s : ByteArray} : hasName l s = false ↔ ∀ q ∈ l, (q.name.toList == s.toList) = false := by
  unfold hasName; rw [List.any_eq_false]; simp
theorem beq_swap (a b : List UInt8) : (a == b) = (b == a) := BEq.comm
theorem nameMap_size (i : Nat) (l : List PointD) : size (nameMap i l) ≤ l.length ∧ (size (nameMap i l) = l.length ↔ NmApart l) := by
  induction l generalizing i with
  | nil => exact ⟨Nat.le_refl _, ⟨fun _ => List.Pairwise.nil, fun _ => rfl⟩⟩
  | cons x l ih =>
    obtain ⟨h1, h2⟩ := ih (i + 1)
    unfold nameMap NmApart
    rw [size_put (nameMap_tidy _ _), nameMap_has, List.length_cons, List.pairwise_cons]
    cases h : hasName l x.name with
    | true =>
      simp only [if_true]
      refine ⟨by omega, ⟨fun e => by omega, fun e => ?_⟩⟩
      have : hasName l x.name = false := hasName_false.2 fun q hq => by rw [beq_swap]; exact e.1 q hq
      rw [h] at this; cases this
    | false =>
      simp only [Bool.false_eq_true, if_false]
      refine ⟨by omega, ⟨fun e => ⟨fun q hq => by rw [beq_swap]; exact hasName_false.1 h q hq, h2.1 (by omega)⟩, fun e => by have := h2.2 e.2; omega⟩⟩
theorem namedI_idx (l : List PointD) (s : ByteArray) : (has (nameMap 0 l) (keyL s) = true ∧ (nameMap 0 l).atKey (keyL s) (.lit (.int .i64 0)) = .lit (.int .i64 (namedI l s))) ∨ (has (nameMap 0 l) (keyL s) = false ∧ namedI l s = -1) := by
  rw [nameMap_has, nameMap_at, hasName_idx]
  unfold namedI
  cases l.findIdx? (fun p => p.name.toList == s.toList) with
  | none => exact .inr ⟨rfl, rfl⟩
  | some j => exact .inl ⟨rfl, by simp⟩
/-- All points are as they should be: all names are names, and no two are one. -/
def ptsB (l : List PointD) : Bool := decide (l.length ≤ 8) && (List.range l.length).all (ptOk l)
theorem ptsB_long {l : List PointD} (h : 8 < l.length) : ptsB l = false := by unfold ptsB; rw [decide_eq_false (by omega)]; rfl
theorem ptsB_iff {l : List PointD} (h8 : l.length ≤ 8) : ptsB l = true ↔ (∀ x ∈ l, nameB x.name = true) ∧ NmApart l := by
  unfold ptsB
  rw [decide_eq_true h8, Bool.true_and, List.all_eq_true]
  constructor
  · intro h
    have h' : ∀ (k : Nat) (x : PointD), l[k]? = some x → nameB x.name = true ∧ namedI l x.name = (k : Int) := fun k x hx => by
      have := h k (List.mem_range.2 (List.getElem?_eq_some_iff.1 hx).1)
      rw [ptOk_at hx, Bool.and_eq_true] at this
      exact ⟨this.1, by simpa using this.2⟩
    refine ⟨fun x hx => ?_, ?_⟩
    · obtain ⟨k, hk⟩ := List.getElem?_of_mem hx
      exact (h' k x hk).1
    · unfold NmApart
      rw [List.pairwise_iff_getElem]
      intro i j hi hj hij
      cases e : (l[i].name.toList == l[j].name.toList) with
      | false => rfl
      | true =>
        have e1 := (h' i _ (List.getElem?_eq_getElem hi)).2
        have e2 := (h' j _ (List.getElem?_eq_getElem hj)).2
        have e3 : l[i].name.toList = l[j].name.toList := by simpa using e
        unfold namedI at e1 e2
        rw [e3] at e1
        rw [e1] at e2
        omega
  · rintro ⟨h1, h2⟩ k hk
    have hk' := List.mem_range.1 hk
    rw [ptOk_at (List.getElem?_eq_getElem hk'), h1 _ (List.getElem_mem hk'), Bool.true_and]
    have : namedI l l[k].name = (k : Int) := namedI_at (x := l[k]) (fun j hj y hy => by
      obtain ⟨hjl, rfl⟩ := List.getElem?_eq_some_iff.1 hy
      exact (List.pairwise_iff_getElem.1 h2) j k hjl hk' hj) (List.getElem?_eq_getElem hk') (by simp)
    rw [this]; simp
/-- Every key that the map holds is a name, as far as the keys of 'left' are not meant. -/
def Named (l : List PointD) (left : Lit → Bool) : Prop := ∀ x ∈ l, nameB x.name = false → left (keyL x.name) = true
theorem Named.start (l : List PointD) : Named l (has (nameMap 0 l)) := fun x hx _ => by
  rw [nameMap_has]
  unfold hasName
  exact List.any_eq_true.2 ⟨x, hx, by simp⟩
theorem Named.next {l : List PointD} {left : Lit → Bool} {s : ByteArray} (h : Named l left) (hs : nameB s = true) : Named l (fun z => left z && !z.sameKey (keyL s)) := fun x hx hn => by
  show (left (keyL x.name) && !(keyL x.name).sameKey (keyL s)) = true
  rw [h x hx hn, Bool.true_and]
  have : keyL x.name ≠ keyL s := fun e => by
    have e' : x.name.toList = s.toList := by simpa using keyL_inj e
    have : x.name = s := by
      cases hx' : x.name; cases hs' : s
      rw [hx', hs'] at e
      unfold keyL at e
      injection e with e
      rw [ByteArray.mk.injEq]
      exact Array.toList_inj.1 e
    rw [this, hs] at hn; cases hn
  rw [sameKey_ne this]; rfl
theorem Named.stop {l : List PointD} {left : Lit → Bool} (h : Named l left) (h0 : ∀ kl, left kl = false) : ∀ x ∈ l, nameB x.name = true := fun x hx => by
  cases hn : nameB x.name with
  | true => rfl
  | false => have := h x hx hn; rw [h0] at this; cases this
theorem ptsB_no {l : List PointD} {s : ByteArray} (hh : has (nameMap 0 l) (keyL s) = true) (hs : nameB s = false) : ptsB l = false := by
  by_cases h8 : l.length ≤ 8
  · cases hp : ptsB l with
    | false => rfl
    | true =>
      rw [nameMap_has] at hh
      obtain ⟨x, hx, he⟩ := List.any_eq_true.1 hh
      have h1 := ((ptsB_iff h8).1 hp).1 x hx
      have : x.name = s := by
        have e := keyL_of he
        cases hx' : x.name; cases hs' : s
        rw [hx', hs'] at e
        unfold keyL at e
        injection e with e
        rw [ByteArray.mk.injEq]
        exact Array.toList_inj.1 e
      rw [this, hs] at h1; cases h1
  · exact ptsB_long (by omega)
theorem ptsB_end {l : List PointD} (h8 : l.length ≤ 8) (hn : ∀ x ∈ l, nameB x.name = true) : ptsB l = decide (size (nameMap 0 l) = l.length) := by
  rw [Bool.eq_iff_iff, ptsB_iff h8, decide_eq_true_iff, (nameMap_size 0 l).2]
  exact ⟨fun h => h.2, fun h => ⟨hn, h⟩⟩
end Go.Proofs.Ytpglaffmmddcdaa
