
/- What ExactNeedOf and ExactLevelFor and ExactIsAfloat and ExactMinutesOn rests on, part 7: contracts and mathematics. -/
import Derived.Test.YtpimcbhjkednpaaNl5
import Derived.Test.YtpimcbhjkednpaaNl0
import Derived.StillTailTactics
import Derived.BigQuiet
import Derived.Maps.OwnSet
import Derived.Maps.RangeWalk
import Derived.Maps.OwnIn
import Derived.RangeFuncNested
import Derived.RangeFuncBound
import Derived.RangeFuncCalls
import Derived.RangeFuncLeaves
import Derived.Shelf.Abstract
import Derived.Shelf.RegionOpen
import Derived.WalkKit
import Derived.OwnWalkIn
import Derived.TacticsInMore
import Derived.LoopNIn
import Derived.LoopIn
import Derived.Maps.AppendAt
import Derived.Test.YtpimcbhjkednpaaNl1
namespace Go.Proofs.Ytpimcbhjkednpaa
open Go.RowKit
set_option maxRecDepth 100000
/-- The i-th segment. -/
def segAt (d : ChartD) (i : Int) : Option SegmentD := if 0 ≤ i then d.segs[i.toNat]? else none
theorem segAt_in {d : ChartD} {i : Int} (h : inB i 0 ((d.segs.length : Int) - 1) = true) : ∃ s, segAt d i = some s ∧ d.segs[i.toNat]? = some s ∧ 0 ≤ i ∧ i.toNat < d.segs.length := by
  unfold inB at h
  have h' := of_decide_eq_true h
  refine ⟨d.segs[i.toNat]'(by omega), ?_, List.getElem?_eq_getElem (by omega), h'.1, by omega⟩
  unfold segAt
  rw [if_pos h'.1, List.getElem?_eq_getElem (by omega)]
theorem segAt_out {d : ChartD} {i : Int} (h : inB i 0 ((d.segs.length : Int) - 1) = false) : segAt d i = none := by
  unfold inB at h
  have h' := of_decide_eq_false h
  unfold segAt
  by_cases h0 : 0 ≤ i
  · rw [if_pos h0, List.getElem?_eq_none (by omega)]
  · rw [if_neg h0]
end Go.Proofs.Ytpimcbhjkednpaa
namespace Go.Proofs.Ytpimcbhjkednpaa
open Go.RowKit Go.Maps
set_option maxRecDepth 100000
abbrev DM := DataW Unit
def keyL (s : ByteArray) : Lit := .string s.data.toList
theorem keyL_lit (s : ByteArray) : WideAt.IsKeyLit (keyL s) := trivial
theorem keyL_inj {s t : ByteArray} (h : keyL s = keyL t) : (s.toList == t.toList) = true := by
  unfold keyL at h
  injection h with h
  have : s = t := by
    cases s; cases t
    simp only at h
    rw [ByteArray.mk.injEq]
    exact Array.toList_inj.1 h
  rw [this]; exact beq_self_eq_true _
theorem keyL_of {s t : ByteArray} (h : (s.toList == t.toList) = true) : keyL s = keyL t := by
  have h' : s.toList = t.toList := by simpa using h
  rw [ByteArray.toList_eq, ByteArray.toList_eq] at h'
  unfold keyL
  rw [h']
theorem keyL_ne {s t : ByteArray} (h : (s.toList == t.toList) = false) : keyL s ≠ keyL t := fun e => by rw [keyL_inj e] at h; cases h
/-- The map of a list whose first place is i. -/
def nameMap : Nat → List PointD → DM
  | _, [] => .map []
  | i, x :: l => (nameMap (i + 1) l).put (keyL x.name) (.lit (.int .i64 (i : Int)))
def putOne (D : DM) (x : Nat × PointD) : DM := D.put (keyL x.2.name) (.lit (.int .i64 (x.1 : Int)))
def putAll (ys : List (Nat × PointD)) : DM := ys.foldl putOne (.map [])
theorem putAll_snoc (ys : List (Nat × PointD)) (x : Nat × PointD) : putAll (ys ++ [x]) = (putAll ys).put (keyL x.2.name) (.lit (.int .i64 (x.1 : Int))) := by unfold putAll; rw [List.foldl_append]; rfl
/-- The last j points of l, from the last one back. -/
inductive BackOf (l : List PointD) : Nat → List (Nat × PointD) → Prop
  | nil : BackOf l 0 []
  | snoc {j : Nat} {ys : List (Nat × PointD)} {i : Nat} {x : PointD} : BackOf l j ys → i + j + 1 = l.length → l[i]? = some x → BackOf l (j + 1) (ys ++ [(i, x)])
theorem BackOf.len {l : List PointD} {j : Nat} {ys : List (Nat × PointD)} (h : BackOf l j ys) : ys.length = j := by
  induction h with
  | nil => rfl
  | snoc _ _ _ ih => simp [ih]
theorem BackOf.map {l : List PointD} {j : Nat} {ys : List (Nat × PointD)} (h : BackOf l j ys) : putAll ys = nameMap (l.length - j) (l.drop (l.length - j)) := by
  induction h with
  | nil => simp [putAll, nameMap]
  | @snoc j ys i x _ hi hx ih =>
    rw [putAll_snoc, ih]
    have e1 : l.length - (j + 1) = i := by omega
    have e2 : l.length - j = i + 1 := by omega
    rw [e1, e2]
    obtain ⟨hlt, rfl⟩ := List.getElem?_eq_some_iff.1 hx
    rw [List.drop_eq_getElem_cons hlt]
    rfl
theorem BackOf.all {l : List PointD} {ys : List (Nat × PointD)} (h : BackOf l l.length ys) : putAll ys = nameMap 0 l := by
  have := h.map
  rw [Nat.sub_self, List.drop_zero] at this
  exact this
theorem nameMap_tidy (i : Nat) (l : List PointD) : Tidy (nameMap i l) := by
  induction l generalizing i with
  | nil => exact tidy_empty
  | cons x l ih => exact (ih (i + 1)).put (keyL_lit _) _
def hasName (l : List PointD) (s : ByteArray) : Bool := l.any fun p => p.name.toList == s.toList
theorem nameMap_has (i : Nat) (l : List PointD) (s : ByteArray) : has (nameMap i l) (keyL s) = hasName l s := by
  induction l generalizing i with
  | nil => rfl
  | cons x l ih =>
    unfold nameMap hasName
    rw [List.any_cons]
    cases h : x.name.toList == s.toList with
    | true => rw [← keyL_of h, has_put_same (nameMap_tidy _ _).isMap (keyL_lit _)]; rfl
    | false => rw [has_put_other (keyL_ne h).symm, ih]; rfl
/-- No two points bear one name. -/
def NmApart (l : List PointD) : Prop := l.Pairwise fun p q => (p.name.toList == q.name.toList) = false
theorem hasName_false {l : List PointD} {s : ByteArray} : hasName l s = false ↔ ∀ q ∈ l, (q.name.toList == s.toList) = false := by
  unfold hasName; rw [List.any_eq_false]; simp
theorem beq_swap (a b : List UInt8) : (a == b) = (b == a) := BEq.comm
theorem nameMap_size (i : Nat) (l : List PointD) : size (nameMap i l) ≤ l.length ∧ (size (nameMap i l) = l.length ↔ NmApart l) := by
  induction l generalizing i with
  | nil => exact ⟨Nat.le_refl _, ⟨fun _ => List.Pairwise.nil, fun _ => rfl⟩⟩
  | cons x l ih =>
    obtain ⟨h1, h2⟩ := ih (i + 1)
    unfold nameMap NmApart
    rw [size_put (nameMap_tidy _ _), nameMap_has, List.length_cons, List.pairwise_cons]
    cases h : hasName l x.name with
    | true =>
      simp only [if_true]
      refine ⟨by omega, ⟨fun e => by omega, fun e => ?_⟩⟩
      have : hasName l x.name = false := hasName_false.2 fun q hq => by rw [beq_swap]; exact e.1 q hq
      rw [h] at this; cases this
    | false =>
      simp only [Bool.false_eq_true, if_false]
      refine ⟨by omega, ⟨fun e => ⟨fun q hq => by rw [beq_swap]; exact hasName_false.1 h q hq, h2.1 (by omega)⟩, fun e => by have := h2.2 e.2; omega⟩⟩
/-- All points are as they should be: all names are names, and no two are one. -/
def ptsB (l : List PointD) : Bool := decide (l.length ≤ 8) && (List.range l.length).all (ptOk l)
theorem ptsB_long {l : List PointD} (h : 8 < l.length) : ptsB l = false := by unfold ptsB; rw [decide_eq_false (by omega)]; rfl
theorem ptsB_iff {l : List PointD} (h8 : l.length ≤ 8) : ptsB l = true ↔ (∀ x ∈ l, nameB x.name = true) ∧ NmApart l := by
  unfold ptsB
  rw [decide_eq_true h8, Bool.true_and, List.all_eq_true]
  constructor
  · intro h
    have h' : ∀ (k : Nat) (x : PointD), l[k]? = some x → nameB x.name = true ∧ namedI l x.name = (k : Int) := fun k x hx => by
      have := h k (List.mem_range.2 (List.getElem?_eq_some_iff.1 hx).1)
      rw [ptOk_at hx, Bool.and_eq_true] at this
      exact ⟨this.1, by simpa using this.2⟩
    refine ⟨fun x hx => ?_, ?_⟩
    · obtain ⟨k, hk⟩ := List.getElem?_of_mem hx
      exact (h' k x hk).1
    · unfold NmApart
      rw [List.pairwise_iff_getElem]
      intro i j hi hj hij
      cases e : (l[i].name.toList == l[j].name.toList) with
      | false => rfl
      | true =>
        have e1 := (h' i _ (List.getElem?_eq_getElem hi)).2
        have e2 := (h' j _ (List.getElem?_eq_getElem hj)).2
        have e3 : l[i].name.toList = l[j].name.toList := by simpa using e
        unfold namedI at e1 e2
        rw [e3] at e1
        rw [e1] at e2
        omega
  · rintro ⟨h1, h2⟩ k hk
    have hk' := List.mem_range.1 hk
    rw [ptOk_at (List.getElem?_eq_getElem hk'), h1 _ (List.getElem_mem hk'), Bool.true_and]
    have : namedI l l[k].name = (k : Int) := namedI_at (x := l[k]) (fun j hj y hy => by
      obtain ⟨hjl, rfl⟩ := List.getElem?_eq_some_iff.1 hy
      exact (List.pairwise_iff_getElem.1 h2) j k hjl hk' hj) (List.getElem?_eq_getElem hk') (by simp)
    rw [this]; simp
/-- Every key that the map holds is a name, as far as the keys of 'left' are not meant. -/
def Named (l : List PointD) (left : Lit → Bool) : Prop := ∀ x ∈ l, nameB x.name = false → left (keyL x.name) = true
theorem Named.start (l : List PointD) : Named l (has (nameMap 0 l)) := fun x hx _ => by
  rw [nameMap_has]
  unfold hasName
  exact List.any_eq_true.2 ⟨x, hx, by simp⟩
theorem Named.next {l : List PointD} {left : Lit → Bool} {s : ByteArray} (h : Named l left) (hs : nameB s = true) : Named l (fun z => left z && !z.sameKey (keyL s)) := fun x hx hn => by
  show (left (keyL x.name) && !(keyL x.name).sameKey (keyL s)) = true
  rw [h x hx hn, Bool.true_and]
  have : keyL x.name ≠ keyL s := fun e => by
    have e' : x.name.toList = s.toList := by simpa using keyL_inj e
    have : x.name = s := by
      cases hx' : x.name; cases hs' : s
      rw [hx', hs'] at e
      unfold keyL at e
      injection e with e
      rw [ByteArray.mk.injEq]
      exact Array.toList_inj.1 e
    rw [this, hs] at hn; cases hn
  rw [sameKey_ne this]; rfl
theorem Named.stop {l : List PointD} {left : Lit → Bool} (h : Named l left) (h0 : ∀ kl, left kl = false) : ∀ x ∈ l, nameB x.name = true := fun x hx => by
  cases hn : nameB x.name with
  | true => rfl
  | false => have := h x hx hn; rw [h0] at this; cases this
theorem ptsB_no {l : List PointD} {s : ByteArray} (hh : has (nameMap 0 l) (keyL s) = true) (hs : nameB s = false) : ptsB l = false := by
  by_cases h8 : l.length ≤ 8
  · cases hp : ptsB l with
    | false => rfl
    | true =>
      rw [nameMap_has] at hh
      obtain ⟨x, hx, he⟩ := List.any_eq_true.1 hh
      have h1 := ((ptsB_iff h8).1 hp).1 x hx
      have : x.name = s := by
        have e := keyL_of he
        cases hx' : x.name; cases hs' : s
        rw [hx', hs'] at e
        unfold keyL at e
        injection e with e
        rw [ByteArray.mk.injEq]
        exact Array.toList_inj.1 e
      rw [this, hs] at h1; cases h1
  · exact ptsB_long (by omega)
theorem ptsB_end {l : List PointD} (h8 : l.length ≤ 8) (hn : ∀ x ∈ l, nameB x.name = true) : ptsB l = decide (size (nameMap 0 l) = l.length) := by
  rw [Bool.eq_iff_iff, ptsB_iff h8, decide_eq_true_iff, (nameMap_size 0 l).2]
  exact ⟨fun h => h.2, fun h => ⟨hn, h⟩⟩
end Go.Proofs.Ytpimcbhjkednpaa
namespace Go.Proofs.Ytpimcbhjkednpaa
open Go.RowKit Go.Shelf Go.Maps Go.WideMaps
set_option maxRecDepth 100000
attribute [local go_sem] Oper.semAt_some
/-- Every block of cells lies as it lay. -/
def KpC (A B : World) : Prop := ∀ (k : Nat) (o : Obj), A.heap[k]? = some o → o.isCells = true → B.heap[k]? = A.heap[k]?
theorem KpC.refl (A : World) : KpC A A := fun _ _ _ _ => rfl
theorem KpC.t {A B C : World} (h : KpC A B) (k : KpC B C) : KpC A C := fun j o hj hc => (k j o ((h j o hj hc).trans hj) hc).trans (h j o hj hc)
theorem KpC.b (W : World) (l : Nat) (o o' : Obj) (h : W.heap[l]? = some o) (h1 : o.isCells = false) : KpC W (W.putObj l o') :=
  fun k u hk hc => World.putObj_heap_other (fun e => by subst e; rw [h] at hk; cases hk; rw [h1] at hc; cases hc)
theorem KpC.alloc (W : World) (o : Obj) : KpC W (W.alloc o) := fun k u hk _ => (World.grownBy_alloc W o none).block k (Array.getElem?_eq_some_iff.1 hk).1 (by simp)
theorem KpC.cell {A B : World} (h : KpC A B) {a : Addr} {v : Value} (hv : A.cell? a = some v) : B.cell? a = some v := by
  obtain ⟨o, ho, hc⟩ := cells_of_cell hv
  exact (World.cell?_of_block (h _ o ho hc)).trans hv
theorem KpC.map {A B : World} {b : Nat} (hg : A.grownBy B (some b)) {o : Obj} (hb : A.heap[b]? = some o) (ho : o.isCells = false) : KpC A B := fun k u hk hc =>
  hg.block k (Array.getElem?_eq_some_iff.1 hk).1 (fun e => by cases e; rw [hb] at hk; cases hk; rw [ho] at hc; cases hc)
abbrev IP := { x : Nat × PointD // x.2.name.size ≤ maxLen ∧ x.1 ≤ 1000000000 }
set_option maxHeartbeats 2000000 in
theorem back1 (v : Value) (l : List PointD) (Bn : Nat) (w : World) (h : SlPoint w v l) (hwf : ∀ x ∈ l, PointD.wf x) (hBn : Bn < w.heap.size) (hc0 : w.cell? ⟨Bn, 0, none⟩ = some v) (n : Nat) (hn : 1 ≤ n) :
    SeqStopsK Fence.wide n Try.prog 111 #[.pointer (some ⟨Bn, 0, none⟩)] (fun x : IP => #[.int .i64 (x.1.1 : Int), .agg #[.string x.1.2.name, .bool x.1.2.wait]]) KpC (fun ys => BackOf l l.length (ys.map Subtype.val)) (fun _ => True) l.length w := by
  intro lp J Jx W hW hJ hJx hY h0
  have hl := h.1
  have HS := Lib.hid (h.below hW)
  have hcW : W.cell? ⟨Bn, 0, none⟩ = some v := (hW.cell (p := ⟨Bn, 0, none⟩) hBn).trans hc0
  obtain ⟨A, c, rfl⟩ := h.at
  have HJ := Lib.hid hJ
  have HY := Lib.hid hY
  have H0 := Lib.hid h0
  have HWF := Lib.hid hwf
  clear hJ hJx hY h0 hW hc0 h hwf
  change CallsIn Fence.wide n Try.prog 111 #[.func (.yield lp) #[] #[], .pointer (some ⟨Bn, 0, none⟩)] W _
  refine callsIn_of_wp Try.func111 rfl trivial ?_ rfl
  simp only [Try.ntmps111, List.size_toArray, List.length_cons, List.length_nil, Nat.reduceAdd, Nat.reduceSub, Array.replicate_succ, Array.replicate_zero, List.push_toArray, List.append_toArray, List.nil_append, List.cons_append]
  gi_wp2
  gi_loopw [3] (fun i wr => ∃ (j : Nat) (acc : List IP) (z : Int), j ≤ l.length ∧ Hid (z + 1 + j = l.length) ∧ i = .int .i64 z ∧ Hid (BackOf l j (acc.map Subtype.val)) ∧ Hid (J acc wr) ∧ Hid (KpC W wr)) (fun i _ => (intOf i + 1).toNat)
  case atStart => exact ⟨0, [], (l.length : Int) - 1, Nat.zero_le _, Lib.hid (by omega), by go_num, Lib.hid .nil, H0, Lib.hid (KpC.refl _)⟩
  case round =>
    obtain ⟨j, acc, z, hj, hE, rfl, hB, hJs, hK⟩ := hrel
    by_cases hlt : j < l.length
    rotate_left
    · obtain rfl : j = l.length := by omega
      obtain rfl : z = -1 := by have := hE.out; omega
      gi_wp2
      go_end0
      exact ⟨⟨_, rfl⟩, .inl ⟨_, hB.out, hJs.out⟩⟩
    · obtain ⟨k, rfl⟩ : ∃ k : Nat, z = (k : Int) := ⟨z.toNat, by have := hE.out; omega⟩
      have hk : k < l.length := by have := hE.out; omega
      obtain ⟨x, hx⟩ : ∃ x, l[k]? = some x := ⟨_, List.getElem?_eq_getElem hk⟩
      have hxw : x.name.size ≤ maxLen := HWF.out x (List.mem_of_getElem? hx)
      have c0 := hK.out.cell hcW
      rcases HS.out.2 with ⟨he, _⟩ | ⟨g, o, c', e, hpos, hcap, hc⟩
      · rw [he] at hk; simp at hk
      · injection e with hA _ hcp
        subst hA hcp
        obtain ⟨p0, p1⟩ := SlPoint.cells hc k x hx
        have a0 := hK.out.cell p0
        have a1 := hK.out.cell p1
        have HX := Lib.hid hx
        have EB := Lib.hid (show BackOf l (j + 1) ((acc ++ [(⟨(k, x), hxw, by show k ≤ 1000000000; omega⟩ : IP)]).map Subtype.val) by rw [List.map_append]; exact BackOf.snoc hB.out (by have := hE.out; omega) hx)
        have hal : acc.length < l.length := by have := hB.out.len; rw [List.length_map] at this; omega
        have hE' := Lib.hid (show ((k : Int) - 1) + 1 + ((j + 1 : Nat) : Int) = l.length by have := hE.out; omega)
        obtain ⟨fn, tmps, assign, body, hy, hR⟩ := HY.out acc (⟨(k, x), hxw, by show k ≤ 1000000000; omega⟩ : IP) wr hJs.out hal
        have HR := Lib.hid hR
        clear hR p0 p1 hc hal HY hx
        dsimp only at hy
        gi_wp2
        refine HR.out.mono ?_
        rintro e W3 (⟨rfl, hJ3, hk3⟩ | ⟨rfl, hJx3⟩)
        · have HK3 := Lib.hid (hK.out.t hk3)
          have H3 := Lib.hid hJ3
          clear hJ3 hk3 hy
          gi_wp2
          go_roundw
          case rel => exact ⟨j + 1, _, (k : Int) - 1, by omega, hE', by go_num, EB, H3, HK3⟩
          case measure => simp [intOf]
        · gi_wp2
          refine bodyPost_ret (results_none rfl _ _ _) rfl ?_
          exact ⟨⟨_, rfl⟩, .inr ⟨_, trivial, hJx3⟩⟩
theorem backward_any (A : Option Addr) (n c : Nat) (w : World) :
    Calls Try.prog 104 #[.slice A n c] w fun e w' => e = .returned (.func (.func 111) #[] #[.pointer (some ⟨w.heap.size, 0, none⟩)]) ∧ w' = w.alloc (.cells #[.slice A n c] 30) := by
  go_enter Try.func104, Try.ntmps104
  go_wp2
  go_ret
  exact ⟨rfl, rfl⟩
theorem law_string : Keyed Try.prog 9 := string_keyed Try.underlying9
theorem putAll_next (pre : List IP) (x : IP) : putAll ((pre ++ [x]).map Subtype.val) = (putAll (pre.map Subtype.val)).put (keyL x.1.2.name) (.lit (.int .i64 (x.1.1 : Int))) := by rw [List.map_append]; exact putAll_snoc _ _
theorem ip_wf (x : IP) : (Lit.int .i64 (x.1.1 : Int)).wf = true := WalkArith.wf_i64 (by have := x.2.2; omega)
/-- A map of its own that is the name map of the points. -/
def OwnsNames (w : World) (b : Nat) (l : List PointD) : Prop := ∃ n, n ≤ 1000000000 ∧ w.ownsMap Try.prog 9 (plainElem Try.prog 3) b n (nameMap 0 l)
set_option maxHeartbeats 4000000 in
theorem implFirsts (v : Value) (l : List PointD) (w : World) (h : SlPoint w v l) (hwf : ∀ x ∈ l, PointD.wf x) :
    Calls Try.prog 96 #[v] w fun e w' => ∃ b, e = .returned (.map (some b)) ∧ w.heap.size ≤ b ∧ OwnsNames w' b l ∧ Below w.heap.size w w' := by
  have HS := Lib.hid h
  have HWF := Lib.hid hwf
  have hl := h.1
  obtain ⟨A, c, rfl⟩ := h.at
  clear h hwf
  have hmm := @run_makeMap Try.prog
  refine (callsIn_wide (n := 9)).1 ?_
  refine callsIn_of_wp_marks Try.func96 rfl trivial ?_ rfl
  simp only [Try.ntmps96, List.size_toArray, List.length_cons, List.length_nil, Nat.reduceAdd, Nat.reduceSub, Array.replicate_succ, Array.replicate_zero, List.push_toArray, List.append_toArray, List.nil_append, List.cons_append]
  gi_wp2_with (refine ⟨trivial, ?_⟩; gi_at_call 104; refine (callsIn_wide.2 (backward_any _ _ _ _)).mono ?_; rintro e w' ⟨rfl, rfl⟩)
  obtain ⟨W0, hW0⟩ : ∃ W0, W0 = (((w.alloc (.map #[] 0)).alloc (.cells #[.map (some w.heap.size)] 136)).alloc (.cells #[.slice A l.length c] 30)) := ⟨_, rfl⟩
  rw [← hW0]
  have hsz : W0.heap.size = w.heap.size + 1 + 1 + 1 := by rw [hW0]; simp
  have hB0 : Below w.heap.size w W0 := by rw [hW0]; exact (((Below.refl _ w).alloc (Nat.le_refl _) _).alloc (by simp) _).alloc (by simp; omega) _
  have bM : Boxed W0 (w.heap.size + 1) 136 (.map (some w.heap.size)) := by
    rw [hW0]
    have b := Boxed.new (w.alloc (.map #[] 0)) 136 (.map (some w.heap.size))
    rw [World.size_alloc] at b
    exact b.alloc _
  have bS : W0.cell? ⟨w.heap.size + 1 + 1, 0, none⟩ = some (.slice A l.length c) := by
    rw [hW0]
    have b := Boxed.new ((w.alloc (.map #[] 0)).alloc (.cells #[.map (some w.heap.size)] 136)) 30 (.slice A l.length c)
    rw [World.size_alloc, World.size_alloc] at b
    exact b.cell
  have oM : W0.ownsMap Try.prog 9 (plainElem (H := Unit) Try.prog 3) w.heap.size 0 (.map []) := by
    rw [hW0]
    exact ((World.ownsMap_made w _ _ _).alloc _).alloc _
  clear hW0 hmm
  refine wpIn_rangeFunc_ownH rfl (by omega) (gf := 111) (lb := #[.pointer (some ⟨w.heap.size + 1 + 1, 0, none⟩)]) rfl trivial (enters_of Try.func111 (by kernel_rfl) rfl)
    (back1 _ l (w.heap.size + 1 + 1) W0 (HS.out.below hB0) HWF.out (by omega) bS 8 (by omega)) KpC.t (fun W l o o' _ h h1 _ => KpC.b W l o o' h h1) (Below.refl _ _) (fun _ => rfl)
    (fun (pre : List IP) W => (W.ownsMap Try.prog 9 (plainElem Try.prog 3) w.heap.size pre.length (putAll (pre.map Subtype.val)) ∧ Boxed W (w.heap.size + 1) 136 (.map (some w.heap.size))) ∧ Below w.heap.size w W)
    (fun _ _ _ => False)
    (OwnFrom.and (OwnFrom.and (fun s W W' row hs hg hr => hs.kept hg (fun e => by have := (hr _ e.symm).1; omega)) (Own.from (boxed_own _ _ _) _)) (ownFrom_below (Nat.le_refl _) (by omega)))
    (fun _ _ _ _ _ hs _ _ => hs)
    ⟨⟨oM, bM⟩, hB0⟩
    (fun x a' W => ∃ Bx, Blk W Bx #[.string x.1.2.name, .bool x.1.2.wait] 100 ∧ a' = { tmps := #[.slice A l.length c, undef, .map none, .pointer (some ⟨w.heap.size + 1, 0, none⟩), .int .i64 (x.1.1 : Int), .pointer (some ⟨Bx, 0, none⟩), .map (some w.heap.size), .slice A l.length c, .func (.func 111) #[] #[.pointer (some ⟨w.heap.size + 1 + 1, 0, none⟩)], .int .i64 (x.1.1 : Int), .agg #[.string x.1.2.name, .bool x.1.2.wait], undef, undef, undef, undef, undef], defers := [] })
    (fun x a' _ X Y row hs hg hr => by
      obtain ⟨Bx, h2, h3⟩ := hs
      exact ⟨Bx, h2.grown hg (fun e' => by obtain ⟨_, o, ho, hc⟩ := hr Bx e'.symm; rw [show X.heap[Bx]? = _ from h2] at ho; cases ho; cases hc), h3⟩)
    ?assign ?body ?done ?stop
  case assign =>
    rintro lp pre x W K ⟨⟨hm, hbx⟩, hB1⟩ hK
    gi_wp2
    exact hK _ _ ((KeepsOthers.alloc _ _).from _) (KpC.alloc _ _) ⟨⟨hm.alloc _, hbx.alloc _⟩, hB1.alloc hB1.size _⟩ ⟨W.heap.size, Blk.new W _ _, rfl⟩
  case body =>
    rintro lp pre x a' W hl' ⟨r, hr⟩ ⟨⟨hm, hbx⟩, hB⟩ ⟨Bx, bX, rfl⟩ hlt
    have hc := hbx.cell
    have c0 : W.cell? ⟨Bx, 0, none⟩ = some (.string x.1.2.name) := bX.cell 0
    have c1 : W.cell? ⟨Bx, 1, none⟩ = some (.bool x.1.2.wait) := bX.cell 1
    have hpl : pre.length < maxLen := by unfold maxLen; omega
    obtain ⟨ob, hob, hoc⟩ : ∃ ob, W.heap[w.heap.size]? = some ob ∧ ob.isCells = false := by obtain ⟨es, clock, hb, _⟩ := hm; exact ⟨_, hb, rfl⟩
    have hkx := keyOf_string_mk Try.underlying9 x.2.1
    have hux := Try.underlying136
    have hpx := plainElem_int (H := Unit) Try.underlying3 (ip_wf x)
    gi_wp2_with (gi_at_mapUpdate; refine wpListIn_mapUpdate_own _ rfl _ _ _ 136 rfl 9 3 law_string Try.underlying136 _ w.heap.size pre.length _ rfl hm hpl _ _ _ rfl rfl (keyOf_string_mk Try.underlying9 x.2.1) _ [] (plainElem_int Try.underlying3 (ip_wf x)) ?_; intro w1 hown1 hgrow1)
    exact ⟨KeepsFrom.of_grownBy hgrow1 (fun j e => by cases e; omega), KpC.map hgrow1 hob hoc, ⟨⟨by rw [putAll_next, List.length_append]; exact hown1, hbx.kept hgrow1 (fun e => by injection e with e; omega)⟩, hB.grown hgrow1 hB.size (fun k e => by cases e; exact Nat.le_refl _)⟩⟩
  case done =>
    rintro D ys W hD hS ⟨⟨hm, hbx⟩, hB⟩ hK
    have hc := hbx.cell
    have hyl : ys.length = l.length := by have := hS.len; rw [List.length_map] at this; exact this
    rw [hS.all, hyl] at hm
    have hE := Lib.hid hyl
    clear hyl hS
    gi_wp2
    refine ⟨by simp, .inl ⟨_, _, rfl, run_takeDeferred hK, ?_⟩⟩
    exact ⟨_, results_tmp rfl _ _ _, _, rfl, Nat.le_refl _, ⟨l.length, hl, hm.kept (grownBy_putObj' W D _) (fun e => by injection e with e; omega)⟩, hB.trans (belowK_b (w := w) (Nat.le_refl _) W D _ _ (by omega) hK rfl rfl)⟩
  case stop =>
    rintro D c pre W _ _ h _
    exact h.elim
end Go.Proofs.Ytpimcbhjkednpaa
namespace Go.Proofs.Ytpimcbhjkednpaa
open Go.RowKit Go.Maps Go.WideMaps
set_option maxRecDepth 100000
set_option maxHeartbeats 4000000 in
theorem implPointsOk (v : Value) (l : List PointD) (w : World) (h : SlPoint w v l) (hwf : ∀ x ∈ l, PointD.wf x) :
    Calls Try.prog 84 #[v] w fun e w' => e = .returned (.bool (ptsB l)) ∧ Below w.heap.size w w' := by
  have HS := Lib.hid h
  have HWF := Lib.hid hwf
  have hl := h.1
  obtain ⟨A, c, rfl⟩ := h.at
  clear h hwf
  by_cases h8 : 8 < l.length
  · have E := Lib.hid (ptsB_long h8)
    go_enter Try.func84, Try.ntmps84
    go_wp2
    go_ret
    exact ⟨ret_bool E.out.symm, Below.refl _ _⟩
  · have H8 := Lib.hid (show l.length ≤ 8 by omega)
    go_enter Try.func84, Try.ntmps84
    go_wp2_with fail
    refine (implFirsts _ l _ HS.out HWF.out).mono ?_
    rintro e w1 ⟨b, rfl, hb, ⟨n, hn, hm⟩, hb1⟩
    have HB1 := Lib.hid hb1
    have hbl := hm.lt
    clear hb1
    go_wp2_with (first
      | (at_range; refine wpList_range_own _ rfl _ 136 rfl 9 3 law_string Try.underlying136 _ b n _ rfl hm ?_; intro w0 hrg0 hg0 hs0)
      | fail)
    go_frame
    have HB0 := Lib.hid (show Below w.heap.size w w0 from HB1.out.grown hg0 HB1.out.size (fun k e => by cases e))
    obtain ⟨r, hr⟩ : ∃ r, w1.heap.size = r := ⟨_, rfl⟩
    rw [hr] at hrg0 ⊢
    have hrw : w.heap.size ≤ r := by have := HB1.out.size; omega
    clear hm hg0 hs0 hr HB1
    go_loopw [4] (fun _ wr => ∃ (left : Lit → Bool) (cnt : Nat), wr.ranges Try.prog 9 (plainElem (H := Unit) Try.prog 3) b r n (nameMap 0 l) left cnt ∧ Hid (Named l left) ∧ Hid (Below w.heap.size w wr)) (fun _ wr => wr.rangeLeft b r)
    case atStart => exact ⟨_, _, hrg0, Lib.hid (Named.start l), HB0⟩
    case round =>
      clear hrg0 HB0
      obtain ⟨left, cnt, hrg, hN, hBr⟩ := hrel
      go_wp2_with (first
        | (at_next; refine wpList_next_ranges _ rfl _ rfl 9 law_string (plainElem Try.prog 3) Value.string (Value.int .i64) (fun key kl hkey => by obtain ⟨s, rfl, _⟩ := string_of_keyOf Try.underlying9 hkey; exact ⟨s, rfl⟩) (fun v y hv => by obtain ⟨c, rfl, _⟩ := plainElem_int_inv Try.underlying3 hv; exact ⟨c, rfl⟩) b r n _ _ _ rfl hrg ?_ ?_)
        | fail)
      · intro _ hl0
        have E := Lib.hid (ptsB_end H8.out (hN.out.stop hl0))
        have hm := hrg.owns
        clear hl0 hN
        have E2 := Lib.hid (show ((((size (nameMap 0 l) : Nat) : Int) == (l.length : Int)) : Bool) = ptsB l by
          rw [E.out, Bool.eq_iff_iff, decide_eq_true_iff, beq_iff_eq]; omega)
        go_wp2_with (first
          | (at_len; refine wpList_len_own _ rfl _ 136 rfl 9 3 Try.underlying136 _ b n _ rfl hm ?_)
          | fail)
        go_ret
        exact ⟨ret_bool E2.out, hBr.out⟩
      · intro s c kl y _ w' cnt' hkey hlk hv hat hrg1 hlt hg1 hs1 hen
        obtain ⟨s', es, rfl, hsz⟩ := string_of_keyOf Try.underlying9 hkey
        cases es
        have HB2 := Lib.hid (show Below w.heap.size w w' from hBr.out.grown hg1 hBr.out.size (fun k e => by cases e; exact hrw))
        have HLK := Lib.hid (show has (nameMap 0 l) (keyL s) = true from has_true_of_atKey hat)
        obtain ⟨bb, hbb⟩ : ∃ bb, nameB s = bb := ⟨_, rfl⟩
        have HBB := Lib.hid hbb
        have hml := hrg.left_eq
        have HSZ := Lib.hid hsz
        clear hkey hlk hv hat hs1 hg1 hsz hbb hBr hrg
        go_wp2_with fail
        refine (implIsName s _ HSZ.out).mono ?_
        rw [HBB.out]
        rintro e w2 ⟨rfl, hb2⟩
        have HB3 := Lib.hid (HB2.out.trans (hb2.mono HB2.out.size))
        have hrg2 := hrg1.kept (grown_of_below hb2 none) (by simp) (by simp)
        clear hb2 HB2 hen hrg1
        cases bb with
        | true =>
          have HN2 := Lib.hid (hN.out.next HBB.out)
          go_wp2
          go_roundw
          case rel => exact ⟨_, cnt', hrg2, HN2, HB3⟩
          case measure => rw [hrg2.left_eq, hml]; exact hlt
        | false =>
          have E := Lib.hid (ptsB_no HLK.out HBB.out)
          go_wp2
          go_ret
          exact ⟨ret_bool E.out.symm, HB3.out⟩
end Go.Proofs.Ytpimcbhjkednpaa
