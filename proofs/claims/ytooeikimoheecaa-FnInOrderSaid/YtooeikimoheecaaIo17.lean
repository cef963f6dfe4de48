
/- What InOrderLaw rests on, part 17: contracts and mathematics. -/
import Derived.Test.YtooeikimoheecaaIo15
import Derived.Test.YtooeikimoheecaaIo14
import Derived.Test.YtooeikimoheecaaIo0
import Derived.Test.YtooeikimoheecaaIo9
import Derived.Deep.RegionHeld3
import Derived.Test.YtooeikimoheecaaIo16
import Derived.Test.YtooeikimoheecaaIo3
namespace Go.Proofs.Ytooeikimoheecaa
open Go.RowKit
/-- The begins ascend. -/
def Asc (s : List SurgeD) : Prop := ∀ (i j : Nat) (x y : SurgeD), i < j → s[i]? = some x → s[j]? = some y → x.fr < y.fr
theorem asc_pair {s : List SurgeD} : Asc s ↔ s.Pairwise (fun x y => x.fr < y.fr) := by
  constructor
  · intro ha
    rw [List.pairwise_iff_getElem]
    intro i j hi hj hij
    exact ha i j _ _ hij (List.getElem?_eq_getElem hi) (List.getElem?_eq_getElem hj)
  · intro hp i j x y hij hx hy
    rw [List.pairwise_iff_getElem] at hp
    obtain ⟨hi, rfl⟩ := List.getElem?_eq_some_iff.1 hx
    obtain ⟨hj, rfl⟩ := List.getElem?_eq_some_iff.1 hy
    exact hp i j hi hj hij
theorem first_of {s : List SurgeD} (ha : Asc s) (hs : ∀ x ∈ s, surgeB x = true) : FirstFc s s.length := by
  intro k hk
  obtain ⟨x, hx⟩ : ∃ x, s[k]? = some x := ⟨_, List.getElem?_eq_getElem hk⟩
  have hv := hs x (List.mem_of_getElem? hx)
  cases k with
  | zero => exact okB_zero hx hv
  | succ k =>
    obtain ⟨y, hy⟩ : ∃ y, s[k]? = some y := ⟨_, List.getElem?_eq_getElem (by omega)⟩
    rw [okB_succ hx hv hy]
    exact decide_eq_true (ha k (k + 1) y x (by omega) hy hx)
theorem surge_one (x : SurgeD) : ∀ v ∈ x.cells, v.oneCell' = true := fun v hv => by simp at hv; rcases hv with rfl | rfl | rfl <;> rfl
end Go.Proofs.Ytooeikimoheecaa
namespace Go.Proofs.Ytooeikimoheecaa
set_option maxRecDepth 100000
@[reducible] def shipNm (s : ByteArray) (p : ShipD) : Bool := p.name.toList == s.toList
/-- The index of the first ship of a name, or -1. -/
def shipI (l : List ShipD) (s : ByteArray) : Int := firstI (shipNm s) l
def flAt (l : List ShipD) (k : Nat) : Bool := match l[k]? with | some x => shipB x && (shipI l x.name == (k : Int)) | none => true
def fleetB (l : List ShipD) : Bool := decide (l.length ≤ 6) && (List.range l.length).all (flAt l)
def FirstF (l : List ShipD) (k : Nat) : Prop := ∀ j, j < k → flAt l j = true
theorem FirstF.zero (l : List ShipD) : FirstF l 0 := fun j hj => absurd hj (by omega)
theorem FirstF.next {l : List ShipD} {k : Nat} (h : FirstF l k) (hk : flAt l k = true) : FirstF l (k + 1) := fun j hj => by
  by_cases e : j = k
  · subst e; exact hk
  · exact h j (by omega)
theorem flAt_at {l : List ShipD} {k : Nat} {x : ShipD} (hx : l[k]? = some x) : flAt l k = (shipB x && (shipI l x.name == (k : Int))) := by unfold flAt; rw [hx]
theorem fleetB_long {l : List ShipD} (h : 6 < l.length) : fleetB l = false := by unfold fleetB; rw [decide_eq_false (by omega)]; rfl
theorem fleetB_no {l : List ShipD} {k : Nat} (hk : k < l.length) (h : flAt l k = false) : fleetB l = false := by
  unfold fleetB
  rw [List.all_eq_false.2 ⟨k, List.mem_range.2 hk, by rw [h]; simp⟩, Bool.and_false]
theorem fleetB_mk {l : List ShipD} (h : l.length ≤ 6) (h' : FirstF l l.length) : fleetB l = true := by
  unfold fleetB
  rw [decide_eq_true h, List.all_eq_true.2 (fun j hj => h' j (List.mem_range.1 hj))]; rfl
def squatI (d : ShipD) : Int := if shipB d = true then (if d.slow = true then d.draught.tdiv 50 else d.draught.tdiv 20) else 0
end Go.Proofs.Ytooeikimoheecaa
namespace Go.Proofs.Ytooeikimoheecaa
open Go.ChangeShapes Go.WideShapes Go.ChangeAt Go.Deep Go.RowKit
set_option maxRecDepth 100000
/-- The block b holds the forecast of mean m over the slices v and u, which read as l and s. -/
def FBox (w : World) (b : Nat) (m : Int) (v u : Value) (l : List PartD) (s : List SurgeD) : Prop :=
  w.cell? ⟨b, 0, none⟩ = some (.int .i64 m) ∧ w.cell? ⟨b, 1, none⟩ = some v ∧ w.cell? ⟨b, 2, none⟩ = some u ∧ SlP w v l ∧ SlSurge w u s
theorem FBox.below {w w' : World} {b : Nat} {m : Int} {v u : Value} {l : List PartD} {s : List SurgeD} (h : FBox w b m v u l s) (hb : Below w.heap.size w w') : FBox w' b m v u l s := by
  obtain ⟨h0, h1, h2, h3, h4⟩ := h
  exact ⟨(hb.cell (World.block_lt_of_cell? w _ h0)).trans h0, (hb.cell (World.block_lt_of_cell? w _ h1)).trans h1, (hb.cell (World.block_lt_of_cell? w _ h2)).trans h2, h3.below hb, h4.below hb⟩
theorem FBox.new {w : World} {m : Int} {v u : Value} {l : List PartD} {s : List SurgeD} (t : TypeId) (h : SlP w v l) (h' : SlSurge w u s) : FBox (w.alloc (.cells #[.int .i64 m, v, u] t)) w.heap.size m v u l s := by
  refine ⟨?_, ?_, ?_, h.below (Joins.below_alloc1 _ _), h'.below (Joins.below_alloc1 _ _)⟩
  · rw [World.cell?_alloc_at _ _ _ _ rfl]; rfl
  · rw [World.cell?_alloc_at _ _ _ _ rfl]; rfl
  · rw [World.cell?_alloc_at _ _ _ _ rfl]; rfl
section
variable {H : Type} {enc : TypeId × Value → H} {w : World} {base : Nat} {spare : Nat → Bool} {held : Bool}
end
end Go.Proofs.Ytooeikimoheecaa
namespace Go.Proofs.Ytooeikimoheecaa
open Go.RowKit Go.Maps Go.WideMaps
set_option maxRecDepth 100000
set_option maxHeartbeats 4000000 in
theorem implPointsOk (v : Value) (l : List PointD) (w : World) (h : SlPoint w v l) (hwf : ∀ x ∈ l, PointD.wf x) :
    Calls Try.prog 111 #[v] w fun e w' => e = .returned (.bool (ptsB l)) ∧ Below w.heap.size w w' := by
  have HS := Lib.hid h
  have HWF := Lib.hid hwf
  have hl := h.1
  obtain ⟨A, c, rfl⟩ := h.at
  clear h hwf
  by_cases h8 : 8 < l.length
  · have E := Lib.hid (ptsB_long h8)
    go_enter Try.func111, Try.ntmps111
    go_wp2
    go_ret
    exact ⟨ret_bool E.out.symm, Below.refl _ _⟩
  · have H8 := Lib.hid (show l.length ≤ 8 by omega)
    go_enter Try.func111, Try.ntmps111
    go_wp2_with fail
    refine (implFirsts _ l _ HS.out HWF.out).mono ?_
    rintro e w1 ⟨b, rfl, hb, ⟨n, hn, hm⟩, hb1⟩
    have HB1 := Lib.hid hb1
    have hbl := hm.lt
    clear hb1
    go_wp2_with (first
      | (at_range; refine wpList_range_own _ rfl _ 182 rfl 9 3 law_string Try.underlying182 _ b n _ rfl hm ?_; intro w0 hrg0 hg0 hs0)
      | fail)
    go_frame
    have HB0 := Lib.hid (show Below w.heap.size w w0 from HB1.out.grown hg0 HB1.out.size (fun k e => by cases e))
    obtain ⟨r, hr⟩ : ∃ r, w1.heap.size = r := ⟨_, rfl⟩
    rw [hr] at hrg0 ⊢
    have hrw : w.heap.size ≤ r := by have := HB1.out.size; omega
    clear hm hg0 hs0 hr HB1
    go_loopw [4] (fun _ wr => ∃ (left : Lit → Bool) (cnt : Nat), wr.ranges Try.prog 9 (plainElem (H := Unit) Try.prog 3) b r n (nameMap 0 l) left cnt ∧ Hid (Named l left) ∧ Hid (Below w.heap.size w wr)) (fun _ wr => wr.rangeLeft b r)
    case atStart => exact ⟨_, _, hrg0, Lib.hid (Named.start l), HB0⟩
    case round =>
      clear hrg0 HB0
      obtain ⟨left, cnt, hrg, hN, hBr⟩ := hrel
      go_wp2_with (first
        | (at_next; refine wpList_next_ranges _ rfl _ rfl 9 law_string (plainElem Try.prog 3) Value.string (Value.int .i64) (fun key kl hkey => by obtain ⟨s, rfl, _⟩ := string_of_keyOf Try.underlying9 hkey; exact ⟨s, rfl⟩) (fun v y hv => by obtain ⟨c, rfl, _⟩ := plainElem_int_inv Try.underlying3 hv; exact ⟨c, rfl⟩) b r n _ _ _ rfl hrg ?_ ?_)
        | fail)
      · intro _ hl0
        have E := Lib.hid (ptsB_end H8.out (hN.out.stop hl0))
        have hm := hrg.owns
        clear hl0 hN
        have E2 := Lib.hid (show ((((size (nameMap 0 l) : Nat) : Int) == (l.length : Int)) : Bool) = ptsB l by
          rw [E.out, Bool.eq_iff_iff, decide_eq_true_iff, beq_iff_eq]; omega)
        go_wp2_with (first
          | (at_len; refine wpList_len_own _ rfl _ 182 rfl 9 3 Try.underlying182 _ b n _ rfl hm ?_)
          | fail)
        go_ret
        exact ⟨ret_bool E2.out, hBr.out⟩
      · intro s c kl y _ w' cnt' hkey hlk hv hat hrg1 hlt hg1 hs1 hen
        obtain ⟨s', es, rfl, hsz⟩ := string_of_keyOf Try.underlying9 hkey
        cases es
        have HB2 := Lib.hid (show Below w.heap.size w w' from hBr.out.grown hg1 hBr.out.size (fun k e => by cases e; exact hrw))
        have HLK := Lib.hid (show has (nameMap 0 l) (keyL s) = true from has_true_of_atKey hat)
        obtain ⟨bb, hbb⟩ : ∃ bb, nameB s = bb := ⟨_, rfl⟩
        have HBB := Lib.hid hbb
        have hml := hrg.left_eq
        have HSZ := Lib.hid hsz
        clear hkey hlk hv hat hs1 hg1 hsz hbb hBr hrg
        go_wp2_with fail
        refine (implIsName s _ HSZ.out).mono ?_
        rw [HBB.out]
        rintro e w2 ⟨rfl, hb2⟩
        have HB3 := Lib.hid (HB2.out.trans (hb2.mono HB2.out.size))
        have hrg2 := hrg1.kept (grown_of_below hb2 none) (by simp) (by simp)
        clear hb2 HB2 hen hrg1
        cases bb with
        | true =>
          have HN2 := Lib.hid (hN.out.next HBB.out)
          go_wp2
          go_roundw
          case rel => exact ⟨_, cnt', hrg2, HN2, HB3⟩
          case measure => rw [hrg2.left_eq, hml]; exact hlt
        | false =>
          have E := Lib.hid (ptsB_no HLK.out HBB.out)
          go_wp2
          go_ret
          exact ⟨ret_bool E.out.symm, HB3.out⟩
end Go.Proofs.Ytooeikimoheecaa
namespace Go.Proofs.Ytooeikimoheecaa
/-- Windows in time, one behind the other, at least a minute between two. -/
def WOk (l : List WindowD) : Prop := (∀ x ∈ l, 0 ≤ x.fr ∧ x.fr ≤ x.tt ∧ x.tt ≤ 2880) ∧ l.Pairwise (fun x y => x.tt + 1 < y.fr)
theorem WOk.nil : WOk [] := ⟨fun x hx => by simp at hx, List.Pairwise.nil⟩
theorem WOk.of {l : List WindowD} (h : winB l = true) : WOk l := by
  have F := winB_true h
  refine ⟨fun x hx => ?_, ?_⟩
  · obtain ⟨i, hi, e⟩ := List.getElem_of_mem hx
    exact F.time hi (by rw [List.getElem?_eq_getElem hi, e])
  · rw [List.pairwise_iff_getElem]
    intro i j hi hj hij
    induction j with
    | zero => omega
    | succ j ih =>
      have g := F.gap hj (List.getElem?_eq_getElem hj) (List.getElem?_eq_getElem (by omega : j < l.length))
      by_cases e : i = j
      · subst e; exact g
      · have := ih (by omega) (by omega)
        obtain ⟨_, t1, _⟩ := F.time (by omega : j < l.length) (List.getElem?_eq_getElem (by omega : j < l.length))
        omega
theorem WOk.to {l : List WindowD} (h : WOk l) : winB l = true := by
  apply winB_mk
  intro j hj
  have hm := h.1 l[j] (List.getElem_mem hj)
  cases j with
  | zero => exact wokB_zero rfl (List.getElem?_eq_getElem hj) hm
  | succ j =>
    rw [wokB_succ rfl (List.getElem?_eq_getElem hj) (List.getElem?_eq_getElem (by omega : j < l.length)) hm]
    exact decide_eq_true ((List.pairwise_iff_getElem.1 h.2) j (j + 1) (by omega) hj (by omega))
theorem WOk.tail {x : WindowD} {l : List WindowD} (h : WOk (x :: l)) : WOk l := ⟨fun y hy => h.1 y (List.mem_cons_of_mem _ hy), (List.pairwise_cons.1 h.2).2⟩
theorem WOk.head {x : WindowD} {l : List WindowD} (h : WOk (x :: l)) : 0 ≤ x.fr ∧ x.fr ≤ x.tt ∧ x.tt ≤ 2880 := h.1 x List.mem_cons_self
theorem WOk.behind {x y : WindowD} {l : List WindowD} (h : WOk (x :: l)) (hy : y ∈ l) : x.tt + 1 < y.fr := (List.pairwise_cons.1 h.2).1 y hy
/-- The minute lies in one of the windows. -/
def Has (l : List WindowD) (m : Int) : Prop := ∃ x ∈ l, x.fr ≤ m ∧ m ≤ x.tt
theorem has_iff (l : List WindowD) (m : Int) : hasB l m = true ↔ Has l m := by
  unfold hasB Has atB inB
  simp [List.any_eq_true]
theorem Has.nil (m : Int) : ¬ Has [] m := fun ⟨x, hx, _⟩ => by simp at hx
theorem has_cons (x : WindowD) (l : List WindowD) (m : Int) : Has (x :: l) m ↔ (x.fr ≤ m ∧ m ≤ x.tt) ∨ Has l m := by
  unfold Has; simp
theorem has_append (a b : List WindowD) (m : Int) : Has (a ++ b) m ↔ Has a m ∨ Has b m := by
  unfold Has; simp [or_and_right, exists_or]
theorem has_one (x : WindowD) (m : Int) : Has [x] m ↔ x.fr ≤ m ∧ m ≤ x.tt := by unfold Has; simp
theorem Has.time {l : List WindowD} {m : Int} (hl : WOk l) (h : Has l m) : 0 ≤ m ∧ m ≤ 2880 := by
  obtain ⟨x, hx, h1, h2⟩ := h
  obtain ⟨t0, t1, t2⟩ := hl.1 x hx
  omega
theorem Has.late {x : WindowD} {l : List WindowD} (h : WOk (x :: l)) {m : Int} (hm : Has l m) : x.tt + 1 < m := by
  obtain ⟨y, hy, h1, _⟩ := hm
  have := h.behind hy
  omega
/-- Valid lists with the same minutes are the same. -/
theorem WOk.ext {a b : List WindowD} (ha : WOk a) (hb : WOk b) (h : ∀ m, Has a m ↔ Has b m) : a = b := by
  induction a generalizing b with
  | nil =>
    cases b with
    | nil => rfl
    | cons y b =>
      have := hb.head
      exact absurd ((h y.fr).2 ((has_cons _ _ _).2 (.inl ⟨by omega, by omega⟩))) (Has.nil _)
  | cons x a ih =>
    have hx := ha.head
    cases b with
    | nil => exact absurd ((h x.fr).1 ((has_cons _ _ _).2 (.inl ⟨by omega, by omega⟩))) (Has.nil _)
    | cons y b =>
      have hy := hb.head
      have e1 : x.fr = y.fr := by
        have p := (has_cons _ _ _).1 ((h x.fr).1 ((has_cons _ _ _).2 (.inl ⟨by omega, by omega⟩)))
        have q := (has_cons _ _ _).1 ((h y.fr).2 ((has_cons _ _ _).2 (.inl ⟨by omega, by omega⟩)))
        have p' : y.fr ≤ x.fr := by
          rcases p with p | p
          · exact p.1
          · have := Has.late hb p; omega
        have q' : x.fr ≤ y.fr := by
          rcases q with q | q
          · exact q.1
          · have := Has.late ha q; omega
        omega
      have e2 : x.tt = y.tt := by
        rcases Int.lt_trichotomy x.tt y.tt with hlt | he | hlt
        · have q := (has_cons _ _ _).1 ((h (x.tt + 1)).2 ((has_cons _ _ _).2 (.inl ⟨by omega, by omega⟩)))
          rcases q with q | q
          · omega
          · have := Has.late ha q; omega
        · exact he
        · have q := (has_cons _ _ _).1 ((h (y.tt + 1)).1 ((has_cons _ _ _).2 (.inl ⟨by omega, by omega⟩)))
          rcases q with q | q
          · omega
          · have := Has.late hb q; omega
      have e : x = y := by cases x; cases y; simp_all
      subst e
      rw [ih ha.tail hb.tail fun m => ⟨fun hm => ?_, fun hm => ?_⟩]
      · have hl := Has.late ha hm
        rcases (has_cons _ _ _).1 ((h m).1 ((has_cons _ _ _).2 (.inr hm))) with p | p
        · omega
        · exact p
      · have hl := Has.late hb hm
        rcases (has_cons _ _ _).1 ((h m).2 ((has_cons _ _ _).2 (.inr hm))) with p | p
        · omega
        · exact p
/-- A window behind all others. -/
theorem WOk.snoc {l : List WindowD} {x : WindowD} (h : WOk l) (hx : 0 ≤ x.fr ∧ x.fr ≤ x.tt ∧ x.tt ≤ 2880) (hl : ∀ y ∈ l, y.tt + 1 < x.fr) : WOk (l ++ [x]) := by
  refine ⟨fun y hy => ?_, ?_⟩
  · rcases List.mem_append.1 hy with hy | hy
    · exact h.1 y hy
    · rw [List.mem_singleton.1 hy]; exact hx
  · rw [List.pairwise_append]
    refine ⟨h.2, List.pairwise_singleton _ _, fun a ha b hb => ?_⟩
    rw [List.mem_singleton.1 hb]; exact hl a ha
theorem WOk.init {l : List WindowD} {x : WindowD} (h : WOk (l ++ [x])) : WOk l := ⟨fun y hy => h.1 y (List.mem_append_left _ hy), (List.pairwise_append.1 h.2).1⟩
theorem WOk.last {l : List WindowD} {x : WindowD} (h : WOk (l ++ [x])) : 0 ≤ x.fr ∧ x.fr ≤ x.tt ∧ x.tt ≤ 2880 := h.1 x (by simp)
theorem WOk.ahead {l : List WindowD} {x y : WindowD} (h : WOk (l ++ [x])) (hy : y ∈ l) : y.tt + 1 < x.fr := (List.pairwise_append.1 h.2).2.2 y hy x (by simp)
theorem WOk.ends {l : List WindowD} {x y : WindowD} (h : WOk (l ++ [x])) (hy : y ∈ l ++ [x]) : y.tt ≤ x.tt := by
  rcases List.mem_append.1 hy with hy | hy
  · have := h.ahead hy; have := h.last; omega
  · rw [List.mem_singleton.1 hy]; omega
/-- The windows of marked minutes, as the model builds them: minute k comes to a list. -/
def markStep (acc : List WindowD) (k : Int) : List WindowD :=
  match acc.getLast? with
  | some y => if y.tt = k - 1 then acc.dropLast ++ [⟨y.fr, k⟩] else acc ++ [⟨k, k⟩]
  | none => [⟨k, k⟩]
def ofMarks (f : Nat → Bool) : Nat → List WindowD
  | 0 => []
  | k + 1 => if f k = true then markStep (ofMarks f k) k else ofMarks f k
theorem ofMarks_no {f : Nat → Bool} {k : Nat} (h : f k = false) : ofMarks f (k + 1) = ofMarks f k := by simp [ofMarks, h]
theorem ofMarks_yes {f : Nat → Bool} {k : Nat} (h : f k = true) : ofMarks f (k + 1) = markStep (ofMarks f k) k := by simp [ofMarks, h]
theorem markStep_nil (k : Int) : markStep [] k = [⟨k, k⟩] := rfl
theorem markStep_join {acc : List WindowD} {y : WindowD} {k : Int} (h : y.tt = k - 1) : markStep (acc ++ [y]) k = acc ++ [⟨y.fr, k⟩] := by simp [markStep, h]
theorem markStep_apart {acc : List WindowD} {y : WindowD} {k : Int} (h : y.tt ≠ k - 1) : markStep (acc ++ [y]) k = acc ++ [y] ++ [⟨k, k⟩] := by simp [markStep, h]
theorem snoc_or (l : List WindowD) : l = [] ∨ ∃ a x, l = a ++ [x] := by
  rcases List.eq_nil_or_concat l with h | ⟨a, x, h⟩
  · exact .inl h
  · exact .inr ⟨a, x, by simpa using h⟩
theorem ofMarks_len (f : Nat → Bool) : ∀ k, (ofMarks f k).length ≤ k := by
  intro k
  induction k with
  | zero => simp [ofMarks]
  | succ k ih =>
    cases hf : f k with
    | false => rw [ofMarks_no hf]; omega
    | true =>
      rw [ofMarks_yes hf]
      rcases snoc_or (ofMarks f k) with e | ⟨a, y, e⟩
      · rw [e, markStep_nil]; simp
      · rw [e] at ih ⊢
        by_cases hy : y.tt = k - 1
        · rw [markStep_join hy]; simp at ih ⊢; omega
        · rw [markStep_apart hy]; simp at ih ⊢; omega
theorem ofMarks_spec (f : Nat → Bool) : ∀ k, k ≤ 2881 → WOk (ofMarks f k) ∧ ∀ m : Int, Has (ofMarks f k) m ↔ ∃ j : Nat, m = j ∧ j < k ∧ f j = true := by
  intro k
  induction k with
  | zero => exact fun _ => ⟨WOk.nil, fun m => ⟨fun h => absurd h (Has.nil _), fun ⟨j, _, hj, _⟩ => by omega⟩⟩
  | succ k ih =>
    intro hk
    obtain ⟨hw, hm⟩ := ih (by omega)
    cases hf : f k with
    | false =>
      rw [ofMarks_no hf]
      refine ⟨hw, fun m => ⟨fun h => ?_, fun ⟨j, e, hj, hj2⟩ => ?_⟩⟩
      · obtain ⟨j, e, hj, hj2⟩ := (hm m).1 h
        exact ⟨j, e, by omega, hj2⟩
      · by_cases e2 : j = k
        · subst e2; rw [hf] at hj2; cases hj2
        · exact (hm m).2 ⟨j, e, by omega, hj2⟩
    | true =>
      rw [ofMarks_yes hf]
      have split : ∀ m : Int, (∃ j : Nat, m = j ∧ j < k + 1 ∧ f j = true) ↔ m = k ∨ Has (ofMarks f k) m := by
        intro m
        rw [hm m]
        constructor
        · rintro ⟨j, e, hj, hj2⟩
          by_cases e2 : j = k
          · left; omega
          · exact .inr ⟨j, e, by omega, hj2⟩
        · rintro (e | ⟨j, e, hj, hj2⟩)
          · exact ⟨k, e, by omega, hf⟩
          · exact ⟨j, e, by omega, hj2⟩
      rcases snoc_or (ofMarks f k) with e | ⟨a, y, e⟩
      · rw [e] at split hw ⊢
        rw [markStep_nil]
        refine ⟨WOk.snoc WOk.nil ⟨by simp, by simp, by simp; omega⟩ (by simp), fun m => ?_⟩
        rw [split m, has_one]
        constructor
        · rintro ⟨h1, h2⟩; simp at h1 h2; left; omega
        · rintro (h | h)
          · simp; omega
          · exact absurd h (Has.nil _)
      · have hyk : y.tt < k := by
          have hy : Has (ofMarks f k) y.tt := by rw [e, has_append, has_one]; rw [e] at hw; have := hw.last; exact .inr ⟨by omega, by omega⟩
          obtain ⟨j, e3, hj, _⟩ := (hm _).1 hy
          omega
        rw [e] at split hw ⊢
        have hl := hw.last
        by_cases hy : y.tt = k - 1
        · rw [markStep_join hy]
          refine ⟨hw.init.snoc ⟨hl.1, by simp; omega, by simp; omega⟩ (fun z hz => hw.ahead hz), fun m => ?_⟩
          rw [split m, has_append, has_append, has_one, has_one]
          simp only
          constructor
          · rintro (h | h)
            · exact .inr (.inl h)
            · by_cases e4 : m = k
              · exact .inl e4
              · exact .inr (.inr ⟨h.1, by omega⟩)
          · rintro (h | h | h)
            · exact .inr ⟨by omega, by omega⟩
            · exact .inl h
            · exact .inr ⟨h.1, by omega⟩
        · rw [markStep_apart hy]
          refine ⟨hw.snoc ⟨by simp, by simp, by simp; omega⟩ (fun z hz => by have := hw.ends hz; simp; omega), fun m => ?_⟩
          rw [split m, has_append (a ++ [y]), has_one]
          simp only
          constructor
          · rintro (h | h)
            · exact .inr h
            · left; omega
          · rintro (h | h)
            · right; omega
            · exact .inl h
/-- Parts in the order of their first minutes, merged one by one, as the program does. -/
def mergeStep (acc : List WindowD) (x : WindowD) : List WindowD :=
  match acc.getLast? with
  | some y => if x.fr ≤ IntKind.i64.wrap (y.tt + 1) then acc.dropLast ++ [⟨y.fr, max y.tt x.tt⟩] else acc ++ [x]
  | none => [x]
def mergeF (xs : List WindowD) : List WindowD := xs.foldl mergeStep []
theorem mergeF_snoc (pre : List WindowD) (x : WindowD) : mergeF (pre ++ [x]) = mergeStep (mergeF pre) x := by simp [mergeF]
theorem mergeStep_nil (x : WindowD) : mergeStep [] x = [x] := rfl
theorem mergeStep_join {acc : List WindowD} {x y : WindowD} (h : x.fr ≤ IntKind.i64.wrap (y.tt + 1)) : mergeStep (acc ++ [y]) x = acc ++ [⟨y.fr, max y.tt x.tt⟩] := by simp [mergeStep, h]
theorem mergeStep_apart {acc : List WindowD} {x y : WindowD} (h : ¬ x.fr ≤ IntKind.i64.wrap (y.tt + 1)) : mergeStep (acc ++ [y]) x = acc ++ [y] ++ [x] := by simp [mergeStep, h]
theorem mergeStep_len (acc : List WindowD) (x : WindowD) : (mergeStep acc x).length ≤ acc.length + 1 := by
  rcases snoc_or acc with e | ⟨a, y, e⟩
  · rw [e, mergeStep_nil]; simp
  · subst e
    by_cases h : x.fr ≤ IntKind.i64.wrap (y.tt + 1)
    · rw [mergeStep_join h]; simp
    · rw [mergeStep_apart h]; simp
theorem snoc_ind {P : List WindowD → Prop} (h0 : P []) (h1 : ∀ xs x, P xs → P (xs ++ [x])) (l : List WindowD) : P l := by
  generalize hn : l.length = n
  induction n generalizing l with
  | zero => rw [List.eq_nil_of_length_eq_zero hn]; exact h0
  | succ n ih =>
    rcases snoc_or l with e | ⟨a, x, e⟩
    · rw [e] at hn; simp at hn
    · subst e
      exact h1 a x (ih a (by simp at hn; omega))
theorem mergeF_len (xs : List WindowD) : (mergeF xs).length ≤ xs.length := by
  refine snoc_ind (P := fun xs => (mergeF xs).length ≤ xs.length) (by simp [mergeF]) (fun xs x ih => ?_) xs
  rw [mergeF_snoc]
  have := mergeStep_len (mergeF xs) x
  simp; omega
theorem wrap_small {n : Int} (h0 : 0 ≤ n) (h1 : n ≤ 100000) : IntKind.i64.wrap n = n := by
  simp [IntKind.wrap, IntKind.bits, IntKind.signed]; omega
theorem mergeF_spec (xs : List WindowD) : xs.Pairwise (fun x y => x.fr ≤ y.fr) → (∀ x ∈ xs, 0 ≤ x.fr ∧ x.fr ≤ x.tt ∧ x.tt ≤ 2880) →
    WOk (mergeF xs) ∧ (∀ m, Has (mergeF xs) m ↔ Has xs m) ∧ ∀ z ∈ mergeF xs, ∃ y ∈ xs, z.fr = y.fr := by
  refine snoc_ind (P := fun xs => xs.Pairwise (fun x y => x.fr ≤ y.fr) → (∀ x ∈ xs, 0 ≤ x.fr ∧ x.fr ≤ x.tt ∧ x.tt ≤ 2880) → WOk (mergeF xs) ∧ (∀ m, Has (mergeF xs) m ↔ Has xs m) ∧ ∀ z ∈ mergeF xs, ∃ y ∈ xs, z.fr = y.fr) ?_ ?_ xs
  · intro _ _
    exact ⟨WOk.nil, fun m => Iff.rfl, fun z hz => by simp [mergeF] at hz⟩
  · intro xs x ih hs ht
    obtain ⟨hw, hm, hf⟩ := ih (List.pairwise_append.1 hs).1 (fun z hz => ht z (List.mem_append_left _ hz))
    have hx := ht x (by simp)
    have hlow : ∀ z ∈ xs, z.fr ≤ x.fr := fun z hz => (List.pairwise_append.1 hs).2.2 z hz x (by simp)
    rw [mergeF_snoc]
    rcases snoc_or (mergeF xs) with e | ⟨a, y, e⟩
    · rw [e, mergeStep_nil]
      rw [e] at hm
      refine ⟨WOk.snoc WOk.nil hx (by simp), fun m => ?_, fun z hz => ⟨x, by simp, by rw [List.mem_singleton.1 hz]⟩⟩
      rw [has_append, ← hm m]
      constructor
      · exact fun h => .inr h
      · rintro (h | h)
        · exact absurd h (Has.nil _)
        · exact h
    · rw [e] at hw hm hf ⊢
      have hl := hw.last
      obtain ⟨y', hy', ey⟩ := hf y (by simp)
      have hyx : y.fr ≤ x.fr := by rw [ey]; exact hlow y' hy'
      have ew := wrap_small (n := y.tt + 1) (by omega) (by omega)
      by_cases h : x.fr ≤ IntKind.i64.wrap (y.tt + 1)
      · rw [mergeStep_join h]
        rw [ew] at h
        refine ⟨hw.init.snoc ⟨hl.1, by simp only; omega, by simp only; omega⟩ (fun z hz => hw.ahead hz), fun m => ?_, fun z hz => ?_⟩
        · rw [has_append, has_append xs, ← hm m, has_append, has_one, has_one, has_one]
          simp only
          constructor
          · rintro (h1 | ⟨h1, h2⟩)
            · exact .inl (.inl h1)
            · by_cases h3 : m ≤ y.tt
              · exact .inl (.inr ⟨h1, h3⟩)
              · exact .inr ⟨by omega, by omega⟩
          · rintro ((h1 | ⟨h1, h2⟩) | ⟨h1, h2⟩)
            · exact .inl h1
            · exact .inr ⟨h1, by omega⟩
            · exact .inr ⟨by omega, by omega⟩
        · rcases List.mem_append.1 hz with hz | hz
          · obtain ⟨q, hq, eq⟩ := hf z (List.mem_append_left _ hz)
            exact ⟨q, List.mem_append_left _ hq, eq⟩
          · rw [List.mem_singleton.1 hz]
            exact ⟨y', List.mem_append_left _ hy', ey⟩
      · rw [mergeStep_apart h]
        rw [ew] at h
        refine ⟨hw.snoc hx (fun z hz => by have := hw.ends hz; omega), fun m => ?_, fun z hz => ?_⟩
        · rw [has_append (a ++ [y]), has_append xs, hm m]
        · rcases List.mem_append.1 hz with hz | hz
          · obtain ⟨q, hq, eq⟩ := hf z hz
            exact ⟨q, List.mem_append_left _ hq, eq⟩
          · rw [List.mem_singleton.1 hz]
            exact ⟨x, by simp, rfl⟩
/-- What the program merges is what the model marks. -/
theorem merge_eq_marks {xs : List WindowD} {f : Nat → Bool} (hs : xs.Pairwise (fun x y => x.fr ≤ y.fr)) (ht : ∀ x ∈ xs, 0 ≤ x.fr ∧ x.fr ≤ x.tt ∧ x.tt ≤ 2880)
    (hf : ∀ j : Nat, j < 2881 → (f j = true ↔ Has xs j)) : mergeF xs = ofMarks f 2881 := by
  obtain ⟨h1, h2, _⟩ := mergeF_spec xs hs ht
  obtain ⟨h3, h4⟩ := ofMarks_spec f 2881 (by omega)
  refine WOk.ext h1 h3 fun m => ?_
  rw [h2, h4]
  constructor
  · intro h
    obtain ⟨x, hx, hx1, hx2⟩ := h
    have := ht x hx
    refine ⟨m.toNat, by omega, by omega, (hf _ (by omega)).2 ⟨x, hx, by omega, by omega⟩⟩
  · rintro ⟨j, e, hj, hj2⟩
    rw [e]
    exact (hf j hj).1 hj2
/-- What two windows have in common. -/
def meet (x y : WindowD) : List WindowD := if max x.fr y.fr ≤ min x.tt y.tt then [⟨max x.fr y.fr, min x.tt y.tt⟩] else []
end Go.Proofs.Ytooeikimoheecaa
