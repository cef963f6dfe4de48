
/- What InOrderLaw rests on, part 16: contracts and mathematics. -/
import Derived.RangeFuncNested
import Derived.RangeFuncBound
import Derived.RangeFuncCalls
import Derived.RangeFuncLeaves
import Derived.Shelf.Abstract
import Derived.Shelf.RegionOpen
import Derived.WalkKit
import Derived.OwnWalkIn
import Derived.TacticsInMore
import Derived.LoopNIn
import Derived.LoopIn
import Derived.Maps.AppendAt
import Derived.Test.YtooeikimoheecaaIo14
import Derived.Test.YtooeikimoheecaaIo15
import Derived.Test.YtooeikimoheecaaIo3
import Derived.StillTailTactics
import Derived.Deep.AppendLies
namespace Go.Proofs.Ytooeikimoheecaa
open Go.RowKit Go.Shelf Go.Maps Go.WideMaps
set_option maxRecDepth 100000
attribute [local go_sem] Oper.semAt_some
/-- Every block of cells lies as it lay. -/
def KpC (A B : World) : Prop := ∀ (k : Nat) (o : Obj), A.heap[k]? = some o → o.isCells = true → B.heap[k]? = A.heap[k]?
theorem KpC.refl (A : World) : KpC A A := fun _ _ _ _ => rfl
theorem KpC.t {A B C : World} (h : KpC A B) (k : KpC B C) : KpC A C := fun j o hj hc => (k j o ((h j o hj hc).trans hj) hc).trans (h j o hj hc)
theorem KpC.b (W : World) (l : Nat) (o o' : Obj) (h : W.heap[l]? = some o) (h1 : o.isCells = false) : KpC W (W.putObj l o') :=
  fun k u hk hc => World.putObj_heap_other (fun e => by subst e; rw [h] at hk; cases hk; rw [h1] at hc; cases hc)
theorem KpC.alloc (W : World) (o : Obj) : KpC W (W.alloc o) := fun k u hk _ => (World.grownBy_alloc W o none).block k (Array.getElem?_eq_some_iff.1 hk).1 (by simp)
theorem KpC.cell {A B : World} (h : KpC A B) {a : Addr} {v : Value} (hv : A.cell? a = some v) : B.cell? a = some v := by
  obtain ⟨o, ho, hc⟩ := cells_of_cell hv
  exact (World.cell?_of_block (h _ o ho hc)).trans hv
theorem KpC.map {A B : World} {b : Nat} (hg : A.grownBy B (some b)) {o : Obj} (hb : A.heap[b]? = some o) (ho : o.isCells = false) : KpC A B := fun k u hk hc =>
  hg.block k (Array.getElem?_eq_some_iff.1 hk).1 (fun e => by cases e; rw [hb] at hk; cases hk; rw [ho] at hc; cases hc)
abbrev IP := { x : Nat × PointD // x.2.name.size ≤ maxLen ∧ x.1 ≤ 1000000000 }
set_option maxHeartbeats 2000000 in
theorem back1 (v : Value) (l : List PointD) (Bn : Nat) (w : World) (h : SlPoint w v l) (hwf : ∀ x ∈ l, PointD.wf x) (hBn : Bn < w.heap.size) (hc0 : w.cell? ⟨Bn, 0, none⟩ = some v) (n : Nat) (hn : 1 ≤ n) :
    SeqStopsK Fence.wide n Try.prog 142 #[.pointer (some ⟨Bn, 0, none⟩)] (fun x : IP => #[.int .i64 (x.1.1 : Int), .agg #[.string x.1.2.name, .bool x.1.2.wait]]) KpC (fun ys => BackOf l l.length (ys.map Subtype.val)) (fun _ => True) l.length w := by
  intro lp J Jx W hW hJ hJx hY h0
  have hl := h.1
  have HS := Lib.hid (h.below hW)
  have hcW : W.cell? ⟨Bn, 0, none⟩ = some v := (hW.cell (p := ⟨Bn, 0, none⟩) hBn).trans hc0
  obtain ⟨A, c, rfl⟩ := h.at
  have HJ := Lib.hid hJ
  have HY := Lib.hid hY
  have H0 := Lib.hid h0
  have HWF := Lib.hid hwf
  clear hJ hJx hY h0 hW hc0 h hwf
  change CallsIn Fence.wide n Try.prog 142 #[.func (.yield lp) #[] #[], .pointer (some ⟨Bn, 0, none⟩)] W _
  refine callsIn_of_wp Try.func142 rfl trivial ?_ rfl
  simp only [Try.ntmps142, List.size_toArray, List.length_cons, List.length_nil, Nat.reduceAdd, Nat.reduceSub, Array.replicate_succ, Array.replicate_zero, List.push_toArray, List.append_toArray, List.nil_append, List.cons_append]
  gi_wp2
  gi_loopw [3] (fun i wr => ∃ (j : Nat) (acc : List IP) (z : Int), j ≤ l.length ∧ Hid (z + 1 + j = l.length) ∧ i = .int .i64 z ∧ Hid (BackOf l j (acc.map Subtype.val)) ∧ Hid (J acc wr) ∧ Hid (KpC W wr)) (fun i _ => (intOf i + 1).toNat)
  case atStart => exact ⟨0, [], (l.length : Int) - 1, Nat.zero_le _, Lib.hid (by omega), by go_num, Lib.hid .nil, H0, Lib.hid (KpC.refl _)⟩
  case round =>
    obtain ⟨j, acc, z, hj, hE, rfl, hB, hJs, hK⟩ := hrel
    by_cases hlt : j < l.length
    rotate_left
    · obtain rfl : j = l.length := by omega
      obtain rfl : z = -1 := by have := hE.out; omega
      gi_wp2
      go_end0
      exact ⟨⟨_, rfl⟩, .inl ⟨_, hB.out, hJs.out⟩⟩
    · obtain ⟨k, rfl⟩ : ∃ k : Nat, z = (k : Int) := ⟨z.toNat, by have := hE.out; omega⟩
      have hk : k < l.length := by have := hE.out; omega
      obtain ⟨x, hx⟩ : ∃ x, l[k]? = some x := ⟨_, List.getElem?_eq_getElem hk⟩
      have hxw : x.name.size ≤ maxLen := HWF.out x (List.mem_of_getElem? hx)
      have c0 := hK.out.cell hcW
      rcases HS.out.2 with ⟨he, _⟩ | ⟨g, o, c', e, hpos, hcap, hc⟩
      · rw [he] at hk; simp at hk
      · injection e with hA _ hcp
        subst hA hcp
        obtain ⟨p0, p1⟩ := SlPoint.cells hc k x hx
        have a0 := hK.out.cell p0
        have a1 := hK.out.cell p1
        have HX := Lib.hid hx
        have EB := Lib.hid (show BackOf l (j + 1) ((acc ++ [(⟨(k, x), hxw, by show k ≤ 1000000000; omega⟩ : IP)]).map Subtype.val) by rw [List.map_append]; exact BackOf.snoc hB.out (by have := hE.out; omega) hx)
        have hal : acc.length < l.length := by have := hB.out.len; rw [List.length_map] at this; omega
        have hE' := Lib.hid (show ((k : Int) - 1) + 1 + ((j + 1 : Nat) : Int) = l.length by have := hE.out; omega)
        obtain ⟨fn, tmps, assign, body, hy, hR⟩ := HY.out acc (⟨(k, x), hxw, by show k ≤ 1000000000; omega⟩ : IP) wr hJs.out hal
        have HR := Lib.hid hR
        clear hR p0 p1 hc hal HY hx
        dsimp only at hy
        gi_wp2
        refine HR.out.mono ?_
        rintro e W3 (⟨rfl, hJ3, hk3⟩ | ⟨rfl, hJx3⟩)
        · have HK3 := Lib.hid (hK.out.t hk3)
          have H3 := Lib.hid hJ3
          clear hJ3 hk3 hy
          gi_wp2
          go_roundw
          case rel => exact ⟨j + 1, _, (k : Int) - 1, by omega, hE', by go_num, EB, H3, HK3⟩
          case measure => simp [intOf]
        · gi_wp2
          refine bodyPost_ret (results_none rfl _ _ _) rfl ?_
          exact ⟨⟨_, rfl⟩, .inr ⟨_, trivial, hJx3⟩⟩
theorem backward_any (A : Option Addr) (n c : Nat) (w : World) :
    Calls Try.prog 136 #[.slice A n c] w fun e w' => e = .returned (.func (.func 142) #[] #[.pointer (some ⟨w.heap.size, 0, none⟩)]) ∧ w' = w.alloc (.cells #[.slice A n c] 29) := by
  go_enter Try.func136, Try.ntmps136
  go_wp2
  go_ret
  exact ⟨rfl, rfl⟩
theorem law_string : Keyed Try.prog 9 := string_keyed Try.underlying9
theorem putAll_next (pre : List IP) (x : IP) : putAll ((pre ++ [x]).map Subtype.val) = (putAll (pre.map Subtype.val)).put (keyL x.1.2.name) (.lit (.int .i64 (x.1.1 : Int))) := by rw [List.map_append]; exact putAll_snoc _ _
theorem ip_wf (x : IP) : (Lit.int .i64 (x.1.1 : Int)).wf = true := WalkArith.wf_i64 (by have := x.2.2; omega)
/-- A map of its own that is the name map of the points. -/
def OwnsNames (w : World) (b : Nat) (l : List PointD) : Prop := ∃ n, n ≤ 1000000000 ∧ w.ownsMap Try.prog 9 (plainElem Try.prog 3) b n (nameMap 0 l)
set_option maxHeartbeats 4000000 in
theorem implFirsts (v : Value) (l : List PointD) (w : World) (h : SlPoint w v l) (hwf : ∀ x ∈ l, PointD.wf x) :
    Calls Try.prog 126 #[v] w fun e w' => ∃ b, e = .returned (.map (some b)) ∧ w.heap.size ≤ b ∧ OwnsNames w' b l ∧ Below w.heap.size w w' := by
  have HS := Lib.hid h
  have HWF := Lib.hid hwf
  have hl := h.1
  obtain ⟨A, c, rfl⟩ := h.at
  clear h hwf
  have hmm := @run_makeMap Try.prog
  refine (callsIn_wide (n := 9)).1 ?_
  refine callsIn_of_wp_marks Try.func126 rfl trivial ?_ rfl
  simp only [Try.ntmps126, List.size_toArray, List.length_cons, List.length_nil, Nat.reduceAdd, Nat.reduceSub, Array.replicate_succ, Array.replicate_zero, List.push_toArray, List.append_toArray, List.nil_append, List.cons_append]
  gi_wp2_with (refine ⟨trivial, ?_⟩; gi_at_call 136; refine (callsIn_wide.2 (backward_any _ _ _ _)).mono ?_; rintro e w' ⟨rfl, rfl⟩)
  obtain ⟨W0, hW0⟩ : ∃ W0, W0 = (((w.alloc (.map #[] 0)).alloc (.cells #[.map (some w.heap.size)] 182)).alloc (.cells #[.slice A l.length c] 29)) := ⟨_, rfl⟩
  rw [← hW0]
  have hsz : W0.heap.size = w.heap.size + 1 + 1 + 1 := by rw [hW0]; simp
  have hB0 : Below w.heap.size w W0 := by rw [hW0]; exact (((Below.refl _ w).alloc (Nat.le_refl _) _).alloc (by simp) _).alloc (by simp; omega) _
  have bM : Boxed W0 (w.heap.size + 1) 182 (.map (some w.heap.size)) := by
    rw [hW0]
    have b := Boxed.new (w.alloc (.map #[] 0)) 182 (.map (some w.heap.size))
    rw [World.size_alloc] at b
    exact b.alloc _
  have bS : W0.cell? ⟨w.heap.size + 1 + 1, 0, none⟩ = some (.slice A l.length c) := by
    rw [hW0]
    have b := Boxed.new ((w.alloc (.map #[] 0)).alloc (.cells #[.map (some w.heap.size)] 182)) 29 (.slice A l.length c)
    rw [World.size_alloc, World.size_alloc] at b
    exact b.cell
  have oM : W0.ownsMap Try.prog 9 (plainElem (H := Unit) Try.prog 3) w.heap.size 0 (.map []) := by
    rw [hW0]
    exact ((World.ownsMap_made w _ _ _).alloc _).alloc _
  clear hW0 hmm
  refine wpIn_rangeFunc_ownH rfl (by omega) (gf := 142) (lb := #[.pointer (some ⟨w.heap.size + 1 + 1, 0, none⟩)]) rfl trivial (enters_of Try.func142 (by kernel_rfl) rfl)
    (back1 _ l (w.heap.size + 1 + 1) W0 (HS.out.below hB0) HWF.out (by omega) bS 8 (by omega)) KpC.t (fun W l o o' _ h h1 _ => KpC.b W l o o' h h1) (Below.refl _ _) (fun _ => rfl)
    (fun (pre : List IP) W => (W.ownsMap Try.prog 9 (plainElem Try.prog 3) w.heap.size pre.length (putAll (pre.map Subtype.val)) ∧ Boxed W (w.heap.size + 1) 182 (.map (some w.heap.size))) ∧ Below w.heap.size w W)
    (fun _ _ _ => False)
    (OwnFrom.and (OwnFrom.and (fun s W W' row hs hg hr => hs.kept hg (fun e => by have := (hr _ e.symm).1; omega)) (Own.from (boxed_own _ _ _) _)) (ownFrom_below (Nat.le_refl _) (by omega)))
    (fun _ _ _ _ _ hs _ _ => hs)
    ⟨⟨oM, bM⟩, hB0⟩
    (fun x a' W => ∃ Bx, Blk W Bx #[.string x.1.2.name, .bool x.1.2.wait] 148 ∧ a' = { tmps := #[.slice A l.length c, undef, .map none, .pointer (some ⟨w.heap.size + 1, 0, none⟩), .int .i64 (x.1.1 : Int), .pointer (some ⟨Bx, 0, none⟩), .map (some w.heap.size), .slice A l.length c, .func (.func 142) #[] #[.pointer (some ⟨w.heap.size + 1 + 1, 0, none⟩)], .int .i64 (x.1.1 : Int), .agg #[.string x.1.2.name, .bool x.1.2.wait], undef, undef, undef, undef, undef], defers := [] })
    (fun x a' _ X Y row hs hg hr => by
      obtain ⟨Bx, h2, h3⟩ := hs
      exact ⟨Bx, h2.grown hg (fun e' => by obtain ⟨_, o, ho, hc⟩ := hr Bx e'.symm; rw [show X.heap[Bx]? = _ from h2] at ho; cases ho; cases hc), h3⟩)
    ?assign ?body ?done ?stop
  case assign =>
    rintro lp pre x W K ⟨⟨hm, hbx⟩, hB1⟩ hK
    gi_wp2
    exact hK _ _ ((KeepsOthers.alloc _ _).from _) (KpC.alloc _ _) ⟨⟨hm.alloc _, hbx.alloc _⟩, hB1.alloc hB1.size _⟩ ⟨W.heap.size, Blk.new W _ _, rfl⟩
  case body =>
    rintro lp pre x a' W hl' ⟨r, hr⟩ ⟨⟨hm, hbx⟩, hB⟩ ⟨Bx, bX, rfl⟩ hlt
    have hc := hbx.cell
    have c0 : W.cell? ⟨Bx, 0, none⟩ = some (.string x.1.2.name) := bX.cell 0
    have c1 : W.cell? ⟨Bx, 1, none⟩ = some (.bool x.1.2.wait) := bX.cell 1
    have hpl : pre.length < maxLen := by unfold maxLen; omega
    obtain ⟨ob, hob, hoc⟩ : ∃ ob, W.heap[w.heap.size]? = some ob ∧ ob.isCells = false := by obtain ⟨es, clock, hb, _⟩ := hm; exact ⟨_, hb, rfl⟩
    have hkx := keyOf_string_mk Try.underlying9 x.2.1
    have hux := Try.underlying182
    have hpx := plainElem_int (H := Unit) Try.underlying3 (ip_wf x)
    gi_wp2_with (gi_at_mapUpdate; refine wpListIn_mapUpdate_own _ rfl _ _ _ 182 rfl 9 3 law_string Try.underlying182 _ w.heap.size pre.length _ rfl hm hpl _ _ _ rfl rfl (keyOf_string_mk Try.underlying9 x.2.1) _ [] (plainElem_int Try.underlying3 (ip_wf x)) ?_; intro w1 hown1 hgrow1)
    exact ⟨KeepsFrom.of_grownBy hgrow1 (fun j e => by cases e; omega), KpC.map hgrow1 hob hoc, ⟨⟨by rw [putAll_next, List.length_append]; exact hown1, hbx.kept hgrow1 (fun e => by injection e with e; omega)⟩, hB.grown hgrow1 hB.size (fun k e => by cases e; exact Nat.le_refl _)⟩⟩
  case done =>
    rintro D ys W hD hS ⟨⟨hm, hbx⟩, hB⟩ hK
    have hc := hbx.cell
    have hyl : ys.length = l.length := by have := hS.len; rw [List.length_map] at this; exact this
    rw [hS.all, hyl] at hm
    have hE := Lib.hid hyl
    clear hyl hS
    gi_wp2
    refine ⟨by simp, .inl ⟨_, _, rfl, run_takeDeferred hK, ?_⟩⟩
    exact ⟨_, results_tmp rfl _ _ _, _, rfl, Nat.le_refl _, ⟨l.length, hl, hm.kept (grownBy_putObj' W D _) (fun e => by injection e with e; omega)⟩, hB.trans (belowK_b (w := w) (Nat.le_refl _) W D _ _ (by omega) hK rfl rfl)⟩
  case stop =>
    rintro D c pre W _ _ h _
    exact h.elim
end Go.Proofs.Ytooeikimoheecaa
namespace Go.Proofs.Ytooeikimoheecaa
open Go.RowKit
set_option maxRecDepth 100000
/-- One segment more: the points so far, or none where the route breaks. -/
def stepP (d : ChartD) (acc : Option (List Int)) (i : Int) : Option (List Int) :=
  match acc, segAt d i with
  | some out, some s => if otherI s (out.getLast?.getD 0) < 0 ∨ out.any (· == otherI s (out.getLast?.getD 0)) = true then none else some (out ++ [otherI s (out.getLast?.getD 0)])
  | _, _ => none
def ptsO (d : ChartD) (fr : Int) (l : List Int) : Option (List Int) := l.foldl (stepP d) (some [fr])
theorem ptsO_snoc (d : ChartD) (fr : Int) (l : List Int) (i : Int) : ptsO d fr (l ++ [i]) = stepP d (ptsO d fr l) i := by unfold ptsO; rw [List.foldl_append]; rfl
theorem fold_none (d : ChartD) : ∀ l : List Int, l.foldl (stepP d) none = none := by
  intro l; induction l with
  | nil => rfl
  | cons i l ih => exact ih
theorem ptsO_cut {d : ChartD} {fr : Int} {l : List Int} (k : Nat) (h : ptsO d fr (l.take k) = none) : ptsO d fr l = none := by
  have e : l = l.take k ++ l.drop k := (List.take_append_drop k l).symm
  rw [e]
  unfold ptsO at h ⊢
  rw [List.foldl_append, h, fold_none]
theorem ptsO_next {d : ChartD} {fr : Int} {l : List Int} {k : Nat} {i : Int} (hx : l[k]? = some i) : ptsO d fr (l.take (k + 1)) = stepP d (ptsO d fr (l.take k)) i := by
  rw [take_snoc' l k i hx, ptsO_snoc]
theorem ptsO_len {d : ChartD} {fr : Int} (l : List Int) : ∀ {out : List Int}, ptsO d fr l = some out → out.length = l.length + 1 := by
  refine snocInd (P := fun l => ∀ {out : List Int}, ptsO d fr l = some out → out.length = l.length + 1) ?_ ?_ l
  · intro out h; simp [ptsO] at h; subst h; rfl
  · intro l i ih out h
    rw [ptsO_snoc] at h
    cases hp : ptsO d fr l with
    | none => rw [hp] at h; cases h
    | some o =>
      rw [hp] at h
      unfold stepP at h
      cases hs : segAt d i with
      | none => rw [hs] at h; cases h
      | some s =>
        rw [hs] at h
        simp only at h
        split at h
        · cases h
        · simp at h; subst h; have := ih hp; simp; omega
def routeB (d : ChartD) (fr : Int) (l : List Int) : Bool := chartB d && inB fr 0 ((d.points.length : Int) - 1) && (ptsO d fr l).isSome
def rteL (d : ChartD) (fr : Int) (l : List Int) : List Int := if routeB d fr l = true then (ptsO d fr l).getD [] else []
theorem routeB_bad {d : ChartD} {fr : Int} {l : List Int} (h : chartB d = false) : routeB d fr l = false := by unfold routeB; rw [h]; rfl
theorem routeB_off {d : ChartD} {fr : Int} {l : List Int} (h : inB fr 0 ((d.points.length : Int) - 1) = false) : routeB d fr l = false := by unfold routeB; rw [h]; simp
theorem routeB_ok {d : ChartD} {fr : Int} {l : List Int} (h : chartB d = true) (h' : inB fr 0 ((d.points.length : Int) - 1) = true) : routeB d fr l = (ptsO d fr l).isSome := by unfold routeB; rw [h, h']; rfl
end Go.Proofs.Ytooeikimoheecaa
namespace Go.Proofs.Ytooeikimoheecaa
open Go.RowKit
set_option maxRecDepth 100000
def atB (t : Int) (x : WindowD) : Bool := inB t x.fr x.tt
def hasB (l : List WindowD) (t : Int) : Bool := l.any (atB t)
end Go.Proofs.Ytooeikimoheecaa
namespace Go.Proofs.Ytooeikimoheecaa
open Go.RowKit
set_option maxRecDepth 100000
theorem window_one (x : WindowD) : ∀ v ∈ x.cells, v.oneCell' = true := fun v hv => by simp at hv; rcases hv with rfl | rfl <;> rfl
/-- The value v is a list of windows over memory that is new since w; what w held is as it was. -/
def GathW (w : World) (v : Value) (acc : List WindowD) (wr : World) : Prop := OwnWindow wr w.heap.size v acc ∧ Below w.heap.size w wr
theorem GathW.size {w wr : World} {v : Value} {acc : List WindowD} (h : GathW w v acc wr) : w.heap.size ≤ wr.heap.size := h.2.size
theorem GathW.empty {w wr : World} (hb : Below w.heap.size w wr) : GathW w (.slice none 0 0) [] wr := ⟨⟨by simp, .inl ⟨rfl, rfl⟩⟩, hb⟩
/-- An empty list over a new block of no cells. -/
theorem GathW.made {w wr : World} (hb : Below w.heap.size w wr) : GathW w (.slice (some ⟨wr.heap.size, 0, none⟩) 0 0) [] (wr.alloc (.cells #[] 174)) :=
  ⟨⟨by simp, .inr ⟨wr.heap.size, 0, #[], rfl, hb.size, heap_alloc_new wr _, Nat.le_refl _, by omega, by simp, by simp⟩⟩, hb.alloc hb.size _⟩
theorem GathW.below {w wr W : World} {v : Value} {acc : List WindowD} (h : GathW w v acc wr) (hb : Below wr.heap.size wr W) : GathW w v acc W :=
  ⟨own_below h.1 hb, h.2.trans (hb.mono h.size)⟩
theorem GathW.next {w W w4 : World} {v : Value} {acc : List WindowD} {x : WindowD} {g4 cap4 : Nat} (h : GathW w v acc W)
    (hown : w4.ownsRow w.heap.size 174 2 (.slice (some ⟨g4, 0, none⟩) (acc.length + 1) cap4) (acc.length + 1) (acc.flatMap WindowD.cells ++ x.cells)) (hgr : W.grownBy w4 v.ownBlock) :
    GathW w (.slice (some ⟨g4, 0, none⟩) (acc.length + 1) cap4) (acc ++ [x]) w4 := by
  refine ⟨?_, h.2.grown hgr h.size (fun k hk => (World.ownsRow.lt h.1 k hk).1)⟩
  simpa [OwnWindow, OwnOf] using hown
theorem GathW.new {w wr : World} {v : Value} {acc R : List WindowD} (h : GathW w v acc wr) (e : R = acc) : NewWindow R w (.returned v) wr := by
  subst e
  exact ⟨v, rfl, h.1, h.2⟩
theorem GathW.form {w wr : World} {v : Value} {acc : List WindowD} (h : GathW w v acc wr) : ∃ A c, v = .slice A acc.length c := own_form h.1
theorem NewWindow.empty {w w' : World} {R : List WindowD} (hb : Below w.heap.size w w') (e : R = []) : NewWindow R w (.returned (.slice none 0 0)) w' := (GathW.empty hb).new e
end Go.Proofs.Ytooeikimoheecaa
namespace Go.Proofs.Ytooeikimoheecaa
open Go.RowKit
set_option maxRecDepth 100000
def nextI (l : List WindowD) (t : Int) : Int := if winB l then (match l.find? (fun x => decide (t ≤ x.tt)) with | some x => max t x.fr | none => -1) else -1
/-- The first k windows end before a minute. -/
def FirstE (l : List WindowD) (t : Int) (k : Nat) : Prop := ∀ x ∈ l.take k, x.tt < t
theorem FirstE.next {l : List WindowD} {t : Int} {k : Nat} {x : WindowD} (h : FirstE l t k) (hx : l[k]? = some x) (hp : x.tt < t) : FirstE l t (k + 1) := by
  intro y hy
  rw [take_snoc' l k x hx, List.mem_append, List.mem_singleton] at hy
  rcases hy with hy | rfl
  · exact h y hy
  · exact hp
theorem nextI_bad {l : List WindowD} {t : Int} (h : winB l = false) : nextI l t = -1 := by unfold nextI; rw [h]; rfl
theorem nextI_none {l : List WindowD} {t : Int} (h : winB l = true) (hF : FirstE l t l.length) : nextI l t = -1 := by
  unfold nextI
  rw [h, List.find?_eq_none.2 (fun x hx => by have := hF x (by rw [List.take_length]; exact hx); simp; omega)]
  rfl
theorem nextI_at {l : List WindowD} {t : Int} {k : Nat} {x : WindowD} (h : winB l = true) (hF : FirstE l t k) (hx : l[k]? = some x) (hp : t ≤ x.tt) : nextI l t = max t x.fr := by
  have hk : k < l.length := (List.getElem?_eq_some_iff.1 hx).1
  have e : l = l.take k ++ (x :: l.drop (k + 1)) := by
    rw [← (List.getElem?_eq_some_iff.1 hx).2, List.getElem_cons_drop, List.take_append_drop]
  have hn : (l.take k).find? (fun x => decide (t ≤ x.tt)) = none := List.find?_eq_none.2 (fun y hy => by have := hF y hy; simp; omega)
  have e2 : l.find? (fun x => decide (t ≤ x.tt)) = some x := by
    rw [e, List.find?_append, hn, List.find?_cons_of_pos (by simpa using hp)]
    rfl
  unfold nextI
  rw [h, e2]
  rfl
set_option maxHeartbeats 4000000 in
theorem implNextMinute (v : Value) (l : List WindowD) (t : Int) (w : World) (h : SlWindow w v l) :
    Calls Try.prog 91 #[v, .int .i64 t] w fun e w' => e = .returned (.int .i64 (nextI l t)) ∧ Below w.heap.size w w' := by
  have H := Lib.hid h
  cases hok : winB l with
  | false =>
    have E := Lib.hid (nextI_bad (l := l) (t := t) hok)
    have HOK := Lib.hid hok
    obtain ⟨A, c, rfl⟩ := h.at
    clear hok h
    go_enter Try.func91, Try.ntmps91
    go_wp2_with fail
    refine (implWindowsOk _ l _ H.out).mono ?_
    rw [HOK.out]
    rintro e w1 ⟨rfl, hb1⟩
    have B1 := Lib.hid hb1
    clear hb1
    go_wp2
    go_ret
    exact ⟨ret_int E.out.symm, B1.out⟩
  | true =>
    have HF := Lib.hid (winB_true hok)
    have HOK := Lib.hid hok
    clear hok
    obtain ⟨hl, h⟩ := h
    rcases h with ⟨rfl, A, c, rfl⟩ | ⟨g, o, c, rfl, hp, hcap, hc⟩
    · have E := Lib.hid (nextI_none (l := []) (t := t) HOK.out (fun x hx => absurd hx (by simp)))
      go_enter Try.func91, Try.ntmps91
      go_wp2_with fail
      refine (implWindowsOk _ [] _ H.out).mono ?_
      rw [HOK.out]
      rintro e w1 ⟨rfl, hb1⟩
      have B1 := Lib.hid hb1
      clear hb1
      go_wp2
      refine wp_loop_rounds 1 ?_
      rw [rounds_succ]
      go_wp2
      go_ret
      exact ⟨ret_int E.out.symm, B1.out⟩
    · have HC := Lib.hid hc
      clear hc
      go_enter Try.func91, Try.ntmps91
      go_wp2_with fail
      refine (implWindowsOk _ l _ H.out).mono ?_
      rw [HOK.out]
      rintro e w1 ⟨rfl, hb1⟩
      have B1 := Lib.hid hb1
      have hz1 := hb1.size
      clear hb1
      go_wp2
      go_loopw [12] (fun i wr => ∃ k : Nat, k ≤ l.length ∧ i = .int .i64 k ∧ Hid (FirstE l t k) ∧ Hid (Below w.heap.size w wr) ∧ w.heap.size ≤ wr.heap.size) (fun i _ => l.length - (intOf i).toNat)
      case atStart => exact ⟨0, Nat.zero_le _, rfl, Lib.hid (fun x hx => absurd hx (by simp)), B1, hz1⟩
      case round =>
        obtain ⟨k, hk, rfl, hE, hb', hsz⟩ := hrel
        by_cases hlt : k < l.length
        rotate_left
        · obtain rfl : k = l.length := by omega
          have E := Lib.hid (nextI_none (l := l) (t := t) HOK.out hE.out)
          go_wp2
          go_ret
          exact ⟨ret_int E.out.symm, hb'.out⟩
        · obtain ⟨x, hx⟩ : ∃ x, l[k]? = some x := ⟨_, List.getElem?_eq_getElem hlt⟩
          obtain ⟨p0, p1⟩ := SlWindow.cells HC.out k x hx
          have hg : g < w.heap.size := World.block_lt_of_cell? w ⟨g, o + k * 2, none⟩ p0
          have a0 := (hb'.out.cell (p := ⟨g, o + k * 2, none⟩) hg).trans p0
          have a1 := (hb'.out.cell (p := ⟨g, o + k * 2 + 1, none⟩) hg).trans p1
          have HX := Lib.hid hx
          obtain ⟨t0, t1, t2⟩ := HF.out.time hlt hx
          have hgr : g < wr.heap.size := by omega
          clear p0 p1 hx
          by_cases ht : t ≤ x.tt
          · have E := Lib.hid (nextI_at HOK.out hE.out HX.out ht)
            go_wp2
            all_goals
              go_ret
              refine ⟨ret_int (E.out.trans (by omega)).symm, ?_⟩
              repeat (first | exact hb'.out | refine below_drewN ?_ _ | refine Below.drew ?_ | refine Below.setCell ?_ (by first | omega | (simp <;> omega)) _ | refine Below.alloc ?_ (by first | omega | (simp <;> omega)) _)
          · have E := Lib.hid (hE.out.next HX.out (by omega))
            go_wp2
            go_roundw
            case rel =>
              refine ⟨k + 1, by omega, by go_num, E, Lib.hid ?_, ?_⟩
              · repeat (first | exact hb'.out | refine below_drewN ?_ _ | refine Below.drew ?_ | refine Below.setCell ?_ (by first | omega | (simp <;> omega)) _ | refine Below.alloc ?_ (by first | omega | (simp <;> omega)) _)
              · simp <;> omega
            case measure => simp [intOf]; omega
end Go.Proofs.Ytooeikimoheecaa
