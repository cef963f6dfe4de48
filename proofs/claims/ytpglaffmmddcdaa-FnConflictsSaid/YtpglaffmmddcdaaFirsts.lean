
/- slices.Backward over points, and impl.firstsByName, which fills a map from the last point back: contracts. -/
import Derived.RangeFuncNested
import Derived.RangeFuncBound
import Derived.RangeFuncCalls
import Derived.RangeFuncLeaves
import Derived.Shelf.Abstract
import Derived.Shelf.RegionOpen
import Derived.WalkKit
import Derived.OwnWalkIn
import Derived.TacticsInMore
import Derived.LoopNIn
import Derived.LoopIn
import Derived.Maps.AppendAt
import Derived.Test.YtpglaffmmddcdaaNameMap
namespace Go.Proofs.Ytpglaffmmddcdaa
open Go.RowKit Go.Shelf Go.Maps Go.WideMaps
set_option maxRecDepth 100000
attribute [local go_sem] Oper.semAt_some

/-- Every block of cells lies as it lay. -/
def KpC (A B : World) : Prop := ∀ (k : Nat) (o : Obj), A.heap[k]? = some o → o.isCells = true → B.heap[k]? = A.heap[k]?
theorem KpC.refl (A : World) : KpC A A := fun _ _ _ _ => rfl
theorem KpC.t {A B C : World} (h : KpC A B) (k : KpC B C) : KpC A C := fun j o hj hc => (k j o ((h j o hj hc).trans hj) hc).trans (h j o hj hc)
theorem KpC.b (W : World) (l : Nat) (o o' : Obj) (h : W.heap[l]? = some o) (h1 : o.isCells = false) : KpC W (W.putObj l o') :=
  fun k u hk hc => World.putObj_heap_other (fun e => by subst e; rw [h] at hk; cases hk; rw [h1] at hc; cases hc)
theorem KpC.alloc (W : World) (o : Obj) : KpC W (W.alloc o) := fun k u hk _ => (World.grownBy_alloc W o none).block k (Array.getElem?_eq_some_iff.1 hk).1 (by simp)
theorem KpC.cell {A B : World} (h : KpC A B) {a : Addr} {v : Value} (hv : A.cell? a = some v) : B.cell? a = some v := by
  obtain ⟨o, ho, hc⟩ := cells_of_cell hv
  exact (World.cell?_of_block (h _ o ho hc)).trans hv
theorem KpC.map {A B : World} {b : Nat} (hg : A.grownBy B (some b)) {o : Obj} (hb : A.heap[b]? = some o) (ho : o.isCells = false) : KpC A B := fun k u hk hc =>
  hg.block k (Array.getElem?_eq_some_iff.1 hk).1 (fun e => by cases e; rw [hb] at hk; cases hk; rw [ho] at hc; cases hc)

abbrev IP := { x : Nat × PointD // x.2.name.size ≤ maxLen ∧ x.1 ≤ 1000000000 }

set_option maxHeartbeats 2000000 in
theorem back1 (v : Value) (l : List PointD) (Bn : Nat) (w : World) (h : SlPoint w v l) (hwf : ∀ x ∈ l, PointD.wf x) (hBn : Bn < w.heap.size) (hc0 : w.cell? ⟨Bn, 0, none⟩ = some v) (n : Nat) (hn : 1 ≤ n) :
    SeqStopsK Fence.wide n Try.prog 96 #[.pointer (some ⟨Bn, 0, none⟩)] (fun x : IP => #[.int .i64 (x.1.1 : Int), .agg #[.string x.1.2.name, .bool x.1.2.wait]]) KpC (fun ys => BackOf l l.length (ys.map Subtype.val)) (fun _ => True) l.length w := by
  intro lp J Jx W hW hJ hJx hY h0
  have hl := h.1
  have HS := Lib.hid (h.below hW)
  have hcW : W.cell? ⟨Bn, 0, none⟩ = some v := (hW.cell (p := ⟨Bn, 0, none⟩) hBn).trans hc0
  obtain ⟨A, c, rfl⟩ := h.at
  have HJ := Lib.hid hJ
  have HY := Lib.hid hY
  have H0 := Lib.hid h0
  have HWF := Lib.hid hwf
  clear hJ hJx hY h0 hW hc0 h hwf
  change CallsIn Fence.wide n Try.prog 96 #[.func (.yield lp) #[] #[], .pointer (some ⟨Bn, 0, none⟩)] W _
  refine callsIn_of_wp Try.func96 rfl trivial ?_ rfl
  simp only [Try.ntmps96, List.size_toArray, List.length_cons, List.length_nil, Nat.reduceAdd, Nat.reduceSub, Array.replicate_succ, Array.replicate_zero, List.push_toArray, List.append_toArray, List.nil_append, List.cons_append]
  gi_wp2
  gi_loopw [3] (fun i wr => ∃ (j : Nat) (acc : List IP) (z : Int), j ≤ l.length ∧ Hid (z + 1 + j = l.length) ∧ i = .int .i64 z ∧ Hid (BackOf l j (acc.map Subtype.val)) ∧ Hid (J acc wr) ∧ Hid (KpC W wr)) (fun i _ => (intOf i + 1).toNat)
  case atStart => exact ⟨0, [], (l.length : Int) - 1, Nat.zero_le _, Lib.hid (by omega), by go_num, Lib.hid .nil, H0, Lib.hid (KpC.refl _)⟩
  case round =>
    obtain ⟨j, acc, z, hj, hE, rfl, hB, hJs, hK⟩ := hrel
    by_cases hlt : j < l.length
    rotate_left
    · obtain rfl : j = l.length := by omega
      obtain rfl : z = -1 := by have := hE.out; omega
      gi_wp2
      go_end0
      exact ⟨⟨_, rfl⟩, .inl ⟨_, hB.out, hJs.out⟩⟩
    · obtain ⟨k, rfl⟩ : ∃ k : Nat, z = (k : Int) := ⟨z.toNat, by have := hE.out; omega⟩
      have hk : k < l.length := by have := hE.out; omega
      obtain ⟨x, hx⟩ : ∃ x, l[k]? = some x := ⟨_, List.getElem?_eq_getElem hk⟩
      have hxw : x.name.size ≤ maxLen := HWF.out x (List.mem_of_getElem? hx)
      have c0 := hK.out.cell hcW
      rcases HS.out.2 with ⟨he, _⟩ | ⟨g, o, c', e, hpos, hcap, hc⟩
      · rw [he] at hk; simp at hk
      · injection e with hA _ hcp
        subst hA hcp
        obtain ⟨p0, p1⟩ := SlPoint.cells hc k x hx
        have a0 := hK.out.cell p0
        have a1 := hK.out.cell p1
        have HX := Lib.hid hx
        have EB := Lib.hid (show BackOf l (j + 1) ((acc ++ [(⟨(k, x), hxw, by show k ≤ 1000000000; omega⟩ : IP)]).map Subtype.val) by rw [List.map_append]; exact BackOf.snoc hB.out (by have := hE.out; omega) hx)
        have hal : acc.length < l.length := by have := hB.out.len; rw [List.length_map] at this; omega
        have hE' := Lib.hid (show ((k : Int) - 1) + 1 + ((j + 1 : Nat) : Int) = l.length by have := hE.out; omega)
        obtain ⟨fn, tmps, assign, body, hy, hR⟩ := HY.out acc (⟨(k, x), hxw, by show k ≤ 1000000000; omega⟩ : IP) wr hJs.out hal
        have HR := Lib.hid hR
        clear hR p0 p1 hc hal HY hx
        dsimp only at hy
        gi_wp2
        refine HR.out.mono ?_
        rintro e W3 (⟨rfl, hJ3, hk3⟩ | ⟨rfl, hJx3⟩)
        · have HK3 := Lib.hid (hK.out.t hk3)
          have H3 := Lib.hid hJ3
          clear hJ3 hk3 hy
          gi_wp2
          go_roundw
          case rel => exact ⟨j + 1, _, (k : Int) - 1, by omega, hE', by go_num, EB, H3, HK3⟩
          case measure => simp [intOf]
        · gi_wp2
          refine bodyPost_ret (results_none rfl _ _ _) rfl ?_
          exact ⟨⟨_, rfl⟩, .inr ⟨_, trivial, hJx3⟩⟩

theorem backward_any (A : Option Addr) (n c : Nat) (w : World) :
    Calls Try.prog 90 #[.slice A n c] w fun e w' => e = .returned (.func (.func 96) #[] #[.pointer (some ⟨w.heap.size, 0, none⟩)]) ∧ w' = w.alloc (.cells #[.slice A n c] 23) := by
  go_enter Try.func90, Try.ntmps90
  go_wp2
  go_ret
  exact ⟨rfl, rfl⟩

theorem law_string : Keyed Try.prog 9 := string_keyed Try.underlying9
theorem putAll_next (pre : List IP) (x : IP) : putAll ((pre ++ [x]).map Subtype.val) = (putAll (pre.map Subtype.val)).put (keyL x.1.2.name) (.lit (.int .i64 (x.1.1 : Int))) := by rw [List.map_append]; exact putAll_snoc _ _
theorem ip_wf (x : IP) : (Lit.int .i64 (x.1.1 : Int)).wf = true := WalkArith.wf_i64 (by have := x.2.2; omega)
/-- A map of its own that is the name map of the points. -/
def OwnsNames (w : World) (b : Nat) (l : List PointD) : Prop := ∃ n, n ≤ 1000000000 ∧ w.ownsMap Try.prog 9 (plainElem Try.prog 3) b n (nameMap 0 l)

set_option maxHeartbeats 4000000 in
theorem implFirsts (v : Value) (l : List PointD) (w : World) (h : SlPoint w v l) (hwf : ∀ x ∈ l, PointD.wf x) :
    Calls Try.prog 83 #[v] w fun e w' => ∃ b, e = .returned (.map (some b)) ∧ w.heap.size ≤ b ∧ OwnsNames w' b l ∧ Below w.heap.size w w' := by
  have HS := Lib.hid h
  have HWF := Lib.hid hwf
  have hl := h.1
  obtain ⟨A, c, rfl⟩ := h.at
  clear h hwf
  have hmm := @run_makeMap Try.prog
  refine (callsIn_wide (n := 9)).1 ?_
  refine callsIn_of_wp_marks Try.func83 rfl trivial ?_ rfl
  simp only [Try.ntmps83, List.size_toArray, List.length_cons, List.length_nil, Nat.reduceAdd, Nat.reduceSub, Array.replicate_succ, Array.replicate_zero, List.push_toArray, List.append_toArray, List.nil_append, List.cons_append]
  gi_wp2_with (refine ⟨trivial, ?_⟩; gi_at_call 90; refine (callsIn_wide.2 (backward_any _ _ _ _)).mono ?_; rintro e w' ⟨rfl, rfl⟩)
  obtain ⟨W0, hW0⟩ : ∃ W0, W0 = (((w.alloc (.map #[] 0)).alloc (.cells #[.map (some w.heap.size)] 125)).alloc (.cells #[.slice A l.length c] 23)) := ⟨_, rfl⟩
  rw [← hW0]
  have hsz : W0.heap.size = w.heap.size + 1 + 1 + 1 := by rw [hW0]; simp
  have hB0 : Below w.heap.size w W0 := by rw [hW0]; exact (((Below.refl _ w).alloc (Nat.le_refl _) _).alloc (by simp) _).alloc (by simp; omega) _
  have bM : Boxed W0 (w.heap.size + 1) 125 (.map (some w.heap.size)) := by
    rw [hW0]
    have b := Boxed.new (w.alloc (.map #[] 0)) 125 (.map (some w.heap.size))
    rw [World.size_alloc] at b
    exact b.alloc _
  have bS : W0.cell? ⟨w.heap.size + 1 + 1, 0, none⟩ = some (.slice A l.length c) := by
    rw [hW0]
    have b := Boxed.new ((w.alloc (.map #[] 0)).alloc (.cells #[.map (some w.heap.size)] 125)) 23 (.slice A l.length c)
    rw [World.size_alloc, World.size_alloc] at b
    exact b.cell
  have oM : W0.ownsMap Try.prog 9 (plainElem (H := Unit) Try.prog 3) w.heap.size 0 (.map []) := by
    rw [hW0]
    exact ((World.ownsMap_made w _ _ _).alloc _).alloc _
  clear hW0 hmm
  refine wpIn_rangeFunc_ownH rfl (by omega) (gf := 96) (lb := #[.pointer (some ⟨w.heap.size + 1 + 1, 0, none⟩)]) rfl trivial (enters_of Try.func96 (by kernel_rfl) rfl)
    (back1 _ l (w.heap.size + 1 + 1) W0 (HS.out.below hB0) HWF.out (by omega) bS 8 (by omega)) KpC.t (fun W l o o' _ h h1 _ => KpC.b W l o o' h h1) (Below.refl _ _) (fun _ => rfl)
    (fun (pre : List IP) W => (W.ownsMap Try.prog 9 (plainElem Try.prog 3) w.heap.size pre.length (putAll (pre.map Subtype.val)) ∧ Boxed W (w.heap.size + 1) 125 (.map (some w.heap.size))) ∧ Below w.heap.size w W)
    (fun _ _ _ => False)
    (OwnFrom.and (OwnFrom.and (fun s W W' row hs hg hr => hs.kept hg (fun e => by have := (hr _ e.symm).1; omega)) (Own.from (boxed_own _ _ _) _)) (ownFrom_below (Nat.le_refl _) (by omega)))
    (fun _ _ _ _ _ hs _ _ => hs)
    ⟨⟨oM, bM⟩, hB0⟩
    (fun x a' W => ∃ Bx, Blk W Bx #[.string x.1.2.name, .bool x.1.2.wait] 99 ∧ a' = { tmps := #[.slice A l.length c, undef, .map none, .pointer (some ⟨w.heap.size + 1, 0, none⟩), .int .i64 (x.1.1 : Int), .pointer (some ⟨Bx, 0, none⟩), .map (some w.heap.size), .slice A l.length c, .func (.func 96) #[] #[.pointer (some ⟨w.heap.size + 1 + 1, 0, none⟩)], .int .i64 (x.1.1 : Int), .agg #[.string x.1.2.name, .bool x.1.2.wait], undef, undef, undef, undef, undef], defers := [] })
    (fun x a' _ X Y row hs hg hr => by
      obtain ⟨Bx, h2, h3⟩ := hs
      exact ⟨Bx, h2.grown hg (fun e' => by obtain ⟨_, o, ho, hc⟩ := hr Bx e'.symm; rw [show X.heap[Bx]? = _ from h2] at ho; cases ho; cases hc), h3⟩)
    ?assign ?body ?done ?stop
  case assign =>
    rintro lp pre x W K ⟨⟨hm, hbx⟩, hB1⟩ hK
    gi_wp2
    exact hK _ _ ((KeepsOthers.alloc _ _).from _) (KpC.alloc _ _) ⟨⟨hm.alloc _, hbx.alloc _⟩, hB1.alloc hB1.size _⟩ ⟨W.heap.size, Blk.new W _ _, rfl⟩
  case body =>
    rintro lp pre x a' W hl' ⟨r, hr⟩ ⟨⟨hm, hbx⟩, hB⟩ ⟨Bx, bX, rfl⟩ hlt
    have hc := hbx.cell
    have c0 : W.cell? ⟨Bx, 0, none⟩ = some (.string x.1.2.name) := bX.cell 0
    have c1 : W.cell? ⟨Bx, 1, none⟩ = some (.bool x.1.2.wait) := bX.cell 1
    have hpl : pre.length < maxLen := by unfold maxLen; omega
    obtain ⟨ob, hob, hoc⟩ : ∃ ob, W.heap[w.heap.size]? = some ob ∧ ob.isCells = false := by obtain ⟨es, clock, hb, _⟩ := hm; exact ⟨_, hb, rfl⟩
    have hkx := keyOf_string_mk Try.underlying9 x.2.1
    have hux := Try.underlying125
    have hpx := plainElem_int (H := Unit) Try.underlying3 (ip_wf x)
    gi_wp2_with (gi_at_mapUpdate; refine wpListIn_mapUpdate_own _ rfl _ _ _ 125 rfl 9 3 law_string Try.underlying125 _ w.heap.size pre.length _ rfl hm hpl _ _ _ rfl rfl (keyOf_string_mk Try.underlying9 x.2.1) _ [] (plainElem_int Try.underlying3 (ip_wf x)) ?_; intro w1 hown1 hgrow1)
    exact ⟨KeepsFrom.of_grownBy hgrow1 (fun j e => by cases e; omega), KpC.map hgrow1 hob hoc, ⟨⟨by rw [putAll_next, List.length_append]; exact hown1, hbx.kept hgrow1 (fun e => by injection e with e; omega)⟩, hB.grown hgrow1 hB.size (fun k e => by cases e; exact Nat.le_refl _)⟩⟩
  case done =>
    rintro D ys W hD hS ⟨⟨hm, hbx⟩, hB⟩ hK
    have hc := hbx.cell
    have hyl : ys.length = l.length := by have := hS.len; rw [List.length_map] at this; exact this
    rw [hS.all, hyl] at hm
    have hE := Lib.hid hyl
    clear hyl hS
    gi_wp2
    refine ⟨by simp, .inl ⟨_, _, rfl, run_takeDeferred hK, ?_⟩⟩
    exact ⟨_, results_tmp rfl _ _ _, _, rfl, Nat.le_refl _, ⟨l.length, hl, hm.kept (grownBy_putObj' W D _) (fun e => by injection e with e; omega)⟩, hB.trans (belowK_b (w := w) (Nat.le_refl _) W D _ _ (by omega) hK rfl rfl)⟩
  case stop =>
    rintro D c pre W _ _ h _
    exact h.elim
end Go.Proofs.Ytpglaffmmddcdaa
