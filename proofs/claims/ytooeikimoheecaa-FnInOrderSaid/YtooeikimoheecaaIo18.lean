
/- What InOrderLaw rests on, part 18: contracts and mathematics. -/
import Derived.Test.YtooeikimoheecaaIo16
import Derived.RangeFuncNested
import Derived.RangeFuncBound
import Derived.RangeFuncCalls
import Derived.RangeFuncLeaves
import Derived.Shelf.Abstract
import Derived.Shelf.RegionOpen
import Derived.WalkKit
import Derived.OwnWalkIn
import Derived.TacticsInMore
import Derived.LoopNIn
import Derived.LoopIn
import Derived.Maps.AppendAt
import Derived.Test.YtooeikimoheecaaIo3
import Derived.Test.YtooeikimoheecaaIo9
import Derived.Test.YtooeikimoheecaaIo17
import Derived.Test.YtooeikimoheecaaIo2
import Derived.Deep.DeepCutAuto
namespace Go.Proofs.Ytooeikimoheecaa
open Go.RowKit
set_option maxRecDepth 100000
def longB (n : Int) (x : WindowD) : Bool := decide (n ≤ x.tt - x.fr)
def cutW (n : Int) (x : WindowD) : WindowD := ⟨x.fr, x.tt - n⟩
def shrW (n : Int) (l : List WindowD) : List WindowD := (l.filter (longB n)).map (cutW n)
def shrinkL (l : List WindowD) (n : Int) : List WindowD := if winB l = true ∧ inB n 0 2880 = true then shrW n l else []
theorem shrW_yes {n : Int} {l : List WindowD} {k : Nat} {x : WindowD} (h : l[k]? = some x) (hp : n ≤ x.tt - x.fr) : shrW n (l.take (k + 1)) = shrW n (l.take k) ++ [⟨x.fr, x.tt - n⟩] := by
  unfold shrW
  rw [take_snoc' l k x h, List.filter_append, List.map_append]
  simp [longB, hp, cutW]
theorem shrW_no {n : Int} {l : List WindowD} {k : Nat} {x : WindowD} (h : l[k]? = some x) (hp : ¬ n ≤ x.tt - x.fr) : shrW n (l.take (k + 1)) = shrW n (l.take k) := by
  unfold shrW
  rw [take_snoc' l k x h, List.filter_append, List.map_append]
  simp [longB, hp]
theorem shrW_len (n : Int) (l : List WindowD) : (shrW n l).length ≤ l.length := by
  unfold shrW; rw [List.length_map]; exact List.length_filter_le _ _
theorem shrinkL_bad {l : List WindowD} {n : Int} (h : winB l = false) : shrinkL l n = [] := by unfold shrinkL; rw [h]; simp
theorem shrinkL_off {l : List WindowD} {n : Int} (h : inB n 0 2880 = false) : shrinkL l n = [] := by unfold shrinkL; rw [h]; simp
theorem shrinkL_ok {l : List WindowD} {n : Int} (h : winB l = true) (hn : inB n 0 2880 = true) : shrinkL l n = shrW n (l.take l.length) := by unfold shrinkL; rw [h, hn, List.take_length]; simp
set_option maxHeartbeats 8000000 in
theorem implShrinkWindows (v : Value) (l : List WindowD) (n : Int) (w : World) (h : SlWindow w v l) :
    Calls Try.prog 132 #[v, .int .i64 n] w (NewWindow (shrinkL l n) w) := by
  have H := Lib.hid h
  cases hok : winB l with
  | false =>
    have E := Lib.hid (shrinkL_bad (n := n) hok)
    have HOK := Lib.hid hok
    obtain ⟨A, c, rfl⟩ := h.at
    clear hok h
    go_enter Try.func132, Try.ntmps132
    go_wp2_with fail
    refine (implWindowsOk _ l _ H.out).mono ?_
    rw [HOK.out]
    rintro e w1 ⟨rfl, hb1⟩
    have B1 := Lib.hid hb1
    clear hb1
    go_wp2
    go_ret
    exact NewWindow.empty B1.out E.out
  | true =>
    cases hm : inB n 0 2880 with
    | false =>
      have E := Lib.hid (shrinkL_off (l := l) hm)
      have HOK := Lib.hid hok
      have HM := Lib.hid hm
      obtain ⟨A, c, rfl⟩ := h.at
      clear hok h hm
      go_enter Try.func132, Try.ntmps132
      go_wp2_with fail
      refine (implWindowsOk _ l _ H.out).mono ?_
      rw [HOK.out]
      rintro e w1 ⟨rfl, hb1⟩
      have B1 := Lib.hid hb1
      have hz1 := hb1.size
      clear hb1
      go_wp2_with fail
      refine (isMinute_any _ _).mono ?_
      rw [HM.out]
      rintro e w2 ⟨rfl, rfl⟩
      go_wp2
      go_ret
      exact NewWindow.empty B1.out E.out
    | true =>
      have HF := Lib.hid (winB_true hok)
      have HOK := Lib.hid hok
      have HM := Lib.hid hm
      have hn : 0 ≤ n ∧ n ≤ 2880 := of_decide_eq_true hm
      obtain ⟨hn0, hn1⟩ := hn
      have E := Lib.hid (shrinkL_ok hok hm)
      clear hok hm
      obtain ⟨i0, hin, hz0, hzs, hz2⟩ := info_parts info_window
      have HI := Lib.hid hin
      clear hin
      obtain ⟨hl, h⟩ := h
      rcases h with ⟨rfl, A, c, rfl⟩ | ⟨g, o, c, rfl, hp, hcap, hc⟩
      · go_enter Try.func132, Try.ntmps132
        go_wp2_with fail
        refine (implWindowsOk _ [] _ H.out).mono ?_
        rw [HOK.out]
        rintro e w1 ⟨rfl, hb1⟩
        have B1 := Lib.hid hb1
        have hz1 := hb1.size
        clear hb1
        go_wp2_with fail
        refine (isMinute_any _ _).mono ?_
        rw [HM.out]
        rintro e w2 ⟨rfl, rfl⟩
        go_wp2
        have G0 := Lib.hid (GathW.empty B1.out)
        refine wp_loop_rounds 1 ?_
        rw [rounds_succ]
        go_wp2
        go_ret
        exact G0.out.new E.out
      · have HC := Lib.hid hc
        clear hc
        go_enter Try.func132, Try.ntmps132
        go_wp2_with fail
        refine (implWindowsOk _ l _ H.out).mono ?_
        rw [HOK.out]
        rintro e w1 ⟨rfl, hb1⟩
        have B1 := Lib.hid hb1
        have hz1 := hb1.size
        clear hb1
        go_wp2_with fail
        refine (isMinute_any _ _).mono ?_
        rw [HM.out]
        rintro e w2 ⟨rfl, rfl⟩
        go_wp2
        have G0 := Lib.hid (GathW.empty B1.out)
        go_loopw [5, 18] (fun s i wr => ∃ k : Nat, k ≤ l.length ∧ i = .int .i64 k ∧ Hid (GathW w s (shrW n (l.take k)) wr)) (fun _ i _ => l.length - (intOf i).toNat)
        case atStart => exact ⟨0, Nat.zero_le _, rfl, by simpa [shrW] using G0⟩
        case round =>
          obtain ⟨k, hk, rfl, hG⟩ := hrel
          by_cases hlt : k < l.length
          rotate_left
          · obtain rfl : k = l.length := by omega
            go_wp2
            go_ret
            exact hG.out.new E.out
          · obtain ⟨x, hx⟩ : ∃ x, l[k]? = some x := ⟨_, List.getElem?_eq_getElem hlt⟩
            obtain ⟨p0, p1⟩ := SlWindow.cells HC.out k x hx
            have hg : g < w.heap.size := World.block_lt_of_cell? w ⟨g, o + k * 2, none⟩ p0
            have a0 := (hG.out.2.cell (p := ⟨g, o + k * 2, none⟩) hg).trans p0
            have a1 := (hG.out.2.cell (p := ⟨g, o + k * 2 + 1, none⟩) hg).trans p1
            have HX := Lib.hid hx
            obtain ⟨t0, t1, t2⟩ := HF.out.time hlt hx
            have hsz := hG.out.size
            have hgr : g < wr.heap.size := by omega
            clear p0 p1 hx
            have hW1 := Lib.hid (Joins.below_alloc1 wr (.cells #[.int .i64 x.fr, .int .i64 x.tt] 174))
            by_cases hlong : n ≤ x.tt - x.fr
            · have EF := Lib.hid (shrW_yes HX.out hlong)
              have hal := shrW_len n (l.take k)
              rw [List.length_take] at hal
              obtain ⟨acc, hacc⟩ : ∃ acc, shrW n (l.take k) = acc := ⟨_, rfl⟩
              rw [hacc] at hG hal
              have HA := Lib.hid hacc
              clear hacc
              have hW := Lib.hid (Joins.below_alloc2 wr (.cells #[.int .i64 x.fr, .int .i64 x.tt] 174) (.cells #[.int .i64 x.fr, .int .i64 (x.tt - n)] 174))
              have GW := Lib.hid (hG.out.below hW.out)
              have HN := Lib.hid (World.news_of_block (heap_alloc_new (wr.alloc (.cells #[.int .i64 x.fr, .int .i64 x.tt] 174)) (.cells #[.int .i64 x.fr, .int .i64 (x.tt - n)] 174)))
              go_wp2_with (at_builtin; refine wpList_append_lies _ rfl _ _ _ rfl w.heap.size 174 i0 _ 2 16 Try.underlying143 HI.out hz0 (by assumption) hz2 rfl (by omega) u5 acc.length (acc.flatMap WindowD.cells) rfl GW.out.1 ⟨wr.heap.size + 1, 0, none⟩ 1 1 (WindowD.cells ⟨x.fr, x.tt - n⟩) (by first | rfl | simp) rfl (by simpa using HN.out) (window_one _) (by omega) (by unfold maxLen; omega) (by omega) (by simp; omega) _ rfl ?_; intro g4 cap4 w4 hown4 hgrow4 hor4 hlt4; have GX := Lib.hid (GW.out.next hown4 hgrow4); clear hown4 hgrow4 hor4 hlt4)
              go_roundw
              case rel =>
                refine ⟨k + 1, by omega, by go_num, Lib.hid ?_⟩
                rw [EF.out, HA.out]
                exact GX.out
              case measure => simp [intOf]; omega
            · have EF := Lib.hid (shrW_no HX.out hlong)
              go_wp2
              go_roundw
              case rel =>
                refine ⟨k + 1, by omega, by go_num, Lib.hid ?_⟩
                rw [EF.out]
                exact hG.out.below hW1.out
              case measure => simp [intOf]; omega
end Go.Proofs.Ytooeikimoheecaa
namespace Go.Proofs.Ytooeikimoheecaa
open Go.RowKit Go.Shelf
set_option maxRecDepth 100000
attribute [local go_sem] Oper.semAt_some
/-- The iterator value 'func g over lb' hands xs over, one by one, to every loop whose rounds keep Kp. -/
def SeqW (g : Nat) (lb : Array Value) (Kp : World → World → Prop) (N : Nat) (xs : List WindowD) (w : World) : Prop :=
  ∀ n, 1 ≤ n → SeqStopsK Fence.wide n Try.prog g lb (fun x : WindowD => #[.agg #[.int .i64 x.fr, .int .i64 x.tt]]) Kp (fun ys => ys = xs) (fun _ => True) N w
theorem SeqW.later {g : Nat} {lb : Array Value} {Kp : World → World → Prop} {N : Nat} {xs : List WindowD} {w w' : World} (h : SeqW g lb Kp N xs w) (hb : Below w.heap.size w w') : SeqW g lb Kp N xs w' :=
  fun n hn l J Jx W hW hJ hJx hY h0 => h n hn l J Jx W (hb.trans (hW.mono hb.size)) hJ hJx hY h0
theorem blk_own {β : Type} (B : Nat) (t : TypeId) (cs : β → Array Value) : Own (fun s W => Blk W B (cs s) t) := fun s X Y row hs hg hrow =>
  Blk.grown hs hg (fun e' => by obtain ⟨o, ho, hc⟩ := hrow B e'.symm; rw [show X.heap[B]? = _ from hs] at ho; cases ho; cases hc)
end Go.Proofs.Ytooeikimoheecaa
namespace Go.Proofs.Ytooeikimoheecaa
set_option maxRecDepth 100000
theorem other_in {n : Nat} {g : SegmentD} {z : Int} (hs : segB n g = true) (h : ¬ otherI g z < 0) : 0 ≤ otherI g z ∧ otherI g z < n := by
  obtain ⟨a0, a1, b0, b1, -⟩ := segB_true hs
  unfold otherI at h ⊢
  split at h
  · rename_i e; rw [if_pos e]; omega
  · rename_i e
    rw [if_neg e]
    split at h
    · rename_i e2; rw [if_pos e2]; omega
    · omega
/-- The points of a route are points of the chart, and its segments are segments. -/
theorem pts_facts {d : ChartD} {fr : Int} (hd : chartB d = true) (hf : inB fr 0 ((d.points.length : Int) - 1) = true) (l : List Int) : ∀ {out : List Int}, ptsO d fr l = some out → (∀ p ∈ out, 0 ≤ p ∧ p < d.points.length) ∧ (∀ i ∈ l, ∃ g, segAt d i = some g ∧ d.segs[i.toNat]? = some g ∧ 0 ≤ i ∧ i.toNat < d.segs.length) := by
  refine snocInd (P := fun l => ∀ {out : List Int}, ptsO d fr l = some out → (∀ p ∈ out, 0 ≤ p ∧ p < d.points.length) ∧ (∀ i ∈ l, ∃ g, segAt d i = some g ∧ d.segs[i.toNat]? = some g ∧ 0 ≤ i ∧ i.toNat < d.segs.length)) ?_ ?_ l
  · intro out h
    have hf' := of_decide_eq_true (show decide (0 ≤ fr ∧ fr ≤ (d.points.length : Int) - 1) = true from hf)
    simp [ptsO] at h
    subst h
    exact ⟨fun p hp => by simp at hp; subst hp; omega, fun i hi => by simp at hi⟩
  · intro l i ih out h
    rw [ptsO_snoc] at h
    cases hp : ptsO d fr l with
    | none => rw [hp] at h; cases h
    | some o =>
      obtain ⟨h1, h2⟩ := ih hp
      rw [hp] at h
      unfold stepP at h
      cases hs : segAt d i with
      | none => rw [hs] at h; cases h
      | some g =>
        have hin : inB i 0 ((d.segs.length : Int) - 1) = true := by
          cases hb : inB i 0 ((d.segs.length : Int) - 1) with
          | true => rfl
          | false => rw [segAt_out hb] at hs; cases hs
        obtain ⟨g', hg', hx, i0, il⟩ := segAt_in hin
        obtain rfl : g' = g := by rw [hs] at hg'; injection hg' with e; exact e.symm
        rw [hs] at h
        simp only at h
        split at h
        · cases h
        · rename_i hn
          injection h with e
          subst e
          refine ⟨fun p hp => ?_, fun j hj => ?_⟩
          · rcases List.mem_append.1 hp with hp | hp
            · exact h1 p hp
            · simp at hp
              subst hp
              exact other_in (chartB_seg hd hx) (fun hlt => hn (.inl hlt))
          · rcases List.mem_append.1 hj with hj | hj
            · exact h2 j hj
            · simp at hj
              subst hj
              exact ⟨g', hs, hx, i0, il⟩
theorem route_facts {d : ChartD} {fr : Int} {l : List Int} (h : routeB d fr l = true) : chartB d = true ∧ (rteL d fr l).length = l.length + 1 ∧ (∀ p ∈ rteL d fr l, 0 ≤ p ∧ p < d.points.length) ∧ (∀ i ∈ l, ∃ g, segAt d i = some g ∧ d.segs[i.toNat]? = some g ∧ 0 ≤ i ∧ i.toNat < d.segs.length) := by
  have e : rteL d fr l = (ptsO d fr l).getD [] := if_pos h
  unfold routeB at h
  simp only [Bool.and_eq_true] at h
  obtain ⟨⟨h1, h2⟩, h3⟩ := h
  obtain ⟨out, ho⟩ := Option.isSome_iff_exists.1 h3
  rw [e, ho]
  obtain ⟨q1, q2⟩ := pts_facts h1 h2 l ho
  exact ⟨h1, ptsO_len l ho, q1, q2⟩
end Go.Proofs.Ytooeikimoheecaa
namespace Go.Proofs.Ytooeikimoheecaa
open Go.RowKit
set_option maxRecDepth 100000
/-- The surges that have been drawn, and where the next one begins. -/
def VS (s : List SurgeD) (a : Int) : Prop := Asc s ∧ (∀ x ∈ s, surgeB x = true ∧ x.fr < a) ∧ (s = [] → a = 0) ∧ (s ≠ [] → headB s = true) ∧ 0 ≤ a ∧ a ≤ 799 * s.length
theorem VS.nil : VS [] 0 := ⟨asc_pair.2 (by simp), by simp, fun _ => rfl, fun h => absurd rfl h, by omega, by simp⟩
theorem VS.next {s : List SurgeD} {a : Int} (h : VS s a) (hl : s.length ≤ 2) (lo d r : Int) (h1 : -40 ≤ lo) (h2 : lo ≤ 20) (d0 : 0 ≤ d) (d1 : d < 60) (r0 : 0 ≤ r) (r1 : r < 700) : VS (s ++ [⟨a, lo, lo + d⟩]) (a + 100 + r) := by
  obtain ⟨p1, p2, p3, p4, p5, p6⟩ := h
  have p7 : a ≤ 1598 := by omega
  refine ⟨?_, ?_, by simp, ?_, by omega, by simp; omega⟩
  · rw [asc_pair, List.pairwise_append]
    refine ⟨asc_pair.1 p1, by simp, fun x hx y hy => ?_⟩
    simp at hy
    subst hy
    exact (p2 x hx).2
  · intro x hx
    rw [List.mem_append] at hx
    rcases hx with hx | hx
    · exact ⟨(p2 x hx).1, by have := (p2 x hx).2; omega⟩
    · simp at hx
      subst hx
      exact ⟨surgeB_mk ⟨p5, by show a ≤ 2880; omega, by show -500 ≤ lo; omega, by show lo ≤ lo + d; omega, by show lo + d ≤ 500; omega⟩, by show a < _; omega⟩
  · intro _
    cases hs : s with
    | nil =>
      rw [hs] at p3
      have := p3 rfl
      subst this
      rfl
    | cons z q =>
      have h := p4 (by rw [hs]; simp)
      rw [hs] at h
      have e : ((z :: q) ++ [(⟨a, lo, lo + d⟩ : SurgeD)])[0]? = some z := rfl
      rw [headB_of e]
      rw [headB_of (show (z :: q)[0]? = some z from rfl)] at h
      exact h
theorem VS.fc {s : List SurgeD} {a : Int} {m : Int} {l : List PartD} (h : VS s a) (hs : 0 < s.length) (hl : s.length ≤ 3) (ht : tideB m l = true) : fcB m l s = true :=
  fcB_mk ht hs (by omega) (h.2.2.2.1 (by intro e; rw [e] at hs; simp at hs)) (first_of h.1 (fun x hx => (h.2.1 x hx).1))
/-- A forecast's variable b3 while it is drawn with the cursor p; b2 is the result's. -/
def DrawF (w : World) (p b2 b3 : Nat) (m : Int) (v u : Value) (l : List PartD) (s : List SurgeD) (wr : World) : Prop :=
  Cursor wr p ∧ w.grownBy wr (some p) ∧ Blk wr b2 #[.int .i64 0, .slice none 0 0, .slice none 0 0] 28 ∧ Blk wr b3 #[.int .i64 m, v, u] 28 ∧ OwnP wr w.heap.size v l ∧ (∀ g, v.ownBlock = some g → g < b3) ∧ OwnSurge wr (b3 + 1) u s ∧ p < w.heap.size ∧ w.heap.size ≤ b2 ∧ b2 < b3
theorem DrawF.step {w wr w3 : World} {p b2 b3 : Nat} {m : Int} {v u : Value} {l : List PartD} {s : List SurgeD} (h : DrawF w p b2 b3 m v u l s wr) (hg : wr.grownBy w3 (some p)) (hc : Cursor w3 p) : DrawF w p b2 b3 m v u l s w3 := by
  obtain ⟨h1, h2, h3, h4, h5, h6, h7, h8, h9, h10⟩ := h
  have n1 : v.ownBlock = none ∨ v.ownBlock ≠ some p := by
    cases hv : v.ownBlock with
    | none => exact .inl rfl
    | some g => right; intro e; have := (World.ownsRow.lt h5 g hv).1; have := Option.some.inj e; omega
  have n2 : u.ownBlock = none ∨ u.ownBlock ≠ some p := by
    cases hv : u.ownBlock with
    | none => exact .inl rfl
    | some g => right; intro e; have := (World.ownsRow.lt h7 g hv).1; have := Option.some.inj e; omega
  exact ⟨hc, grown_trans h2 hg, h3.grown hg (by simp; omega), h4.grown hg (by simp; omega), World.ownsRow.kept h5 hg n1, h6, World.ownsRow.kept h7 hg n2, h8, h9, h10⟩
theorem DrawF.drew {w wr : World} {p b2 b3 : Nat} {m : Int} {v u : Value} {l : List PartD} {s : List SurgeD} (h : DrawF w p b2 b3 m v u l s wr) : DrawF w p b2 b3 m v u l s wr.drew :=
  ⟨h.1.drew, ⟨h.2.1.os, h.2.1.tape, h.2.1.output, h.2.1.size, h.2.1.block⟩, h.2.2.1, h.2.2.2.1, h.2.2.2.2.1, h.2.2.2.2.2.1, h.2.2.2.2.2.2⟩
theorem DrawF.next {w w3 w4 : World} {p b2 b3 : Nat} {m : Int} {v u : Value} {l : List PartD} {s : List SurgeD} {x : SurgeD} {g4 cap4 : Nat} (h : DrawF w p b2 b3 m v u l s w3)
    (hown4 : w4.ownsRow (b3 + 1) 169 3 (.slice (some ⟨g4, 0, none⟩) (s.length + 1) cap4) (s.length + 1) (s.flatMap SurgeD.cells ++ x.cells)) (hgrow4 : (w3.alloc (.cells #[.int .i64 x.fr, .int .i64 x.lo, .int .i64 x.hi] 169)).grownBy w4 u.ownBlock) :
    w4.cell? ⟨b3, 2, none⟩ = some u ∧ w4.frozen? ⟨b3, 2, none⟩ = false ∧ DrawF w p b2 b3 m v (.slice (some ⟨g4, 0, none⟩) (s.length + 1) cap4) l (s ++ [x]) (w4.setCell ⟨b3, 2, none⟩ (.slice (some ⟨g4, 0, none⟩) (s.length + 1) cap4)) := by
  obtain ⟨hc, hg, hk, hj, hv, hvb, how, h1, h2, h3⟩ := h
  have hrow : ∀ b, u.ownBlock = some b → b3 < b := fun b hb => by have := (World.ownsRow.lt how b hb).1; omega
  have n3 : some b3 ≠ u.ownBlock := fun e => Nat.lt_irrefl _ (hrow b3 e.symm)
  have n2 : some b2 ≠ u.ownBlock := fun e => by have := hrow b2 e.symm; omega
  have nv : v.ownBlock = none ∨ v.ownBlock ≠ u.ownBlock := by
    cases e : v.ownBlock with
    | none => exact .inl rfl
    | some g => right; intro e2; have := hvb g e; have := hrow g e2.symm; omega
  have hal := Joins.below_alloc1 w3 (.cells #[.int .i64 x.fr, .int .i64 x.lo, .int .i64 x.hi] 169)
  have J4 := (hj.below hal).grown hgrow4 n3
  have K4 := (hk.below hal).grown hgrow4 n2
  have V4 := World.ownsRow.kept (own_below hv hal) hgrow4 nv
  refine ⟨J4.cell 2, J4.free 2, ?_, ?_, K4.other (by omega) _ _, J4.set 2 _, ?_, hvb, ?_, h1, h2, h3⟩
  · exact (((hc.below hal).grown hgrow4 (fun b hb => by have := hrow b hb; omega))).set (by omega) _ _
  · refine grown_setNew ?_ (by omega) _
    have e2 := grown_trans hg (grown_of_below hal (some p))
    refine ⟨hgrow4.os.trans e2.os, hgrow4.tape.trans e2.tape, hgrow4.output.trans e2.output, Nat.le_trans e2.size hgrow4.size, fun i hi hne => (hgrow4.block i (Nat.lt_of_lt_of_le hi e2.size) ?_).trans (e2.block i hi hne)⟩
    intro e
    have := hrow i e.symm
    omega
  · refine World.ownsRow.kept (row := some b3) V4 (grown_set1 w4 b3 2 _) ?_
    cases e : v.ownBlock with
    | none => exact .inl rfl
    | some g => right; intro e2; have := hvb g e; have := Option.some.inj e2; omega
  · refine own_set_under ?_ (by simp) _
    show World.ownsRow _ _ _ _ _ _ _
    have e : (s ++ [x]).flatMap SurgeD.cells = s.flatMap SurgeD.cells ++ x.cells := by simp
    rw [e]
    simpa using hown4
/-- What l03Draw leaves. -/
def DrawsFc (p : Nat) (w : World) (e : Ending) (w' : World) : Prop := ∃ (m : Int) (A : Option Addr) (c : Nat) (l : List PartD) (D : Option Addr) (d : Nat) (s : List SurgeD), e = .returned (.agg #[.int .i64 m, .slice A l.length c, .slice D s.length d]) ∧ fcB m l s = true ∧ s.length ≤ 3 ∧ OwnP w' w.heap.size (.slice A l.length c) l ∧ OwnSurge w' w.heap.size (.slice D s.length d) s ∧ Cursor w' p ∧ w.grownBy w' (some p)
set_option maxHeartbeats 4000000 in
theorem l03Draw_any (p : Nat) (w : World) (hcur : Cursor w p) : Calls Try.prog 83 #[.pointer (some ⟨p, 0, none⟩)] w (DrawsFc p w) := by
  have hb0 := Joins.below_alloc1 w (.cells #[.int .i64 0, .slice none 0 0, .slice none 0 0] 28)
  have C := Lib.hid (l02Draw_any p _ (hcur.below hb0))
  have hp := hcur.lt
  have G0 := Lib.hid (grown_alloc w (.cells #[.int .i64 0, .slice none 0 0, .slice none 0 0] 28) (some p))
  have K0 := Lib.hid (Blk.new w #[.int .i64 0, .slice none 0 0, .slice none 0 0] 28)
  obtain ⟨i0, hi, hz0, hz1, hz2⟩ := info_parts info_surge
  have HI := Lib.hid (And.intro hi (And.intro hz0 (And.intro hz1 hz2)))
  clear hcur hb0 hi hz0 hz1 hz2
  go_enter Try.func83, Try.ntmps83
  go_wp2_with fail
  refine C.out.mono ?_
  rintro e w1 ⟨m, v1, l, rfl, hv, how, hc1, hg1⟩
  obtain ⟨A1, c1, rfl⟩ := own_form how
  have hs1 : w.heap.size + 1 ≤ w1.heap.size := by have := hg1.size; simpa using this
  have hal := Joins.below_alloc1 w1 (.cells #[.int .i64 m, .slice A1 l.length c1, .slice none 0 0] 28)
  have HST := Lib.hid (show DrawF w p w.heap.size w1.heap.size m (.slice A1 l.length c1) (.slice none 0 0) l [] (w1.alloc (.cells #[.int .i64 m, .slice A1 l.length c1, .slice none 0 0] 28)) from
    ⟨hc1.below hal, grown_trans (grown_trans G0.out hg1) (grown_of_below hal (some p)), (K0.out.grown hg1 (by simp; omega)).below hal, Blk.new w1 _ _, own_lo (own_below how hal) (by simp), fun g hg => (World.ownsRow.lt how g hg).2, ⟨rfl, .inl ⟨rfl, rfl⟩⟩, hp, Nat.le_refl _, by omega⟩)
  have HV := Lib.hid hv
  have HNE := Lib.hid (show ∀ g, Value.ownBlock (.slice A1 l.length c1) = some g → g ≠ w.heap.size from fun g hg => by have := (World.ownsRow.lt how g hg).1; simp at this; omega)
  clear hc1 hg1 hal C how hv
  go_wp2_with fail
  refine (l01Below_any p 3 _ (by omega) (by omega) HST.out.1).mono ?_
  rintro e w2 ⟨n, rfl, n0, n1, hc2, hg2⟩
  have ST2 := Lib.hid (HST.out.step hg2 hc2)
  clear hc2 hg2 HST
  go_wp2
  go_loopw [4, 5] (fun a i wr => ∃ (k : Nat) (u : Value) (s : List SurgeD) (t : Int), s.length + k ≤ 3 ∧ 0 < s.length + k ∧ i = .int .i64 k ∧ a = .int .i64 t ∧ Hid (VS s t) ∧ Hid (DrawF w p w.heap.size w1.heap.size m (.slice A1 l.length c1) u l s wr)) (fun _ i _ => (intOf i).toNat)
  case atStart => exact ⟨(1 + n).toNat, _, [], 0, by simp; omega, by simp; omega, by simp; omega, rfl, Lib.hid VS.nil, ST2⟩
  case round =>
    obtain ⟨k, u, s, t, hlk, hpos, rfl, rfl, hVS, hD⟩ := hrel
    have tb := hVS.out.2.2.2.2
    have t0 : 0 ≤ t := tb.1
    have t1 : t ≤ 2397 := by omega
    clear tb
    by_cases hk : 0 < k
    · go_wp2_with fail
      refine (l01Below_any p 60 _ (by omega) (by omega) hD.out.1).mono ?_
      rintro e w3 ⟨lo, rfl, lo0, lo1, hc3, hg3⟩
      have D3 := Lib.hid (hD.out.step hg3 hc3)
      have P := Lib.hid (l01Below_any p 60 w3.drew (by omega) (by omega) D3.out.drew.1)
      have j2 := D3.out.2.2.2.1.cell 2
      simp at j2
      clear hc3 hg3
      go_upto_region 7 with fail
      go_cut [] (fun wx => ∃ (d : Int) (u8 : Value), 0 ≤ d ∧ d < 60 ∧ Hid (DrawF w p w.heap.size w1.heap.size m (.slice A1 l.length c1) u8 l (s ++ [⟨t, lo - 40, lo - 40 + d⟩]) wx))
      case first =>
        have hi := HI.out
        have HI' := Lib.hid hi
        clear hi
        go_region_law (first
          | (go_simp; go_at_call 43; refine P.out.mono ?_; rintro e w5 ⟨d, rfl, d0, d1, hc5, hg5⟩; have GA := Lib.hid (D3.out.drew.step hg5 hc5); have j3 := GA.out.2.2.2.1.cell 2; simp at j3; have hw1 : IntKind.i64.wrap (lo - 40 + d) = lo - 40 + d := (by rw [IntKind.wrap_i64]; omega); have j4 := (GA.out.2.2.2.1.below (Joins.below_alloc1 w5 (.cells #[.int .i64 t, .int .i64 (lo - 40), .int .i64 (lo - 40 + d)] 169))).cell 2; simp at j4; have ow7 := Lib.hid (own_below GA.out.2.2.2.2.2.2.1 (Joins.below_alloc1 w5 (.cells #[.int .i64 t, .int .i64 (lo - 40), .int .i64 (lo - 40 + d)] 169))); have hs5 : w1.heap.size + 1 ≤ w5.heap.size := GA.out.2.2.2.1.lt; clear hc5 hg5)
          | (refine step_append_lies _ (by rfl) _ _ _ (by rfl) (w1.heap.size + 1) 169 i0 _ 3 24 Try.underlying26 HI'.out.1 HI'.out.2.1 HI'.out.2.2.1 HI'.out.2.2.2 rfl (by omega) u s.length (s.flatMap SurgeD.cells) (by rfl) ow7.out ⟨w5.heap.size, 0, none⟩ 1 1 (SurgeD.cells ⟨t, lo - 40, lo - 40 + d⟩) (by rfl) (by rfl) (World.news_of_block (heap_alloc_new w5 _)) (surge_one _) (by omega) (by unfold maxLen; omega) (by omega) (by simp; omega) _ rfl ?_; intro g4 cap4 w4 hown4 hgrow4 hor4 hlt4; obtain ⟨t1, t2, t3⟩ := GA.out.next (x := ⟨t, lo - 40, lo - 40 + d⟩) hown4 hgrow4; have T3 := Lib.hid t3; clear hown4 hgrow4 hor4 t3))
        all_goals
          go_wp2_with fail
          go_meet
          exact ⟨d, _, d0, d1, T3⟩
      case rest =>
        obtain ⟨d, u8, d0, d1, G8⟩ := hcut
        clear P j2 D3
        go_wp2_with fail
        refine (l01Below_any p 700 _ (by omega) (by omega) G8.out.1).mono ?_
        rintro e w9 ⟨r, rfl, r0, r1, hc9, hg9⟩
        have G9 := Lib.hid (G8.out.step hg9 hc9)
        have V9 := Lib.hid (hVS.out.next (by omega) (lo - 40) d r (by omega) (by omega) d0 d1 r0 r1)
        clear hc9 hg9
        go_wp2
        go_roundw
        case rel => exact ⟨k - 1, u8, _, t + 100 + r, by simp; omega, by simp; omega, by go_num, rfl, V9, G9⟩
        case measure => simp [intOf]; omega
    · have hs0 : 0 < s.length := by omega
      have hs3 : s.length ≤ 3 := by omega
      have FC := Lib.hid (hVS.out.fc hs0 hs3 HV.out)
      obtain ⟨dc, dg, dk, dj, dv, dvb, du, _, _, _⟩ := hD.out
      obtain ⟨D9, d9, rfl⟩ := own_form du
      have j0 := dj.cell 0
      have j1 := dj.cell 1
      have j2 := dj.cell 2
      have k0 := dk.cell 0
      have k1 := dk.cell 1
      have k2 := dk.cell 2
      simp at j0 j1 j2 k0 k1 k2
      have f0 := dk.free 0
      have f1 := dk.free 1
      have f2 := dk.free 2
      have HDV := Lib.hid dv
      have HDU := Lib.hid du
      have HDC := Lib.hid dc
      have HDG := Lib.hid dg
      have hv1 := World.ownsRow.lt dv
      have LV := Lib.hid (show ∀ g, Value.ownBlock (.slice A1 l.length c1) = some g → w.heap.size ≤ g ∧ g ≠ w.heap.size from fun g hg => ⟨(hv1 g hg).1, fun e => (HNE.out g hg e)⟩)
      clear dc dg dk dj dv dvb du hD hVS hv1
      go_wp2
      refine bodyPost_ret (v := .agg #[.int .i64 m, .slice A1 l.length c1, .slice D9 s.length d9]) (by simp [results, Try.results83, go_sem, *]) rfl ⟨m, _, _, l, _, _, s, rfl, FC.out, hs3, ?_, ?_, ?_, ?_⟩
      · have key : ∀ (W : World) (j : Nat) (x : Value), OwnP W w.heap.size (.slice A1 l.length c1) l → OwnP (W.setCell ⟨w.heap.size, j, none⟩ x) w.heap.size (.slice A1 l.length c1) l := fun W j x h => by
          refine World.ownsRow.kept (row := some w.heap.size) h (grown_set1 W w.heap.size j x) ?_
          cases e : Value.ownBlock (.slice A1 l.length c1) with
          | none => exact .inl rfl
          | some g => right; intro e2; exact (LV.out g e).2 (Option.some.inj e2)
        repeat (first | exact HDV.out | refine key _ _ _ ?_)
      · refine own_lo (base := w1.heap.size + 1) ?_ (by omega)
        repeat (first | exact HDU.out | refine own_set_under ?_ (by simp; omega) _)
      · repeat (first | exact HDC.out | refine Cursor.set ?_ hp _ _)
      · repeat (first | exact HDG.out | refine grown_setNew ?_ (Nat.le_refl _) _)
end Go.Proofs.Ytooeikimoheecaa
